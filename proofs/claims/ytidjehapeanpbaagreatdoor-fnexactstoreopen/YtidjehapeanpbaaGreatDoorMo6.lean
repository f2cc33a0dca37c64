/-
  (*treeReader).read: the nodes at and below a sheet.
-/
import Derived.Test.YtidjehapeanpbaaGreatDoorMo5
import Derived.Test.YtidjehapeanpbaaGreatDoorMo2
import Derived.Test.YtidjehapeanpbaaGreatDoorMo3
import Derived.Test.YtidjehapeanpbaaGreatDoorMo4
import Derived.Laws.CopyOwn
import Derived.Test.YtidjehapeanpbaaGreatDoorMo1
import Derived.RangeFuncNested
import Derived.RangeFuncBound
import Derived.RangeFuncCalls
import Derived.RangeFuncLeaves
import Derived.Shelf.Abstract
import Derived.Shelf.RegionOpen
import Derived.WalkKit
import Derived.OwnWalkIn
import Derived.TacticsInMore
import Derived.LoopNIn
import Derived.LoopIn
namespace Go.Proofs.YtidjehapeanpbaaGreatDoor
open Go.RowKit
set_option linter.unusedVariables false
theorem pgAt_out {ss : List (List Int)} {t : Int} (h : (ss.length : Int) ≤ t) : pgAt ss t = none := by
 rw [pgAt, if_neg (by omega)]
theorem pgAt_in {ss : List (List Int)} {t : Int} (h0 : 0 ≤ t) (h : t < (ss.length : Int)) : pgAt ss t = prd (shAt ss t.toNat) := by
 rw [pgAt, if_pos ⟨h0, h⟩]
theorem nAt_addK_other {ns : List NB} {me i : Nat} (q : Int) (h : i ≠ me) : nAt (addK ns me q) i = nAt ns i := by simp [nAt, addK, Ne.symm h]
theorem nAt_addK_me {ns : List NB} {me : Nat} (q : Int) (h : me < ns.length) : nAt (addK ns me q) me = ⟨(nAt ns me).ps, (nAt ns me).keys, (nAt ns me).kids ++ [q]⟩ := by simp [nAt, addK, h]
theorem ldK_old {F : Int → LS → Option LS} (hF : ∀ t s s', F t s = some s' → s.1.length ≤ s'.1.length ∧ ∀ i, i < s.1.length → nAt s'.1 i = nAt s.1 i) (me : Nat) : ∀ (ks : List Int) (s s' : LS), ldK F me ks s = some s' → ∀ i, i < s.1.length → i ≠ me → nAt s'.1 i = nAt s.1 i
 | [], s, s', h, i, hi, hm => by cases h; rfl
 | k :: ks, s, s', h, i, hi, hm => by
  rw [ldK] at h
  cases e : F k (addK s.1 me (s.1.length : Int), s.2) with
  | none => rw [e] at h; cases h
  | some s2 =>
   rw [e] at h
   have h1 := hF _ _ _ e
   simp only [addK_len] at h1
   rw [ldK_old hF me ks s2 s' h i (by omega) hm, h1.2 i hi, nAt_addK_other _ hm]
theorem ldV_old (ss : List (List Int)) : ∀ (f : Nat) (t : Int) (s s' : LS), ldV ss f t s = some s' → ∀ i, i < s.1.length → nAt s'.1 i = nAt s.1 i
 | 0, t, s, s', h => by cases h
 | f + 1, t, s, s', h => by
  intro i hi
  rw [ldV] at h
  cases e : pgAt ss t with
  | none => rw [e] at h; cases h
  | some p =>
   rw [e] at h
   simp only at h
   by_cases hb : t ∈ s.2 ∨ 400 ≤ s.1.length
   ·rw [if_pos hb] at h; cases h
   ·rw [if_neg hb] at h
    rw [ldK_old (fun t s s' h => ⟨by have := ldV_len ss f t s s' h; omega, ldV_old ss f t s s' h⟩) s.1.length p.kids _ s' h i (by simp; omega) (by omega)]
    exact nAt_append_left hi
theorem nodeP_kids (p : PG) : (nodeP p).kids = [] := by
 unfold nodeP
 split <;> rfl
set_option maxHeartbeats 8000000 in
set_option maxRecDepth 100000 in
theorem treeRead_step (ss : List (List Int)) (f : Nat) (sa : Option Addr) (sn sc r : Nat) (IH : ∀ f', f = f' + 1 → RdAll ss f' sa sn sc r) : RdAll ss f sa sn sc r := by
 intro S P na nn nc pa pn pc V s t w hRH hS hP hR hpl hn4 hf ht
 have HH := hid hRH
 have HR := hid hR
 have HNN := hid (own_at hR.nod.row).1
 have hnc := (own_at hR.nod.row).2.1
 have hnc' := (own_at hR.nod.row).2.2.1
 have HPN := hid (own_at hR.pla).1
 have hpc := (own_at hR.pla).2.1
 have hpc' := (own_at hR.pla).2.2.1
 have HSN := hid hRH.sh.len.1
 have hsc := hRH.sh.len.2.1
 have hsc' := hRH.sh.len.2.2
 have HIR : Hid (∀ v, Below w.heap.size w v → Ir v (fun _ => True) (.slice pa pn pc) s.2) := fun v hv => rw_own (HR.out.below hv).pla (fun _ _ _ _ => trivial)
 have c0 := hR.box.cell (j := 0) rfl
 have c1 := hR.box.cell (j := 1) rfl
 have c2 := hR.box.cell (j := 2) rfl
 have HL4 := hid hn4
 have HF := hid hf
 have HPL := hid hpl
 have HS := hid hS
 have HP := hid hP
 clear hRH hR hpl hn4 hf hS hP
 by_cases q1 : (sn : Int) ≤ t
 ·have HB : Hid (ldV ss f t s = none) := ldV_page (pgAt_out (by rw [← HSN.out]; exact q1))
  go_enter Tryz.func76, Tryz.ntmps76
  go_wp2
  go_ret
  exact ⟨Only.refl _ _, .inl ⟨HB.out, rfl⟩⟩
 ·have q1' : t < (sn : Int) := by omega
  by_cases q2 : t ∈ s.2
  ·have HB : Hid (ldV ss f t s = none) := ldV_bad (.inl q2)
   have HC : Hid (decide (t ∈ s.2) = true) := decide_eq_true q2
   clear q2
   go_enter Tryz.func76, Tryz.ntmps76
   go_wp2_with fail
   refine (containsI_any (fun _ => True) pa pn pc s.2 t _ (HIR.out _ (Below.refl _ _))).mono ?_
   rintro e w1 ⟨rfl, rfl⟩
   rw [HC.out]
   go_wp2
   go_ret
   exact ⟨Only.refl _ _, .inl ⟨HB.out, rfl⟩⟩
  ·have HC : Hid (decide (t ∈ s.2) = false) := decide_eq_false q2
   by_cases q3 : nn = 400
   ·have HB : Hid (ldV ss f t s = none) := ldV_bad (.inr (by rw [← HNN.out]; omega))
    clear q2
    subst q3
    go_enter Tryz.func76, Tryz.ntmps76
    go_wp2_with fail
    refine (containsI_any (fun _ => True) pa pn pc s.2 t _ (HIR.out _ (Below.refl _ _))).mono ?_
    rintro e w1 ⟨rfl, rfl⟩
    rw [HC.out]
    go_wp2
    go_ret
    exact ⟨Only.refl _ _, .inl ⟨HB.out, rfl⟩⟩
   ·have q3' : ((nn : Int) == 400) = false := by simp; omega
    have HF1 : Hid (∃ f', f = f' + 1) := by
     have h1 := HF.out
     have h2 := HL4.out
     have h3 := HNN.out
     exact ⟨f - 1, by omega⟩
    obtain ⟨f', rfl⟩ := HF1.out
    have HI := hid (IH f' rfl)
    have HQ : Hid (¬ (t ∈ s.2 ∨ 400 ≤ s.1.length)) := by
     have h2 := HL4.out
     have h3 := HNN.out
     exact fun h => h.elim q2 (fun h => by omega)
    clear IH HF1 q2
    obtain ⟨sb, so, rfl, HSB, hsb, hcs⟩ := HH.out.sh.at (by omega)
    obtain ⟨k, rfl⟩ : ∃ k : Nat, t = (k : Int) := ⟨t.toNat, by omega⟩
    obtain ⟨ya, yn, yc, cy, hby⟩ := hcs k (by omega)
    clear hcs
    have HPG : Hid (pgAt ss (k : Int) = prd (shAt ss k)) := by
     have h3 := HSN.out
     exact pgAt_in (by omega) (by omega)
    have HYL := hby.len
    have HRD : Hid (Rd w ya yn yc (shAt ss k)) := hby.rd (by rw [HYL.1]; exact HH.out.sm k (by have := HSN.out; omega))
    clear hby HYL
    go_enter Tryz.func76, Tryz.ntmps76
    go_wp2_with fail
    refine (containsI_any (fun _ => True) pa pn pc s.2 k _ (HIR.out _ (Below.refl _ _))).mono ?_
    rintro e w1 ⟨rfl, rfl⟩
    rw [HC.out]
    go_wp2_with fail
    refine (implPageRead_any ya yn yc (shAt ss k) _ HRD.out HH.out.e1.1 HH.out.e2.1 HH.out.e3.1).mono ?_
    rintro e w1 ⟨hb1, ⟨hz, rfl⟩ | ⟨p, ka, kn, kc, va, vn, vc, ia, jn, ic, hz, rfl, hPO, hfr⟩⟩
    ·have HB : Hid (ldV ss (f' + 1) (k : Int) s = none) := ldV_page (by rw [HPG.out]; exact hz)
     have HB1 := hid hb1
     clear hb1 hz
     go_wp2
     go_ret
     exact ⟨only_of_below (bt7 HB1.out (below_new (Below.refl _ _))) _, .inl ⟨HB.out, rfl⟩⟩
    ·have HB1 := hid hb1
     have HPO := hid hPO
     have HFR := hid hfr
     have HOK := hid (prd_ok hz)
     have HZ : Hid (pgAt ss (k : Int) = some p) := by show _ = _; rw [HPG.out]; exact hz
     have HB2 : Hid (Below w.heap.size w (w1.alloc (.cells #[.slice ka kn kc, .slice va vn vc, .slice ia jn ic] 107))) := bt7 hb1 (below_new (Below.refl _ _))
     have HB3 : Hid (Below w1.heap.size w1 (w1.alloc (.cells #[.slice ka kn kc, .slice va vn vc, .slice ia jn ic] 107))) := below_new (Below.refl _ _)
     have KB := hid (Bk.new w1 107 [.slice ka kn kc, .slice va vn vc, .slice ia jn ic])
     clear hb1 hPO hfr hz HC HPG HRD
     have PO2 := hid (HPO.out.below HB3.out)
     have HSZ : Hid (w.heap.size ≤ w1.heap.size ∧ w1.heap.size < (w1.alloc (.cells #[.slice ka kn kc, .slice va vn vc, .slice ia jn ic] 107)).heap.size ∧ ∀ y, pbl (.slice ka kn kc) (.slice va vn vc) (.slice ia jn ic) y → y ≠ w1.heap.size) := by
      refine ⟨HB1.out.size, KB.out.lt, fun y hy e => ?_⟩
      have hp := HPO.out
      rcases hy with hy | hy | hy
      ·have := (World.ownsRow.lt hp.hk y hy).2; omega
      ·have := (World.ownsRow.lt hp.hv y hy).2; omega
      ·have := (World.ownsRow.lt hp.hi y hy).2; omega
     have HQX : Hid (∃ Q : Nat → Prop, ∀ y, Q y ↔ (P y ∨ (w.heap.size ≤ y ∧ (Value.slice ia jn ic).ownBlock ≠ some y ∧ y ≠ w1.heap.size))) := ⟨_, fun _ => Iff.rfl⟩
     obtain ⟨Q, hQ⟩ := HQX.out
     have HQQ := hid hQ
     clear hQ HQX
     have RS2 : Hid (RS (w1.alloc (.cells #[.slice ka kn kc, .slice va vn vc, .slice ia jn ic] 107)) Q r (.slice (some ⟨sb, so, none⟩) sn sc) na nn nc pa pn pc V s) := (HR.out.below HB2.out).mono (fun y _ hy => (HQQ.out y).2 (.inl hy))
     have HNQ : Hid (∀ y, ((Value.slice ia jn ic).ownBlock = some y ∨ y = w1.heap.size) → ¬ Q y) := by
      intro y hy hq
      rcases (HQQ.out y).1 hq with h | h
      ·have h1 := HP.out y h
       rcases hy with hy | hy
       ·have := HFR.out y (.inr (.inr hy)); omega
       ·have := HSZ.out.1; omega
      ·rcases hy with hy | hy
       ·exact h.2.1 hy
       ·exact h.2.2 hy
     have HR0 := HR
     go_wp2_with fail
     clear HB3 HPO c0 c1 c2 cy HIR HR HB1
     generalize w1.alloc (.cells #[.slice ka kn kc, .slice va vn vc, .slice ia jn ic] 107) = U at *
     generalize w1.heap.size = pb at *
     clear w1
     have c1 := RS2.out.box.cell (j := 1) rfl
     have HSX : Hid (∀ v, Only Q U v → v.cell? ⟨pb, 0, none⟩ = some (.slice ka kn kc) ∧ v.cell? ⟨pb, 1, none⟩ = some (.slice va vn vc) ∧ v.cell? ⟨pb, 2, none⟩ = some (.slice ia jn ic)) := fun v hv => by
      have h := KB.out.to hv (HNQ.out pb (.inr rfl))
      exact ⟨h.cell (j := 0) rfl, h.cell (j := 1) rfl, h.cell (j := 2) rfl⟩
     have HS0 := hid (HSX.out U.drew (only_of_below (below_drew _) _))
     have HNO := hid (fun v (h : Below U.heap.size U v) => nodeOf_any ka kn kc va vn vc ia jn ic p v (PO2.out.below h) HOK.out)
     -- what the append of the node leaves
     have HPU : Hid (∀ (w2 : World) (n1 n2 n3 : Value) (w3 w5 : World) (a5 : Option Addr) (n5 c5 : Nat), OwN w2 (n1, n2, n3) (nodeP p) → ap3 (n1, n2, n3) → (∀ y, bl (n1, n2, n3) y → (Value.slice ka kn kc).ownBlock = some y ∨ U.heap.size ≤ y) → Below U.heap.size U w2 → Below w2.heap.size w2 w3 → w5.ownsRow 0 85 3 (.slice a5 n5 c5) (s.1.length + 1) (ncs V ++ [n1, n2, n3]) → w3.grownBy w5 (Value.slice na nn nc).ownBlock → ((Value.slice a5 n5 c5).ownBlock = (Value.slice na nn nc).ownBlock ∨ (Value.slice a5 n5 c5).ownBlock = some w3.heap.size) →
       RS (w5.setCell ⟨r, 1, none⟩ (.slice a5 n5 c5)) Q r (.slice (some ⟨sb, so, none⟩) sn sc) a5 n5 c5 pa pn pc (V ++ [(n1, n2, n3)]) (s.1 ++ [nodeP p], s.2) ∧ Only Q U (w5.setCell ⟨r, 1, none⟩ (.slice a5 n5 c5)) ∧ Only Q U w5) := by
      intro w2 n1 n2 n3 w3 w5 a5 n5 c5 hO hA hBl h2 h3 hO5 hg5 ha5
      have R2 := RS2.out
      have R3 := (R2.below h2).below h3
      have hU2 := h2.size
      have hU3 := h3.size
      have hiv : ∀ y, (Value.slice ia jn ic).ownBlock = some y → y < U.heap.size := fun y e => (World.ownsRow.lt PO2.out.hi y e).2
      have hnew : ∀ y, U.heap.size ≤ y → Q y := fun y hy => (HQQ.out y).2 (.inr ⟨by have := HB2.out.size; omega, fun e => by have := hiv y e; omega, by have := HSZ.out.2.1; omega⟩)
      have hold : ∀ y, (Value.slice ka kn kc).ownBlock = some y → w.heap.size ≤ y ∧ y < U.heap.size ∧ Q y := by
       intro y e
       have h1 := HFR.out y (.inl e)
       exact ⟨h1, (World.ownsRow.lt PO2.out.hk y e).2, (HQQ.out y).2 (.inr ⟨h1, ((PO2.out.ap y).1 e).2, HSZ.out.2.2 y (.inl e)⟩)⟩
      have ho5 : Only Q U w5 := ((only_of_below h2 Q).trans (only_of_below h3 Q)).trans (only_of_grown hg5 (fun y e => (R2.pn' y e).1))
      refine ⟨R3.pushN (nodeP p) (n1, n2, n3) (hO.to (only_of_below h3 (fun _ => False)) (fun _ _ h => h)) hA (fun y hy => ?_) (hnew _ (by omega)) hO5 hg5 ha5, ho5.trans (only_set (R := Q) R2.pr _), ho5⟩
      have hP0 := HP.out
      have R0 := HR0.out
      rcases hBl y hy with e | e
      ·obtain ⟨e1, e2, e3⟩ := hold y e
       refine ⟨e3, fun h => ?_, fun h => ?_, fun h => ?_, fun i hi h => ?_⟩
       ·have := hP0 y (h ▸ R0.pr); omega
       ·have := hP0 y (R0.pn' y h).1; omega
       ·have := hP0 y (R0.pp y h).1; omega
       ·have := hP0 y (R0.pb i hi y h).1; omega
      ·refine ⟨hnew y e, fun h => ?_, fun h => ?_, fun h => ?_, fun i hi h => ?_⟩
       ·have := R2.box.lt; omega
       ·have := (World.ownsRow.lt R2.nod.row y h).2; omega
       ·have := (World.ownsRow.lt R2.pla y h).2; omega
       ·have := (R2.nod.own i hi).1.lt h; omega
     have HLEN : s.1.length ≤ 1048576 := by have := HL4.out; omega
     have HNE : Hid ((Value.slice na nn nc).ownBlock ≠ some r) := fun e => (RS2.out.pn' r e).2 rfl
     go_cut [] (fun wr => ∃ a5 n5 c5 V5, Hid (RS wr Q r (.slice (some ⟨sb, so, none⟩) sn sc) a5 n5 c5 pa pn pc V5 (s.1 ++ [nodeP p], s.2)) ∧ Hid (Only Q U wr))
     case first =>
      refine wp_region_noPanic ?_
      refine wp_region_held_drew (S := (fun v => v.cell? ⟨pb, 0, none⟩ = some (.slice ka kn kc) ∧ v.cell? ⟨pb, 1, none⟩ = some (.slice va vn vc) ∧ v.cell? ⟨pb, 2, none⟩ = some (.slice ia jn ic))) (by kernel_rfl) HS0.out (fun hHeld => ?_)
      simp only [List.size_toArray, List.length_cons, List.length_nil, Array.replicate_succ, Array.replicate_zero, Nat.reduceAdd, List.push_toArray, List.nil_append, List.cons_append]
      refine wpAnyH_take (i := 0) (v := (.pointer (some ⟨r, 0, none⟩))) rfl (by kernel_rfl) (by kernel_rfl) (by kernel_rfl) (fun _ _ _ h => h) (Or.inl ⟨by rfl, ?_⟩) (by assumption) ?_
      ·intro w hSw
       (try dsimp only at hSw)
       go_simp
      try simp only [List.getElem_toArray]
      try simp only [List.getElem_cons_succ]
      try simp only [List.getElem_cons_zero]
      try simp only [Act.put]
      try simp only [List.setIfInBounds_toArray]
      try simp only [List.set_cons_succ]
      try simp only [List.set_cons_zero]
      refine wpAnyH_take (i := 1) (v := (.pointer (some ⟨r, 0, none⟩))) rfl (by kernel_rfl) (by kernel_rfl) (by kernel_rfl) (fun _ _ _ h => h) (Or.inl ⟨by rfl, ?_⟩) (by assumption) ?_
      ·intro w hSw
       (try dsimp only at hSw)
       go_simp
      try simp only [List.getElem_toArray]
      try simp only [List.getElem_cons_succ]
      try simp only [List.getElem_cons_zero]
      try simp only [Act.put]
      try simp only [List.setIfInBounds_toArray]
      try simp only [List.set_cons_succ]
      try simp only [List.set_cons_zero]
      refine wpAnyH_take (i := 2) (v := (.pointer (some ⟨r, 0, none⟩))) rfl (by kernel_rfl) (by kernel_rfl) (by kernel_rfl) (fun _ _ _ h => h) (Or.inl ⟨by rfl, ?_⟩) (by assumption) ?_
      ·intro w hSw
       (try dsimp only at hSw)
       go_simp
      try simp only [List.getElem_toArray]
      try simp only [List.getElem_cons_succ]
      try simp only [List.getElem_cons_zero]
      try simp only [Act.put]
      try simp only [List.setIfInBounds_toArray]
      try simp only [List.set_cons_succ]
      try simp only [List.set_cons_zero]
      refine wpAnyH_take (i := 3) (v := (.pointer (some ⟨r, 1, none⟩))) rfl (by kernel_rfl) (by kernel_rfl) (by kernel_rfl) (fun _ _ _ h => h) (Or.inl ⟨by rfl, ?_⟩) (by assumption) ?_
      ·intro w hSw
       (try dsimp only at hSw)
       go_simp
      try simp only [List.getElem_toArray]
      try simp only [List.getElem_cons_succ]
      try simp only [List.getElem_cons_zero]
      try simp only [Act.put]
      try simp only [List.setIfInBounds_toArray]
      try simp only [List.set_cons_succ]
      try simp only [List.set_cons_zero]
      refine wpAnyH_take (i := 4) (v := (.pointer (some ⟨r, 1, none⟩))) rfl (by kernel_rfl) (by kernel_rfl) (by kernel_rfl) (fun _ _ _ h => h) (Or.inl ⟨by rfl, ?_⟩) (by assumption) ?_
      ·intro w hSw
       (try dsimp only at hSw)
       go_simp
      try simp only [List.getElem_toArray]
      try simp only [List.getElem_cons_succ]
      try simp only [List.getElem_cons_zero]
      try simp only [Act.put]
      try simp only [List.setIfInBounds_toArray]
      try simp only [List.set_cons_succ]
      try simp only [List.set_cons_zero]
      refine wpAnyH_take (i := 6) (v := (.agg #[.slice ka kn kc, .slice va vn vc, .slice ia jn ic])) rfl (by kernel_rfl) (by kernel_rfl) (by kernel_rfl) (fun _ _ _ h => h) (Or.inl ⟨by rfl, ?_⟩) (by assumption) ?_
      ·intro w hSw
       (try dsimp only at hSw)
       go_simp
      try simp only [List.getElem_toArray]
      try simp only [List.getElem_cons_succ]
      try simp only [List.getElem_cons_zero]
      try simp only [Act.put]
      try simp only [List.setIfInBounds_toArray]
      try simp only [List.set_cons_succ]
      try simp only [List.set_cons_zero]
      refine wpAnyH_ready (rs := [5, 7]) (by kernel_rfl) (by simp) ?_
      refine (AllReadyH.cons rfl (fun K1 hK => ?_) (AllReadyH.cons rfl (fun K1 hK => ?_) AllReadyH.nil))
      ·go_simp
       refine hK.out _ _ ?_ (fun hHeld => ?_)
       ·assumption
       clear hK K1
       try simp only [List.getElem_toArray]
       try simp only [List.getElem_cons_succ]
       try simp only [List.getElem_cons_zero]
       try simp only [Act.put]
       try simp only [List.setIfInBounds_toArray]
       try simp only [List.set_cons_succ]
       try simp only [List.set_cons_zero]
       refine wpAnyH_ready (rs := [7]) (by kernel_rfl) (by simp) ?_
       refine (AllReadyH.cons rfl (fun K1 hK => ?_) AllReadyH.nil)
       go_simp
       refine (HNO.out _ (below_drew _)).mono ?_
       rintro e w2 ⟨a1, n1, d1, a2, n2, d2, a3, n3, d3, rfl, hO, hA, hBl, hB⟩
       have B4 : Hid (Below U.heap.size U w2) := bt7 (below_drew U) hB
       have HO := hid hO
       have HA := hid hA
       have HBl := hid hBl
       have R4 := hid (RS2.out.below B4.out)
       have B5 : Hid (Below w2.heap.size w2 (w2.alloc (.cells #[.slice a1 n1 d1, .slice a2 n2 d2, .slice a3 n3 d3] 85))) := below_new (Below.refl _ _)
       have R5 := hid (R4.out.below B5.out)
       have H5 := hid R5.out.nod.row
       have KN := hid (Bk.new w2 85 [.slice a1 n1 d1, .slice a2 n2 d2, .slice a3 n3 d3])
       have S4 := HSX.out _ (only_of_below B4.out _)
       have S5 := HSX.out _ ((only_of_below B4.out _).trans (only_of_below B5.out _))
       have c4 := R4.out.box.cell (j := 1) rfl
       have c5' := R5.out.box.cell (j := 1) rfl
       have F5 := hid (R5.out.box.free 1)
       clear hO hA hBl hB
       go_wp2_with fail
       refine hK.out _ _ ?_ (fun hHeld => ?_)
       ·exact S4
       clear hK K1
       try simp only [List.getElem_toArray]
       try simp only [List.getElem_cons_succ]
       try simp only [List.getElem_cons_zero]
       try simp only [Act.put]
       try simp only [List.setIfInBounds_toArray]
       try simp only [List.set_cons_succ]
       try simp only [List.set_cons_zero]
       refine wpAnyH_ready (rs := [8]) (by kernel_rfl) (by simp) ?_
       refine (AllReadyH.cons rfl (fun K1 hK => ?_) AllReadyH.nil)
       go_simp
       refine hK.out _ _ ?_ (fun hHeld => ?_)
       ·exact S5
       clear hK K1
       try simp only [List.getElem_toArray]
       try simp only [List.getElem_cons_succ]
       try simp only [List.getElem_cons_zero]
       try simp only [Act.put]
       try simp only [List.setIfInBounds_toArray]
       try simp only [List.set_cons_succ]
       try simp only [List.set_cons_zero]
       refine wpAnyH_ready (rs := [9]) (by kernel_rfl) (by simp) ?_
       refine (AllReadyH.cons rfl (fun K1 hK => ?_) AllReadyH.nil)
       refine step_append_w rfl _ _ _ rfl 0 85 (.agg #[.slice none 0 0, .slice none 0 0, .slice none 0 0]) 3 72 Tryz.underlying31 infoNodeI rfl (by decide) (by decide) (.slice na nn nc) s.1.length (ncs V) rfl H5.out w2.heap.size [.slice a1 n1 d1, .slice a2 n2 d2, .slice a3 n3 d3] rfl (KN.out.rw (Nat.le_refl _) (by omega) (fun h => by omega) _ trivial) rfl (by intro y hy; simp at hy; rcases hy with rfl | rfl | rfl <;> rfl) HLEN (Nat.zero_le _) r 1 (.slice na nn nc) c5' F5.out HNE.out ?_
       intro a5 n5 c5 w5 hO5 hg5 ha5 hc5 hf5
       have P5 := hid (HPU.out w2 _ _ _ _ w5 a5 n5 c5 HO.out HA.out HBl.out B4.out B5.out hO5 hg5 ha5)
       have S6 := HSX.out _ P5.out.2.2
       have S7 := HSX.out _ P5.out.2.1
       clear hO5 hg5 ha5
       refine hK.out _ _ ?_ (fun hHeld => ?_)
       ·exact S6
       clear hK K1
       try simp only [List.getElem_toArray]
       try simp only [List.getElem_cons_succ]
       try simp only [List.getElem_cons_zero]
       try simp only [Act.put]
       try simp only [List.setIfInBounds_toArray]
       try simp only [List.set_cons_succ]
       try simp only [List.set_cons_zero]
       refine wpAnyH_take (i := 10) (v := (.pointer (some ⟨r, 0, none⟩))) rfl (by kernel_rfl) (by kernel_rfl) (by kernel_rfl) (fun _ _ _ h => h) (Or.inl ⟨by rfl, ?_⟩) (by assumption) ?_
       ·intro w hSw
        (try dsimp only at hSw)
        go_simp
       try simp only [List.getElem_toArray]
       try simp only [List.getElem_cons_succ]
       try simp only [List.getElem_cons_zero]
       try simp only [Act.put]
       try simp only [List.setIfInBounds_toArray]
       try simp only [List.set_cons_succ]
       try simp only [List.set_cons_zero]
       refine wpAnyH_take (i := 11) (v := (.pointer (some ⟨r, 1, none⟩))) rfl (by kernel_rfl) (by kernel_rfl) (by kernel_rfl) (fun _ _ _ h => h) (Or.inl ⟨by rfl, ?_⟩) (by assumption) ?_
       ·intro w hSw
        (try dsimp only at hSw)
        go_simp
       try simp only [List.getElem_toArray]
       try simp only [List.getElem_cons_succ]
       try simp only [List.getElem_cons_zero]
       try simp only [Act.put]
       try simp only [List.setIfInBounds_toArray]
       try simp only [List.set_cons_succ]
       try simp only [List.set_cons_zero]
       refine wpAnyH_take (i := 12) (v := (.pointer (some ⟨r, 1, none⟩))) rfl (by kernel_rfl) (by kernel_rfl) (by kernel_rfl) (fun _ _ _ h => h) (Or.inl ⟨by rfl, ?_⟩) (by assumption) ?_
       ·intro w hSw
        (try dsimp only at hSw)
        go_simp
       try simp only [List.getElem_toArray]
       try simp only [List.getElem_cons_succ]
       try simp only [List.getElem_cons_zero]
       try simp only [Act.put]
       try simp only [List.setIfInBounds_toArray]
       try simp only [List.set_cons_succ]
       try simp only [List.set_cons_zero]
       refine wpAnyH_ready (rs := [13]) (by kernel_rfl) (by simp) ?_
       refine (AllReadyH.cons rfl (fun K1 hK => ?_) AllReadyH.nil)
       go_simp
       refine hK.out _ _ ?_ (fun hHeld => ?_)
       ·exact S7
       clear hK K1
       try simp only [List.getElem_toArray]
       try simp only [List.getElem_cons_succ]
       try simp only [List.getElem_cons_zero]
       try simp only [Act.put]
       try simp only [List.setIfInBounds_toArray]
       try simp only [List.set_cons_succ]
       try simp only [List.set_cons_zero]
       refine wpAnyH_done (by kernel_rfl) ?_ _
       refine NoPanic.normal ?_
       go_wp2_with fail
       go_meet
       exact ⟨a5, n5, c5, _, P5.out.1, P5.out.2.1⟩
      ·go_simp
       refine (HNO.out _ (below_drew _)).mono ?_
       rintro e w2 ⟨a1, n1, d1, a2, n2, d2, a3, n3, d3, rfl, hO, hA, hBl, hB⟩
       have B4 : Hid (Below U.heap.size U w2) := bt7 (below_drew U) hB
       have HO := hid hO
       have HA := hid hA
       have HBl := hid hBl
       have R4 := hid (RS2.out.below B4.out)
       have B5 : Hid (Below w2.heap.size w2 (w2.alloc (.cells #[.slice a1 n1 d1, .slice a2 n2 d2, .slice a3 n3 d3] 85))) := below_new (Below.refl _ _)
       have R5 := hid (R4.out.below B5.out)
       have H5 := hid R5.out.nod.row
       have KN := hid (Bk.new w2 85 [.slice a1 n1 d1, .slice a2 n2 d2, .slice a3 n3 d3])
       have S4 := HSX.out _ (only_of_below B4.out _)
       have S5 := HSX.out _ ((only_of_below B4.out _).trans (only_of_below B5.out _))
       have c4 := R4.out.box.cell (j := 1) rfl
       have c5' := R5.out.box.cell (j := 1) rfl
       have F5 := hid (R5.out.box.free 1)
       clear hO hA hBl hB
       go_wp2_with fail
       refine hK.out _ _ ?_ (fun hHeld => ?_)
       ·exact S4
       clear hK K1
       try simp only [List.getElem_toArray]
       try simp only [List.getElem_cons_succ]
       try simp only [List.getElem_cons_zero]
       try simp only [Act.put]
       try simp only [List.setIfInBounds_toArray]
       try simp only [List.set_cons_succ]
       try simp only [List.set_cons_zero]
       refine wpAnyH_ready (rs := [5, 8]) (by kernel_rfl) (by simp) ?_
       refine (AllReadyH.cons rfl (fun K1 hK => ?_) (AllReadyH.cons rfl (fun K1 hK => ?_) AllReadyH.nil))
       ·go_simp
        refine hK.out _ _ ?_ (fun hHeld => ?_)
        ·exact S4
        clear hK K1
        try simp only [List.getElem_toArray]
        try simp only [List.getElem_cons_succ]
        try simp only [List.getElem_cons_zero]
        try simp only [Act.put]
        try simp only [List.setIfInBounds_toArray]
        try simp only [List.set_cons_succ]
        try simp only [List.set_cons_zero]
        refine wpAnyH_ready (rs := [8]) (by kernel_rfl) (by simp) ?_
        refine (AllReadyH.cons rfl (fun K1 hK => ?_) AllReadyH.nil)
        go_simp
        refine hK.out _ _ ?_ (fun hHeld => ?_)
        ·exact S5
        clear hK K1
        try simp only [List.getElem_toArray]
        try simp only [List.getElem_cons_succ]
        try simp only [List.getElem_cons_zero]
        try simp only [Act.put]
        try simp only [List.setIfInBounds_toArray]
        try simp only [List.set_cons_succ]
        try simp only [List.set_cons_zero]
        refine wpAnyH_ready (rs := [9]) (by kernel_rfl) (by simp) ?_
        refine (AllReadyH.cons rfl (fun K1 hK => ?_) AllReadyH.nil)
        refine step_append_w rfl _ _ _ rfl 0 85 (.agg #[.slice none 0 0, .slice none 0 0, .slice none 0 0]) 3 72 Tryz.underlying31 infoNodeI rfl (by decide) (by decide) (.slice na nn nc) s.1.length (ncs V) rfl H5.out w2.heap.size [.slice a1 n1 d1, .slice a2 n2 d2, .slice a3 n3 d3] rfl (KN.out.rw (Nat.le_refl _) (by omega) (fun h => by omega) _ trivial) rfl (by intro y hy; simp at hy; rcases hy with rfl | rfl | rfl <;> rfl) HLEN (Nat.zero_le _) r 1 (.slice na nn nc) c5' F5.out HNE.out ?_
        intro a5 n5 c5 w5 hO5 hg5 ha5 hc5 hf5
        have P5 := hid (HPU.out w2 _ _ _ _ w5 a5 n5 c5 HO.out HA.out HBl.out B4.out B5.out hO5 hg5 ha5)
        have S6 := HSX.out _ P5.out.2.2
        have S7 := HSX.out _ P5.out.2.1
        clear hO5 hg5 ha5
        refine hK.out _ _ ?_ (fun hHeld => ?_)
        ·exact S6
        clear hK K1
        try simp only [List.getElem_toArray]
        try simp only [List.getElem_cons_succ]
        try simp only [List.getElem_cons_zero]
        try simp only [Act.put]
        try simp only [List.setIfInBounds_toArray]
        try simp only [List.set_cons_succ]
        try simp only [List.set_cons_zero]
        refine wpAnyH_take (i := 10) (v := (.pointer (some ⟨r, 0, none⟩))) rfl (by kernel_rfl) (by kernel_rfl) (by kernel_rfl) (fun _ _ _ h => h) (Or.inl ⟨by rfl, ?_⟩) (by assumption) ?_
        ·intro w hSw
         (try dsimp only at hSw)
         go_simp
        try simp only [List.getElem_toArray]
        try simp only [List.getElem_cons_succ]
        try simp only [List.getElem_cons_zero]
        try simp only [Act.put]
        try simp only [List.setIfInBounds_toArray]
        try simp only [List.set_cons_succ]
        try simp only [List.set_cons_zero]
        refine wpAnyH_take (i := 11) (v := (.pointer (some ⟨r, 1, none⟩))) rfl (by kernel_rfl) (by kernel_rfl) (by kernel_rfl) (fun _ _ _ h => h) (Or.inl ⟨by rfl, ?_⟩) (by assumption) ?_
        ·intro w hSw
         (try dsimp only at hSw)
         go_simp
        try simp only [List.getElem_toArray]
        try simp only [List.getElem_cons_succ]
        try simp only [List.getElem_cons_zero]
        try simp only [Act.put]
        try simp only [List.setIfInBounds_toArray]
        try simp only [List.set_cons_succ]
        try simp only [List.set_cons_zero]
        refine wpAnyH_take (i := 12) (v := (.pointer (some ⟨r, 1, none⟩))) rfl (by kernel_rfl) (by kernel_rfl) (by kernel_rfl) (fun _ _ _ h => h) (Or.inl ⟨by rfl, ?_⟩) (by assumption) ?_
        ·intro w hSw
         (try dsimp only at hSw)
         go_simp
        try simp only [List.getElem_toArray]
        try simp only [List.getElem_cons_succ]
        try simp only [List.getElem_cons_zero]
        try simp only [Act.put]
        try simp only [List.setIfInBounds_toArray]
        try simp only [List.set_cons_succ]
        try simp only [List.set_cons_zero]
        refine wpAnyH_ready (rs := [13]) (by kernel_rfl) (by simp) ?_
        refine (AllReadyH.cons rfl (fun K1 hK => ?_) AllReadyH.nil)
        go_simp
        refine hK.out _ _ ?_ (fun hHeld => ?_)
        ·exact S7
        clear hK K1
        try simp only [List.getElem_toArray]
        try simp only [List.getElem_cons_succ]
        try simp only [List.getElem_cons_zero]
        try simp only [Act.put]
        try simp only [List.setIfInBounds_toArray]
        try simp only [List.set_cons_succ]
        try simp only [List.set_cons_zero]
        refine wpAnyH_done (by kernel_rfl) ?_ _
        refine NoPanic.normal ?_
        go_wp2_with fail
        go_meet
        exact ⟨a5, n5, c5, _, P5.out.1, P5.out.2.1⟩
       ·go_simp
        refine hK.out _ _ ?_ (fun hHeld => ?_)
        ·exact S5
        clear hK K1
        try simp only [List.getElem_toArray]
        try simp only [List.getElem_cons_succ]
        try simp only [List.getElem_cons_zero]
        try simp only [Act.put]
        try simp only [List.setIfInBounds_toArray]
        try simp only [List.set_cons_succ]
        try simp only [List.set_cons_zero]
        refine wpAnyH_ready (rs := [5]) (by kernel_rfl) (by simp) ?_
        refine (AllReadyH.cons rfl (fun K1 hK => ?_) AllReadyH.nil)
        go_simp
        refine hK.out _ _ ?_ (fun hHeld => ?_)
        ·exact S5
        clear hK K1
        try simp only [List.getElem_toArray]
        try simp only [List.getElem_cons_succ]
        try simp only [List.getElem_cons_zero]
        try simp only [Act.put]
        try simp only [List.setIfInBounds_toArray]
        try simp only [List.set_cons_succ]
        try simp only [List.set_cons_zero]
        refine wpAnyH_ready (rs := [9]) (by kernel_rfl) (by simp) ?_
        refine (AllReadyH.cons rfl (fun K1 hK => ?_) AllReadyH.nil)
        refine step_append_w rfl _ _ _ rfl 0 85 (.agg #[.slice none 0 0, .slice none 0 0, .slice none 0 0]) 3 72 Tryz.underlying31 infoNodeI rfl (by decide) (by decide) (.slice na nn nc) s.1.length (ncs V) rfl H5.out w2.heap.size [.slice a1 n1 d1, .slice a2 n2 d2, .slice a3 n3 d3] rfl (KN.out.rw (Nat.le_refl _) (by omega) (fun h => by omega) _ trivial) rfl (by intro y hy; simp at hy; rcases hy with rfl | rfl | rfl <;> rfl) HLEN (Nat.zero_le _) r 1 (.slice na nn nc) c5' F5.out HNE.out ?_
        intro a5 n5 c5 w5 hO5 hg5 ha5 hc5 hf5
        have P5 := hid (HPU.out w2 _ _ _ _ w5 a5 n5 c5 HO.out HA.out HBl.out B4.out B5.out hO5 hg5 ha5)
        have S6 := HSX.out _ P5.out.2.2
        have S7 := HSX.out _ P5.out.2.1
        clear hO5 hg5 ha5
        refine hK.out _ _ ?_ (fun hHeld => ?_)
        ·exact S6
        clear hK K1
        try simp only [List.getElem_toArray]
        try simp only [List.getElem_cons_succ]
        try simp only [List.getElem_cons_zero]
        try simp only [Act.put]
        try simp only [List.setIfInBounds_toArray]
        try simp only [List.set_cons_succ]
        try simp only [List.set_cons_zero]
        refine wpAnyH_take (i := 10) (v := (.pointer (some ⟨r, 0, none⟩))) rfl (by kernel_rfl) (by kernel_rfl) (by kernel_rfl) (fun _ _ _ h => h) (Or.inl ⟨by rfl, ?_⟩) (by assumption) ?_
        ·intro w hSw
         (try dsimp only at hSw)
         go_simp
        try simp only [List.getElem_toArray]
        try simp only [List.getElem_cons_succ]
        try simp only [List.getElem_cons_zero]
        try simp only [Act.put]
        try simp only [List.setIfInBounds_toArray]
        try simp only [List.set_cons_succ]
        try simp only [List.set_cons_zero]
        refine wpAnyH_take (i := 11) (v := (.pointer (some ⟨r, 1, none⟩))) rfl (by kernel_rfl) (by kernel_rfl) (by kernel_rfl) (fun _ _ _ h => h) (Or.inl ⟨by rfl, ?_⟩) (by assumption) ?_
        ·intro w hSw
         (try dsimp only at hSw)
         go_simp
        try simp only [List.getElem_toArray]
        try simp only [List.getElem_cons_succ]
        try simp only [List.getElem_cons_zero]
        try simp only [Act.put]
        try simp only [List.setIfInBounds_toArray]
        try simp only [List.set_cons_succ]
        try simp only [List.set_cons_zero]
        refine wpAnyH_take (i := 12) (v := (.pointer (some ⟨r, 1, none⟩))) rfl (by kernel_rfl) (by kernel_rfl) (by kernel_rfl) (fun _ _ _ h => h) (Or.inl ⟨by rfl, ?_⟩) (by assumption) ?_
        ·intro w hSw
         (try dsimp only at hSw)
         go_simp
        try simp only [List.getElem_toArray]
        try simp only [List.getElem_cons_succ]
        try simp only [List.getElem_cons_zero]
        try simp only [Act.put]
        try simp only [List.setIfInBounds_toArray]
        try simp only [List.set_cons_succ]
        try simp only [List.set_cons_zero]
        refine wpAnyH_ready (rs := [13]) (by kernel_rfl) (by simp) ?_
        refine (AllReadyH.cons rfl (fun K1 hK => ?_) AllReadyH.nil)
        go_simp
        refine hK.out _ _ ?_ (fun hHeld => ?_)
        ·exact S7
        clear hK K1
        try simp only [List.getElem_toArray]
        try simp only [List.getElem_cons_succ]
        try simp only [List.getElem_cons_zero]
        try simp only [Act.put]
        try simp only [List.setIfInBounds_toArray]
        try simp only [List.set_cons_succ]
        try simp only [List.set_cons_zero]
        refine wpAnyH_done (by kernel_rfl) ?_ _
        refine NoPanic.normal ?_
        go_wp2_with fail
        go_meet
        exact ⟨a5, n5, c5, _, P5.out.1, P5.out.2.1⟩
     case rest =>
      obtain ⟨a5, n5, c5, V5, R5, O5⟩ := hcut
      have HNW : Hid (∀ y, U.heap.size ≤ y → Q y) := by
       intro y hy
       have hiv : ∀ y, (Value.slice ia jn ic).ownBlock = some y → y < U.heap.size := fun y e => (World.ownsRow.lt PO2.out.hi y e).2
       exact (HQQ.out y).2 (.inr ⟨by have := HB2.out.size; omega, fun e => by have := hiv y e; omega, by have := HSZ.out.2.1; omega⟩)
      have HQP : Hid (∀ y, y < w.heap.size → Q y → P y) := fun y hy hq => ((HQQ.out y).1 hq).elim id (fun h => by omega)
      have HSQ : Hid (∀ y, S y → ¬ Q y) := fun y hy hq => (HS.out y hy).2 (HQP.out y (HS.out y hy).1 hq)
      have HGO := hid (ldV_go (f := f') HZ.out HQ.out)
      have HK0 := hid (pgOk_shape HOK.out)
      have HRU := hid (HH.out.to (only_of_below HB2.out Q) HSQ.out)
      have B6 : Hid (Below wc.heap.size wc (wc.alloc (.cells #[.int .i64 (k : Int)] 3))) := below_new (Below.refl _ _)
      have R5b := hid (R5.out.below B6.out)
      have HRI := hid R5b.out.pla
      have KB5 := hid ((KB.out.to O5.out (HNQ.out pb (.inr rfl))).below B6.out)
      have c2 := R5.out.box.cell (j := 2) rfl
      have hkk : s.2.length ≤ 1048576 := by have h1 := HPL.out; have h2 := HL4.out; omega
      have hrp : pb ≠ r := fun e => HNQ.out pb (.inr rfl) (e ▸ R5.out.pr)
      have hpr : r ≠ pb := Ne.symm hrp
      clear HPU HNO HS0 c1 HNE RS2 HSX KB
      go_wp2_with (at_builtin; refine wpList_append_int1 rfl _ _ rfl _ s.2.length _ rfl HRI.out wc.heap.size (k : Int) rfl (Bk.new wc 3 [.int .i64 (k : Int)]) hkk ?_)
      intro a6 n6 c6 w6 hO6 hg6 ha6
      have R6 := hid (R5b.out.pushP (k : Int) (HNW.out _ (by have h1 := B6.out.size; have h2 := O5.out.size; omega)) hO6 hg6 (by simpa using ha6))
      have O6 : Hid (Only Q U (w6.setCell ⟨r, 2, none⟩ (.slice a6 n6 c6))) := ((O5.out.trans (only_of_below B6.out Q)).trans (only_of_grown hg6 (fun y e => (R5b.out.pp y e).1))).trans (only_set (R := Q) R5b.out.pr _)
      have og : Only (fun y => (Value.slice pa pn pc).ownBlock = some y) (wc.alloc (.cells #[.int .i64 (k : Int)] 3)) w6 := only_of_grown hg6 (fun y e => e)
      have K6 := R5b.out.box.to og (fun e => (R5b.out.pp r e).2.1 rfl)
      have z2 := K6.cell (j := 2) rfl
      have zf := K6.free 2
      have z3 := (KB5.out.to og (fun e => HNQ.out pb (.inr rfl) (R5b.out.pp pb e).1)).cell (j := 2) rfl
      clear hO6 hg6 ha6 og K6 HRI R5b B6 KB5
      have hic := (own_at PO2.out.hi).2.1
      have hic' := (own_at PO2.out.hi).2.2.1
      have HJN := hid (own_at PO2.out.hi).1
      go_wp2_with fail
      generalize w6.setCell ⟨r, 2, none⟩ (.slice a6 n6 c6) = W at *
      clear z2 zf z3 c2
      go_loopw [75] (fun i wr => ∃ (m : Nat) (s5 : LS) (a7 : Option Addr) (n7 c7 : Nat) (a8 : Option Addr) (n8 c8 : Nat) (V7 : List V3), m ≤ jn ∧ i = .int .i64 m ∧ Hid (RS wr Q r (.slice (some ⟨sb, so, none⟩) sn sc) a7 n7 c7 a8 n8 c8 V7 s5) ∧ Hid (Only Q U wr) ∧ Hid (s5.2.length = s5.1.length ∧ s.1.length < s5.1.length ∧ s5.1.length ≤ 400 ∧ (nAt s5.1 s.1.length).kids.length ≤ m) ∧ Hid (ldV ss (f' + 1) (k : Int) s = ldK (ldV ss f') s.1.length (p.kids.drop m) s5)) (fun i _ => jn - (intOf i).toNat)
      case atStart =>
       have h1 := HPL.out
       have h2 := HQ.out
       exact ⟨0, _, _, _, _, _, _, _, _, Nat.zero_le _, rfl, R6.out, O6.out, ⟨by simp; omega, by simp, by simp; omega, by rw [nAt_append_at, nodeP_kids]; exact Nat.le_refl _⟩, HGO.out⟩
      case round =>
       clear R6 O6 HGO R5 O5
       obtain ⟨m, s5, a7, n7, c7, a8, n8, c8, V7, hm, rfl, R7, O7, L7, E7⟩ := hrel
       by_cases hlt : m < jn
       ·have hlt' : (m : Int) < (jn : Int) := by omega
        have HKW : Ir wr (fun _ => True) (.slice ia jn ic) p.kids := rw_own (own_kept PO2.out.hi O7.out (fun y e => HNQ.out y (.inl e))) (fun _ _ _ _ => trivial)
        obtain ⟨ib, io, rfl, -, -, hci⟩ := HKW.at (by omega)
        have q0 := hci m hlt
        clear hci HKW
        have HML : Hid (m < p.kids.length) := by rw [← HJN.out]; exact hlt
        have HKA := hid (ldK_at (ldV ss f') s.1.length p.kids HML.out s5)
        have HKQ : Hid (0 ≤ iAt p.kids m) := by
         have e : iAt p.kids m = p.kids[m]'HML.out := by simp [iAt, HML.out]
         have := HK0.out.2.2.2 (iAt p.kids m) (by rw [e]; exact List.getElem_mem _)
         show 0 ≤ _
         omega
        generalize iAt p.kids m = q at *
        have HN7 := own_at R7.out.nod.row
        have HNL := hid HN7.1
        have hn7 := HN7.2.1
        have hn7' := HN7.2.2.1
        have hmn : nn < n7 := by have h1 := HNN.out; have h2 := HNL.out; have h3 := L7.out.2.1; omega
        have hmn' : (nn : Int) < (n7 : Int) := by omega
        obtain ⟨g, rfl, -, -, -, hcg⟩ := HN7.2.2.2 (by omega)
        clear HN7
        have HME : Hid (nn < s5.1.length) := by show _ < _; rw [← HNL.out]; exact hmn
        have HOW := hid (R7.out.nod.own nn HME.out)
        obtain ⟨ax, cx, hx⟩ := own_shape HOW.out.1.2.2
        generalize hnx : (nAt s5.1 nn).kids.length = nx at *
        have HNX := hid hnx
        have HX := hid hx
        have q2 := hcg (nn * 3 + 2) _ (ncs_at V7 nn (by rw [R7.out.nod.len]; exact HME.out)).2.2
        rw [hx] at q2
        clear hcg hnx hx
        have hnx4 : nx ≤ 1048576 := by
         have h1 := HNX.out
         have h2 := L7.out.2.2.2
         rw [← HNN.out] at h2
         have h3 := HK0.out.2.2.1
         have h4 := HML.out
         omega
        have HW2 : Hid (Below wr.heap.size wr ((wr.alloc (.cells #[.int .i64 (n7 : Int)] 3)).drew)) := bt7 (below_new (Below.refl _ _)) (below_drew _)
        have R8 := hid (R7.out.below HW2.out)
        have HSX : Hid (∀ v, Only (fun y => y = g ∨ (Value.slice ax nx cx).ownBlock = some y) wr v → v.cell? ⟨r, 1, none⟩ = some (.slice (some ⟨g, 0, none⟩) n7 c7)) := by
         intro v hv
         refine (R7.out.box.to hv (fun e => ?_)).cell (j := 1) rfl
         rcases e with e | e
         ·exact (R7.out.pn' g rfl).2 e.symm
         ·exact (R7.out.pb nn HME.out r (.inr (.inr (by rw [HX.out]; exact e)))).2 rfl
        have HS0 := hid (HSX.out wr.drew (only_of_below (below_drew _) _))
        have S5 := HSX.out _ (only_of_below HW2.out _)
        have HOW8 := hid (R8.out.nod.own nn HME.out)
        have H8 : Hid (World.ownsRow ((wr.alloc (.cells #[.int .i64 (n7 : Int)] 3)).drew) 0 3 1 (.slice ax nx cx) nx ((nAt s5.1 nn).kids.map (Value.int .i64))) := by
         have h1 := HOW8.out.1.2.2
         rw [HX.out, HNX.out] at h1
         exact h1
        have KN : Hid (Bk ((wr.alloc (.cells #[.int .i64 (n7 : Int)] 3)).drew) wr.heap.size 3 [.int .i64 (n7 : Int)]) := (Bk.new wr 3 [.int .i64 (n7 : Int)]).below (below_drew _)
        have HCX : Hid (((wr.alloc (.cells #[.int .i64 (n7 : Int)] 3)).drew).cell? ⟨g, nn * 3 + 2, none⟩ = some (.slice ax nx cx) ∧ ((wr.alloc (.cells #[.int .i64 (n7 : Int)] 3)).drew).frozen? ⟨g, nn * 3 + 2, none⟩ = false) := by
         obtain ⟨g', e, -, -, hfz, hcg⟩ := (own_at R8.out.nod.row).2.2.2 (by omega)
         cases e
         have h1 := hcg (nn * 3 + 2) _ (ncs_at V7 nn (by rw [R7.out.nod.len]; exact HME.out)).2.2
         rw [HX.out] at h1
         exact ⟨h1, hfz _⟩
        have q3 := HCX.out.1
        have HNE : Hid ((Value.slice ax nx cx).ownBlock ≠ some g) := fun e => R7.out.nod.off nn HME.out g (.inr (.inr (by rw [HX.out]; exact e))) rfl
        have HPU : Hid (∀ (a9 : Option Addr) (n9 c9 : Nat) (w9 : World), w9.ownsRow 0 3 1 (.slice a9 n9 c9) (nx + 1) ((nAt s5.1 nn).kids.map (Value.int .i64) ++ [.int .i64 (n7 : Int)]) → World.grownBy ((wr.alloc (.cells #[.int .i64 (n7 : Int)] 3)).drew) w9 (Value.slice ax nx cx).ownBlock → ((Value.slice a9 n9 c9).ownBlock = (Value.slice ax nx cx).ownBlock ∨ (Value.slice a9 n9 c9).ownBlock = some ((wr.alloc (.cells #[.int .i64 (n7 : Int)] 3)).drew).heap.size) →
          (∃ V9, RS (w9.setCell ⟨g, nn * 3 + 2, none⟩ (.slice a9 n9 c9)) Q r (.slice (some ⟨sb, so, none⟩) sn sc) (some ⟨g, 0, none⟩) n7 c7 a8 n8 c8 V9 (addK s5.1 nn (n7 : Int), s5.2)) ∧ Only (fun y => y = g ∨ (Value.slice ax nx cx).ownBlock = some y) wr w9 ∧ Only (fun y => y = g ∨ (Value.slice ax nx cx).ownBlock = some y) wr (w9.setCell ⟨g, nn * 3 + 2, none⟩ (.slice a9 n9 c9)) ∧ Only Q U (w9.setCell ⟨g, nn * 3 + 2, none⟩ (.slice a9 n9 c9))) := by
         intro a9 n9 c9 w9 hO9 hg9 ha9
         have hz1 := HX.out
         have o1 : Only (fun y => y = g ∨ (Value.slice ax nx cx).ownBlock = some y) wr w9 := (only_of_below HW2.out _).trans (only_of_grown hg9 (fun y e => .inr e))
         have o2 := o1.trans (only_set (R := fun y => y = g ∨ (Value.slice ax nx cx).ownBlock = some y) (p := ⟨g, nn * 3 + 2, none⟩) (.inl rfl) (.slice a9 n9 c9))
         refine ⟨⟨_, R8.out.kid HME.out (n7 : Int) (HNW.out _ (by have h1 := HW2.out.size; have h2 := O7.out.size; omega)) (by rw [HNX.out]; exact hO9) (by rw [hz1]; exact hg9) (by rw [hz1]; exact ha9)⟩, o1, o2, O7.out.trans (o2.mono (fun y _ e => ?_))⟩
         rcases e with e | e
         ·rw [e]; exact (R7.out.pn' g rfl).1
         ·exact (R7.out.pb nn HME.out y (.inr (.inr (by rw [hz1]; exact e)))).1
        clear HOW8
        go_wp2_with fail
        refine wp_region_noPanic ?_
        refine wp_region_held_drew (S := (fun v => v.cell? ⟨r, 1, none⟩ = some (.slice (some ⟨g, 0, none⟩) n7 c7))) (by kernel_rfl) HS0.out (fun hHeld => ?_)
        simp only [List.size_toArray, List.length_cons, List.length_nil, Array.replicate_succ, Array.replicate_zero, Nat.reduceAdd, List.push_toArray, List.nil_append, List.cons_append]
        refine wpAnyH_take (i := 0) (v := (.pointer (some ⟨r, 0, none⟩))) rfl (by kernel_rfl) (by kernel_rfl) (by kernel_rfl) (fun _ _ _ h => h) (Or.inl ⟨by rfl, ?_⟩) (by assumption) ?_
        ·intro w hSw
         (try dsimp only at hSw)
         go_simp
        try simp only [List.getElem_toArray]
        try simp only [List.getElem_cons_succ]
        try simp only [List.getElem_cons_zero]
        try simp only [Act.put]
        try simp only [List.setIfInBounds_toArray]
        try simp only [List.set_cons_succ]
        try simp only [List.set_cons_zero]
        refine wpAnyH_take (i := 1) (v := (.pointer (some ⟨r, 0, none⟩))) rfl (by kernel_rfl) (by kernel_rfl) (by kernel_rfl) (fun _ _ _ h => h) (Or.inl ⟨by rfl, ?_⟩) (by assumption) ?_
        ·intro w hSw
         (try dsimp only at hSw)
         go_simp
        try simp only [List.getElem_toArray]
        try simp only [List.getElem_cons_succ]
        try simp only [List.getElem_cons_zero]
        try simp only [Act.put]
        try simp only [List.setIfInBounds_toArray]
        try simp only [List.set_cons_succ]
        try simp only [List.set_cons_zero]
        refine wpAnyH_take (i := 2) (v := (.pointer (some ⟨r, 1, none⟩))) rfl (by kernel_rfl) (by kernel_rfl) (by kernel_rfl) (fun _ _ _ h => h) (Or.inl ⟨by rfl, ?_⟩) (by assumption) ?_
        ·intro w hSw
         (try dsimp only at hSw)
         go_simp
        try simp only [List.getElem_toArray]
        try simp only [List.getElem_cons_succ]
        try simp only [List.getElem_cons_zero]
        try simp only [Act.put]
        try simp only [List.setIfInBounds_toArray]
        try simp only [List.set_cons_succ]
        try simp only [List.set_cons_zero]
        refine wpAnyH_take (i := 3) (v := (.pointer (some ⟨r, 1, none⟩))) rfl (by kernel_rfl) (by kernel_rfl) (by kernel_rfl) (fun _ _ _ h => h) (Or.inl ⟨by rfl, ?_⟩) (by assumption) ?_
        ·intro w hSw
         (try dsimp only at hSw)
         go_simp
        try simp only [List.getElem_toArray]
        try simp only [List.getElem_cons_succ]
        try simp only [List.getElem_cons_zero]
        try simp only [Act.put]
        try simp only [List.setIfInBounds_toArray]
        try simp only [List.set_cons_succ]
        try simp only [List.set_cons_zero]
        refine wpAnyH_take (i := 4) (v := (.slice (some ⟨g, 0, none⟩) n7 c7)) rfl (by kernel_rfl) (by kernel_rfl) (by kernel_rfl) (fun _ _ _ h => h) (Or.inl ⟨by rfl, ?_⟩) (by assumption) ?_
        ·intro w hSw
         (try dsimp only at hSw)
         go_simp
        try simp only [List.getElem_toArray]
        try simp only [List.getElem_cons_succ]
        try simp only [List.getElem_cons_zero]
        try simp only [Act.put]
        try simp only [List.setIfInBounds_toArray]
        try simp only [List.set_cons_succ]
        try simp only [List.set_cons_zero]
        refine wpAnyH_take (i := 5) (v := (.int .i64 (nn : Int))) rfl (by kernel_rfl) (by kernel_rfl) (by kernel_rfl) (fun _ _ _ h => h) (Or.inl ⟨by rfl, ?_⟩) (by assumption) ?_
        ·intro w hSw
         (try dsimp only at hSw)
         go_simp
        try simp only [List.getElem_toArray]
        try simp only [List.getElem_cons_succ]
        try simp only [List.getElem_cons_zero]
        try simp only [Act.put]
        try simp only [List.setIfInBounds_toArray]
        try simp only [List.set_cons_succ]
        try simp only [List.set_cons_zero]
        refine wpAnyH_take (i := 6) (v := (.pointer (some ⟨r, 0, none⟩))) rfl (by kernel_rfl) (by kernel_rfl) (by kernel_rfl) (fun _ _ _ h => h) (Or.inl ⟨by rfl, ?_⟩) (by assumption) ?_
        ·intro w hSw
         (try dsimp only at hSw)
         go_simp
        try simp only [List.getElem_toArray]
        try simp only [List.getElem_cons_succ]
        try simp only [List.getElem_cons_zero]
        try simp only [Act.put]
        try simp only [List.setIfInBounds_toArray]
        try simp only [List.set_cons_succ]
        try simp only [List.set_cons_zero]
        refine wpAnyH_take (i := 7) (v := (.pointer (some ⟨r, 0, none⟩))) rfl (by kernel_rfl) (by kernel_rfl) (by kernel_rfl) (fun _ _ _ h => h) (Or.inl ⟨by rfl, ?_⟩) (by assumption) ?_
        ·intro w hSw
         (try dsimp only at hSw)
         go_simp
        try simp only [List.getElem_toArray]
        try simp only [List.getElem_cons_succ]
        try simp only [List.getElem_cons_zero]
        try simp only [Act.put]
        try simp only [List.setIfInBounds_toArray]
        try simp only [List.set_cons_succ]
        try simp only [List.set_cons_zero]
        refine wpAnyH_take (i := 8) (v := (.pointer (some ⟨r, 1, none⟩))) rfl (by kernel_rfl) (by kernel_rfl) (by kernel_rfl) (fun _ _ _ h => h) (Or.inl ⟨by rfl, ?_⟩) (by assumption) ?_
        ·intro w hSw
         (try dsimp only at hSw)
         go_simp
        try simp only [List.getElem_toArray]
        try simp only [List.getElem_cons_succ]
        try simp only [List.getElem_cons_zero]
        try simp only [Act.put]
        try simp only [List.setIfInBounds_toArray]
        try simp only [List.set_cons_succ]
        try simp only [List.set_cons_zero]
        refine wpAnyH_take (i := 9) (v := (.pointer (some ⟨r, 1, none⟩))) rfl (by kernel_rfl) (by kernel_rfl) (by kernel_rfl) (fun _ _ _ h => h) (Or.inl ⟨by rfl, ?_⟩) (by assumption) ?_
        ·intro w hSw
         (try dsimp only at hSw)
         go_simp
        try simp only [List.getElem_toArray]
        try simp only [List.getElem_cons_succ]
        try simp only [List.getElem_cons_zero]
        try simp only [Act.put]
        try simp only [List.setIfInBounds_toArray]
        try simp only [List.set_cons_succ]
        try simp only [List.set_cons_zero]
        refine wpAnyH_take (i := 10) (v := (.slice (some ⟨g, 0, none⟩) n7 c7)) rfl (by kernel_rfl) (by kernel_rfl) (by kernel_rfl) (fun _ _ _ h => h) (Or.inl ⟨by rfl, ?_⟩) (by assumption) ?_
        ·intro w hSw
         (try dsimp only at hSw)
         go_simp
        try simp only [List.getElem_toArray]
        try simp only [List.getElem_cons_succ]
        try simp only [List.getElem_cons_zero]
        try simp only [Act.put]
        try simp only [List.setIfInBounds_toArray]
        try simp only [List.set_cons_succ]
        try simp only [List.set_cons_zero]
        refine wpAnyH_take (i := 11) (v := (.int .i64 (nn : Int))) rfl (by kernel_rfl) (by kernel_rfl) (by kernel_rfl) (fun _ _ _ h => h) (Or.inl ⟨by rfl, ?_⟩) (by assumption) ?_
        ·intro w hSw
         (try dsimp only at hSw)
         go_simp
        try simp only [List.getElem_toArray]
        try simp only [List.getElem_cons_succ]
        try simp only [List.getElem_cons_zero]
        try simp only [Act.put]
        try simp only [List.setIfInBounds_toArray]
        try simp only [List.set_cons_succ]
        try simp only [List.set_cons_zero]
        refine wpAnyH_take (i := 12) (v := (.pointer (some ⟨g, nn * 3, none⟩))) rfl (by kernel_rfl) (by kernel_rfl) (by kernel_rfl) (fun _ _ _ h => h) (Or.inl ⟨by rfl, ?_⟩) (by assumption) ?_
        ·intro w hSw
         (try dsimp only at hSw)
         go_simp
        try simp only [List.getElem_toArray]
        try simp only [List.getElem_cons_succ]
        try simp only [List.getElem_cons_zero]
        try simp only [Act.put]
        try simp only [List.setIfInBounds_toArray]
        try simp only [List.set_cons_succ]
        try simp only [List.set_cons_zero]
        refine wpAnyH_take (i := 13) (v := (.pointer (some ⟨g, nn * 3 + 2, none⟩))) rfl (by kernel_rfl) (by kernel_rfl) (by kernel_rfl) (fun _ _ _ h => h) (Or.inl ⟨by rfl, ?_⟩) (by assumption) ?_
        ·intro w hSw
         (try dsimp only at hSw)
         go_simp
        try simp only [List.getElem_toArray]
        try simp only [List.getElem_cons_succ]
        try simp only [List.getElem_cons_zero]
        try simp only [Act.put]
        try simp only [List.setIfInBounds_toArray]
        try simp only [List.set_cons_succ]
        try simp only [List.set_cons_zero]
        refine wpAnyH_take (i := 15) (v := (.pointer (some ⟨r, 0, none⟩))) rfl (by kernel_rfl) (by kernel_rfl) (by kernel_rfl) (fun _ _ _ h => h) (Or.inl ⟨by rfl, ?_⟩) (by assumption) ?_
        ·intro w hSw
         (try dsimp only at hSw)
         go_simp
        try simp only [List.getElem_toArray]
        try simp only [List.getElem_cons_succ]
        try simp only [List.getElem_cons_zero]
        try simp only [Act.put]
        try simp only [List.setIfInBounds_toArray]
        try simp only [List.set_cons_succ]
        try simp only [List.set_cons_zero]
        refine wpAnyH_take (i := 16) (v := (.pointer (some ⟨r, 0, none⟩))) rfl (by kernel_rfl) (by kernel_rfl) (by kernel_rfl) (fun _ _ _ h => h) (Or.inl ⟨by rfl, ?_⟩) (by assumption) ?_
        ·intro w hSw
         (try dsimp only at hSw)
         go_simp
        try simp only [List.getElem_toArray]
        try simp only [List.getElem_cons_succ]
        try simp only [List.getElem_cons_zero]
        try simp only [Act.put]
        try simp only [List.setIfInBounds_toArray]
        try simp only [List.set_cons_succ]
        try simp only [List.set_cons_zero]
        refine wpAnyH_take (i := 17) (v := (.pointer (some ⟨r, 1, none⟩))) rfl (by kernel_rfl) (by kernel_rfl) (by kernel_rfl) (fun _ _ _ h => h) (Or.inl ⟨by rfl, ?_⟩) (by assumption) ?_
        ·intro w hSw
         (try dsimp only at hSw)
         go_simp
        try simp only [List.getElem_toArray]
        try simp only [List.getElem_cons_succ]
        try simp only [List.getElem_cons_zero]
        try simp only [Act.put]
        try simp only [List.setIfInBounds_toArray]
        try simp only [List.set_cons_succ]
        try simp only [List.set_cons_zero]
        refine wpAnyH_take (i := 18) (v := (.pointer (some ⟨r, 1, none⟩))) rfl (by kernel_rfl) (by kernel_rfl) (by kernel_rfl) (fun _ _ _ h => h) (Or.inl ⟨by rfl, ?_⟩) (by assumption) ?_
        ·intro w hSw
         (try dsimp only at hSw)
         go_simp
        try simp only [List.getElem_toArray]
        try simp only [List.getElem_cons_succ]
        try simp only [List.getElem_cons_zero]
        try simp only [Act.put]
        try simp only [List.setIfInBounds_toArray]
        try simp only [List.set_cons_succ]
        try simp only [List.set_cons_zero]
        refine wpAnyH_take (i := 19) (v := (.slice (some ⟨g, 0, none⟩) n7 c7)) rfl (by kernel_rfl) (by kernel_rfl) (by kernel_rfl) (fun _ _ _ h => h) (Or.inl ⟨by rfl, ?_⟩) (by assumption) ?_
        ·intro w hSw
         (try dsimp only at hSw)
         go_simp
        try simp only [List.getElem_toArray]
        try simp only [List.getElem_cons_succ]
        try simp only [List.getElem_cons_zero]
        try simp only [Act.put]
        try simp only [List.setIfInBounds_toArray]
        try simp only [List.set_cons_succ]
        try simp only [List.set_cons_zero]
        refine wpAnyH_take (i := 20) (v := (.int .i64 (n7 : Int))) rfl (by kernel_rfl) (by kernel_rfl) (by kernel_rfl) (fun _ _ _ h => h) (Or.inl ⟨by rfl, ?_⟩) (by assumption) ?_
        ·intro w hSw
         (try dsimp only at hSw)
         go_simp
        try simp only [List.getElem_toArray]
        try simp only [List.getElem_cons_succ]
        try simp only [List.getElem_cons_zero]
        try simp only [Act.put]
        try simp only [List.setIfInBounds_toArray]
        try simp only [List.set_cons_succ]
        try simp only [List.set_cons_zero]
        refine wpAnyH_ready (rs := [14, 21]) (by kernel_rfl) (by simp) ?_
        refine (AllReadyH.cons rfl (fun K1 hK => ?_) (AllReadyH.cons rfl (fun K1 hK => ?_) AllReadyH.nil))
        ·go_simp
         refine hK.out _ _ ?_ (fun hHeld => ?_)
         ·assumption
         clear hK K1
         try simp only [List.getElem_toArray]
         try simp only [List.getElem_cons_succ]
         try simp only [List.getElem_cons_zero]
         try simp only [Act.put]
         try simp only [List.setIfInBounds_toArray]
         try simp only [List.set_cons_succ]
         try simp only [List.set_cons_zero]
         refine wpAnyH_ready (rs := [21]) (by kernel_rfl) (by simp) ?_
         refine (AllReadyH.cons rfl (fun K1 hK => ?_) AllReadyH.nil)
         go_simp
         refine hK.out _ _ ?_ (fun hHeld => ?_)
         ·exact S5
         clear hK K1
         try simp only [List.getElem_toArray]
         try simp only [List.getElem_cons_succ]
         try simp only [List.getElem_cons_zero]
         try simp only [Act.put]
         try simp only [List.setIfInBounds_toArray]
         try simp only [List.set_cons_succ]
         try simp only [List.set_cons_zero]
         refine wpAnyH_ready (rs := [22]) (by kernel_rfl) (by simp) ?_
         refine (AllReadyH.cons rfl (fun K1 hK => ?_) AllReadyH.nil)
         refine step_append_g rfl _ _ _ rfl 0 3 (.int .i64 0) 1 8 Tryz.underlying34 infoInt' rfl (by decide) (by decide) (.slice ax nx cx) nx ((nAt s5.1 nn).kids.map (Value.int .i64)) rfl H8.out wr.heap.size [.int .i64 (n7 : Int)] rfl (KN.out.rw (Nat.le_refl _) (by omega) (fun h => by omega) _ trivial) rfl (by intro y hy; simp at hy; subst hy; rfl) hnx4 (Nat.zero_le _) g (nn * 3 + 2) (.slice ax nx cx) HCX.out.1 HCX.out.2 HNE.out ?_
         intro a9 n9 c9 w9 hO9 hg9 ha9 hc9 hf9
         have P9 := hid (HPU.out a9 n9 c9 w9 hO9 hg9 ha9)
         have S6 := HSX.out _ P9.out.2.1
         have S7 := HSX.out _ P9.out.2.2.1
         clear hO9 hg9 ha9
         refine hK.out _ _ ?_ (fun hHeld => ?_)
         ·exact S6
         clear hK K1
         try simp only [List.getElem_toArray]
         try simp only [List.getElem_cons_succ]
         try simp only [List.getElem_cons_zero]
         try simp only [Act.put]
         try simp only [List.setIfInBounds_toArray]
         try simp only [List.set_cons_succ]
         try simp only [List.set_cons_zero]
         refine wpAnyH_take (i := 23) (v := (.pointer (some ⟨g, nn * 3, none⟩))) rfl (by kernel_rfl) (by kernel_rfl) (by kernel_rfl) (fun _ _ _ h => h) (Or.inl ⟨by rfl, ?_⟩) (by assumption) ?_
         ·intro w hSw
          (try dsimp only at hSw)
          go_simp
         try simp only [List.getElem_toArray]
         try simp only [List.getElem_cons_succ]
         try simp only [List.getElem_cons_zero]
         try simp only [Act.put]
         try simp only [List.setIfInBounds_toArray]
         try simp only [List.set_cons_succ]
         try simp only [List.set_cons_zero]
         refine wpAnyH_take (i := 24) (v := (.pointer (some ⟨g, nn * 3 + 2, none⟩))) rfl (by kernel_rfl) (by kernel_rfl) (by kernel_rfl) (fun _ _ _ h => h) (Or.inl ⟨by rfl, ?_⟩) (by assumption) ?_
         ·intro w hSw
          (try dsimp only at hSw)
          go_simp
         try simp only [List.getElem_toArray]
         try simp only [List.getElem_cons_succ]
         try simp only [List.getElem_cons_zero]
         try simp only [Act.put]
         try simp only [List.setIfInBounds_toArray]
         try simp only [List.set_cons_succ]
         try simp only [List.set_cons_zero]
         refine wpAnyH_ready (rs := [25]) (by kernel_rfl) (by simp) ?_
         refine (AllReadyH.cons rfl (fun K1 hK => ?_) AllReadyH.nil)
         go_simp
         refine hK.out _ _ ?_ (fun hHeld => ?_)
         ·exact S7
         clear hK K1
         try simp only [List.getElem_toArray]
         try simp only [List.getElem_cons_succ]
         try simp only [List.getElem_cons_zero]
         try simp only [Act.put]
         try simp only [List.setIfInBounds_toArray]
         try simp only [List.set_cons_succ]
         try simp only [List.set_cons_zero]
         refine wpAnyH_done (by kernel_rfl) ?_ _
         refine NoPanic.normal ?_
         have R9 := hid P9.out.1
         have O9 := hid P9.out.2.2.2
         clear hc9 hf9 S6 S7 P9 HPU HCX q3 S5 HS0 HSX H8 KN HNE HW2 R8 q2
         go_wp2_with fail
         generalize w9.setCell ⟨g, nn * 3 + 2, none⟩ (.slice a9 n9 c9) = W9 at *
         obtain ⟨V9, R9⟩ := R9.out
         have HC9 := hid (HI.out S (fun y => Q y ∧ y < W9.heap.size) _ _ _ _ _ _ _ _ q W9 (HRU.out.to O9.out HSQ.out) (fun y hy => ⟨Nat.lt_of_lt_of_le (HS.out y hy).1 (Nat.le_trans HB2.out.size O9.out.size), fun h => HSQ.out y hy h.1⟩) (fun y hy => hy.2) (R9.mono (fun y h1 h2 => ⟨h2, h1⟩)) (by simp only [addK_len]; exact L7.out.1) (by simp only [addK_len]; exact L7.out.2.2.1) (by simp only [addK_len]; have h1 := HF.out; have h2 := L7.out.2.1; omega) HKQ.out)
         refine HC9.out.mono ?_
         rintro e w' ⟨ho, ⟨hn, rfl⟩ | ⟨s', b1, b2, b3, b4, b5, b6, V6, hs', hl', rfl, hR'⟩⟩
         ·have HE : Hid (ldV ss (f' + 1) (k : Int) s = none) := by
           show _ = _
           have h1 := HKA.out
           have h2 := HNL.out
           rw [← HNN.out, ← h2, hn] at h1
           rw [E7.out, ← HNN.out, h1]
          have HO : Hid (Only P w w') := (only_of_below HB2.out P).then (O9.out.trans (ho.mono (fun y _ h => h.1))) (fun y hy hq => HQP.out y hy hq)
          clear hn ho
          go_wp2
          go_ret
          exact ⟨HO.out, .inl ⟨HE.out, rfl⟩⟩
         ·have HE : Hid (ldV ss (f' + 1) (k : Int) s = ldK (ldV ss f') s.1.length (p.kids.drop (m + 1)) s') := by
           show _ = _
           have h1 := HKA.out
           have h2 := HNL.out
           rw [← HNN.out, ← h2, hs'] at h1
           rw [E7.out, ← HNN.out, h1]
          have HO : Hid (Only Q U w') := O9.out.trans (ho.mono (fun y _ h => h.1))
          have HR' : Hid (RS w' Q r (.slice (some ⟨sb, so, none⟩) sn sc) b1 b2 b3 b4 b5 b6 V6 s') := hR'.mono (fun y _ h => h.elim (fun h => h.1) (fun h => HNW.out y (Nat.le_trans O9.out.size h)))
          have HL' : Hid (s'.2.length = s'.1.length ∧ s.1.length < s'.1.length ∧ s'.1.length ≤ 400 ∧ (nAt s'.1 s.1.length).kids.length ≤ m + 1) := by
           have h1 := ldV_len ss f' _ _ _ hs'
           have h3 := ldV_old ss f' _ _ _ hs' nn (by simp only [addK_len]; exact HME.out)
           simp only [addK_len] at h1
           have h2 := L7.out
           refine ⟨hl', by omega, h1.2, ?_⟩
           rw [← HNN.out] at h2 ⊢
           rw [h3, nAt_addK_me _ HME.out]
           simp only [List.length_append, List.length_cons, List.length_nil]
           omega
          clear hs' hl' ho hR'
          go_wp2
          go_roundw
          case rel => exact ⟨m + 1, s', b1, b2, b3, b4, b5, b6, V6, by omega, by go_num, HR'.out, HO.out, HL'.out, HE.out⟩
          case measure => simp [intOf]; omega
        ·go_simp
         refine hK.out _ _ ?_ (fun hHeld => ?_)
         ·exact S5
         clear hK K1
         try simp only [List.getElem_toArray]
         try simp only [List.getElem_cons_succ]
         try simp only [List.getElem_cons_zero]
         try simp only [Act.put]
         try simp only [List.setIfInBounds_toArray]
         try simp only [List.set_cons_succ]
         try simp only [List.set_cons_zero]
         refine wpAnyH_ready (rs := [14]) (by kernel_rfl) (by simp) ?_
         refine (AllReadyH.cons rfl (fun K1 hK => ?_) AllReadyH.nil)
         go_simp
         refine hK.out _ _ ?_ (fun hHeld => ?_)
         ·exact S5
         clear hK K1
         try simp only [List.getElem_toArray]
         try simp only [List.getElem_cons_succ]
         try simp only [List.getElem_cons_zero]
         try simp only [Act.put]
         try simp only [List.setIfInBounds_toArray]
         try simp only [List.set_cons_succ]
         try simp only [List.set_cons_zero]
         refine wpAnyH_ready (rs := [22]) (by kernel_rfl) (by simp) ?_
         refine (AllReadyH.cons rfl (fun K1 hK => ?_) AllReadyH.nil)
         refine step_append_g rfl _ _ _ rfl 0 3 (.int .i64 0) 1 8 Tryz.underlying34 infoInt' rfl (by decide) (by decide) (.slice ax nx cx) nx ((nAt s5.1 nn).kids.map (Value.int .i64)) rfl H8.out wr.heap.size [.int .i64 (n7 : Int)] rfl (KN.out.rw (Nat.le_refl _) (by omega) (fun h => by omega) _ trivial) rfl (by intro y hy; simp at hy; subst hy; rfl) hnx4 (Nat.zero_le _) g (nn * 3 + 2) (.slice ax nx cx) HCX.out.1 HCX.out.2 HNE.out ?_
         intro a9 n9 c9 w9 hO9 hg9 ha9 hc9 hf9
         have P9 := hid (HPU.out a9 n9 c9 w9 hO9 hg9 ha9)
         have S6 := HSX.out _ P9.out.2.1
         have S7 := HSX.out _ P9.out.2.2.1
         clear hO9 hg9 ha9
         refine hK.out _ _ ?_ (fun hHeld => ?_)
         ·exact S6
         clear hK K1
         try simp only [List.getElem_toArray]
         try simp only [List.getElem_cons_succ]
         try simp only [List.getElem_cons_zero]
         try simp only [Act.put]
         try simp only [List.setIfInBounds_toArray]
         try simp only [List.set_cons_succ]
         try simp only [List.set_cons_zero]
         refine wpAnyH_take (i := 23) (v := (.pointer (some ⟨g, nn * 3, none⟩))) rfl (by kernel_rfl) (by kernel_rfl) (by kernel_rfl) (fun _ _ _ h => h) (Or.inl ⟨by rfl, ?_⟩) (by assumption) ?_
         ·intro w hSw
          (try dsimp only at hSw)
          go_simp
         try simp only [List.getElem_toArray]
         try simp only [List.getElem_cons_succ]
         try simp only [List.getElem_cons_zero]
         try simp only [Act.put]
         try simp only [List.setIfInBounds_toArray]
         try simp only [List.set_cons_succ]
         try simp only [List.set_cons_zero]
         refine wpAnyH_take (i := 24) (v := (.pointer (some ⟨g, nn * 3 + 2, none⟩))) rfl (by kernel_rfl) (by kernel_rfl) (by kernel_rfl) (fun _ _ _ h => h) (Or.inl ⟨by rfl, ?_⟩) (by assumption) ?_
         ·intro w hSw
          (try dsimp only at hSw)
          go_simp
         try simp only [List.getElem_toArray]
         try simp only [List.getElem_cons_succ]
         try simp only [List.getElem_cons_zero]
         try simp only [Act.put]
         try simp only [List.setIfInBounds_toArray]
         try simp only [List.set_cons_succ]
         try simp only [List.set_cons_zero]
         refine wpAnyH_ready (rs := [25]) (by kernel_rfl) (by simp) ?_
         refine (AllReadyH.cons rfl (fun K1 hK => ?_) AllReadyH.nil)
         go_simp
         refine hK.out _ _ ?_ (fun hHeld => ?_)
         ·exact S7
         clear hK K1
         try simp only [List.getElem_toArray]
         try simp only [List.getElem_cons_succ]
         try simp only [List.getElem_cons_zero]
         try simp only [Act.put]
         try simp only [List.setIfInBounds_toArray]
         try simp only [List.set_cons_succ]
         try simp only [List.set_cons_zero]
         refine wpAnyH_done (by kernel_rfl) ?_ _
         refine NoPanic.normal ?_
         have R9 := hid P9.out.1
         have O9 := hid P9.out.2.2.2
         clear hc9 hf9 S6 S7 P9 HPU HCX q3 S5 HS0 HSX H8 KN HNE HW2 R8 q2
         go_wp2_with fail
         generalize w9.setCell ⟨g, nn * 3 + 2, none⟩ (.slice a9 n9 c9) = W9 at *
         obtain ⟨V9, R9⟩ := R9.out
         have HC9 := hid (HI.out S (fun y => Q y ∧ y < W9.heap.size) _ _ _ _ _ _ _ _ q W9 (HRU.out.to O9.out HSQ.out) (fun y hy => ⟨Nat.lt_of_lt_of_le (HS.out y hy).1 (Nat.le_trans HB2.out.size O9.out.size), fun h => HSQ.out y hy h.1⟩) (fun y hy => hy.2) (R9.mono (fun y h1 h2 => ⟨h2, h1⟩)) (by simp only [addK_len]; exact L7.out.1) (by simp only [addK_len]; exact L7.out.2.2.1) (by simp only [addK_len]; have h1 := HF.out; have h2 := L7.out.2.1; omega) HKQ.out)
         refine HC9.out.mono ?_
         rintro e w' ⟨ho, ⟨hn, rfl⟩ | ⟨s', b1, b2, b3, b4, b5, b6, V6, hs', hl', rfl, hR'⟩⟩
         ·have HE : Hid (ldV ss (f' + 1) (k : Int) s = none) := by
           show _ = _
           have h1 := HKA.out
           have h2 := HNL.out
           rw [← HNN.out, ← h2, hn] at h1
           rw [E7.out, ← HNN.out, h1]
          have HO : Hid (Only P w w') := (only_of_below HB2.out P).then (O9.out.trans (ho.mono (fun y _ h => h.1))) (fun y hy hq => HQP.out y hy hq)
          clear hn ho
          go_wp2
          go_ret
          exact ⟨HO.out, .inl ⟨HE.out, rfl⟩⟩
         ·have HE : Hid (ldV ss (f' + 1) (k : Int) s = ldK (ldV ss f') s.1.length (p.kids.drop (m + 1)) s') := by
           show _ = _
           have h1 := HKA.out
           have h2 := HNL.out
           rw [← HNN.out, ← h2, hs'] at h1
           rw [E7.out, ← HNN.out, h1]
          have HO : Hid (Only Q U w') := O9.out.trans (ho.mono (fun y _ h => h.1))
          have HR' : Hid (RS w' Q r (.slice (some ⟨sb, so, none⟩) sn sc) b1 b2 b3 b4 b5 b6 V6 s') := hR'.mono (fun y _ h => h.elim (fun h => h.1) (fun h => HNW.out y (Nat.le_trans O9.out.size h)))
          have HL' : Hid (s'.2.length = s'.1.length ∧ s.1.length < s'.1.length ∧ s'.1.length ≤ 400 ∧ (nAt s'.1 s.1.length).kids.length ≤ m + 1) := by
           have h1 := ldV_len ss f' _ _ _ hs'
           have h3 := ldV_old ss f' _ _ _ hs' nn (by simp only [addK_len]; exact HME.out)
           simp only [addK_len] at h1
           have h2 := L7.out
           refine ⟨hl', by omega, h1.2, ?_⟩
           rw [← HNN.out] at h2 ⊢
           rw [h3, nAt_addK_me _ HME.out]
           simp only [List.length_append, List.length_cons, List.length_nil]
           omega
          clear hs' hl' ho hR'
          go_wp2
          go_roundw
          case rel => exact ⟨m + 1, s', b1, b2, b3, b4, b5, b6, V6, by omega, by go_num, HR'.out, HO.out, HL'.out, HE.out⟩
          case measure => simp [intOf]; omega
       ·have HE : Hid (ldV ss (f' + 1) (k : Int) s = some s5) := by
         show _ = _
         rw [E7.out, List.drop_of_length_le (by rw [← HJN.out]; omega)]
         rfl
        have HO : Hid (Only P w wr) := (only_of_below HB2.out P).then O7.out (fun y hy hq => HQP.out y hy hq)
        have HR' : Hid (RS wr (fun y => P y ∨ w.heap.size ≤ y) r (.slice (some ⟨sb, so, none⟩) sn sc) a7 n7 c7 a8 n8 c8 V7 s5) := R7.out.mono (fun y _ h => ((HQQ.out y).1 h).imp id (fun h => h.1))
        go_wp2
        go_ret
        exact ⟨HO.out, .inr ⟨s5, a7, n7, c7, a8, n8, c8, V7, HE.out, L7.out.1, rfl, HR'.out⟩⟩
theorem treeRead_any (ss : List (List Int)) (sa : Option Addr) (sn sc r : Nat) : ∀ f, RdAll ss f sa sn sc r
 | 0 => treeRead_step ss 0 sa sn sc r (fun f' e => by omega)
 | f + 1 => treeRead_step ss (f + 1) sa sn sc r (fun f' e => by cases e; exact treeRead_any ss sa sn sc r f)
open Go.RowKit
theorem shOk_iff (zs : List Int) : shOk zs = true ↔ zs.length = 0 ∨ zs.length = 512 := by simp only [shOk, Bool.or_eq_true, decide_eq_true_eq]
def shV (zs : List Int) : Option (List Int) := if shOk zs = true then some (sheet zs) else none
set_option maxHeartbeats 1000000 in
theorem sheetOk_any (a : Option Addr) (n c : Nat) (zs : List Int) (w : World) (h : n = zs.length) (hn : n ≤ 9223372036854775807) :
  Calls Tryz.prog 112 #[.slice a n c] w fun e w' => e = .returned (.bool (shOk zs)) ∧ w' = w := by
 by_cases h0 : n = 0
 ·have HV : Hid (shOk zs = true) := (shOk_iff zs).2 (by omega)
  subst h0
  clear h
  go_enter Tryz.func112, Tryz.ntmps112
  go_wp2
  go_ret
  exact ⟨by rw [HV.out]; rfl, rfl⟩
 ·have h0' : ((n : Int) == 0) = false := by simp; omega
  have h0'' : ¬ (n : Int) = 0 := by omega
  by_cases h5 : n = 512
  ·have HV : Hid (shOk zs = true) := (shOk_iff zs).2 (by omega)
   subst h5
   clear h
   go_enter Tryz.func112, Tryz.ntmps112
   go_wp2
   go_ret
   exact ⟨by rw [HV.out]; rfl, rfl⟩
  ·have h5' : ((n : Int) == 512) = false := by simp; omega
   have h5'' : ¬ (n : Int) = 512 := by omega
   have HV : Hid (shOk zs = false) := by
    show _ = false
    rw [Bool.eq_false_iff]
    intro e
    have := (shOk_iff zs).1 e
    omega
   clear h
   go_enter Tryz.func112, Tryz.ntmps112
   go_wp2
   go_ret
   exact ⟨by rw [HV.out]; rfl, rfl⟩
set_option maxHeartbeats 2000000 in
theorem sheetBytes_any (a : Option Addr) (n c : Nat) (zs : List Int) (w : World) (h : Rd w a n c zs) (he : Err w 0) (he2 : Err w 1) :
  Calls Tryz.prog 145 #[.slice a n c] w fun e w' => Put w (shV zs) e w' := by
 have hzl : n = zs.length := h.1
 have HC := hid (sheetOk_any a n c zs w hzl (by have := h.2.1; have := h.2.2.1; omega))
 by_cases hok : n = 0 ∨ n = 512
 ·have HV : Hid (fl zs 512 = shV zs) := by
   show _ = _
   rw [shV, if_pos ((shOk_iff zs).2 (by omega)), sheet, fl, if_pos (by omega)]
   rcases hok with e | e
   ·rw [if_pos (by omega), List.eq_nil_of_length_eq_zero (by omega : zs.length = 0)]
    rfl
   ·rw [if_neg (by omega), ← hzl, e]
    simp
  have HT : Hid (shOk zs = true) := (shOk_iff zs).2 (by omega)
  have HR := hid h
  have HE := hid he
  have HE2 := hid he2
  have hn5 : n ≤ 1099511627776 := by omega
  clear h he he2 hok hzl
  go_enter Tryz.func145, Tryz.ntmps145
  go_wp2_with fail
  refine HC.out.mono ?_
  rintro e w0 ⟨rfl, rfl⟩
  rw [HT.out]
  go_wp2_with fail
  refine (implFill_any a _ c zs 512 _ HR.out (by omega) HE.out HE2.out HE.out.lt HE2.out.lt).mono ?_
  intro e w1 hput
  rw [HV.out] at hput
  have HP := hid hput
  rcases hput.2 with ⟨_, rfl⟩ | ⟨v, out, _, rfl, ho⟩
  ·clear hput
   go_wp2
   go_ret2
   exact HP.out
  ·obtain ⟨a', c', rfl⟩ := ho.shape
   clear hput ho
   go_wp2
   go_ret2
   exact HP.out
 ·have HN : Hid (shV zs = none) := by
   show _ = _
   rw [shV, if_neg]
   rw [shOk_iff]
   omega
  have HT : Hid (shOk zs = false) := by
   show _ = false
   rw [Bool.eq_false_iff]
   intro e
   have := (shOk_iff zs).1 e
   omega
  clear h he he2 hok hzl
  go_enter Tryz.func145, Tryz.ntmps145
  go_wp2_with fail
  refine HC.out.mono ?_
  rintro e w0 ⟨rfl, rfl⟩
  rw [HT.out]
  go_wp2
  go_ret2
  exact ⟨Below.refl _ _, .inl ⟨HN.out, rfl⟩⟩
open Go.RowKit Go.Shelf
set_option linter.unusedVariables false
attribute [local go_sem] Oper.semAt_some
def Lsw (n₀ : Nat) (W : World) (a : Option Addr) (n : Nat) (T : Nat → Int) (A : Nat → Option Addr) (N C : Nat → Nat) : Prop :=
 0 < n → ∃ b off, a = some ⟨b, off, none⟩ ∧ b < n₀ ∧ ∀ i, i < n → W.cell? ⟨b, off + i * 2, none⟩ = some (.int .i64 (T i)) ∧ W.cell? ⟨b, off + i * 2 + 1, none⟩ = some (.slice (A i) (N i) (C i))
theorem Lsw.below {n₀ : Nat} {W W' : World} {a : Option Addr} {n : Nat} {T : Nat → Int} {A : Nat → Option Addr} {N C : Nat → Nat} (h : Lsw n₀ W a n T A N C) (hb : Below n₀ W W') : Lsw n₀ W' a n T A N C := by
 intro hp
 obtain ⟨b, off, rfl, hbn, hc⟩ := h hp
 exact ⟨b, off, rfl, hbn, fun i hi => ⟨(hb.cell (p := ⟨b, off + i * 2, none⟩) hbn).trans (hc i hi).1, (hb.cell (p := ⟨b, off + i * 2 + 1, none⟩) hbn).trans (hc i hi).2⟩⟩
def dnTo (n k : Nat) : List Nat := (List.range k).map fun j => n - 1 - j
theorem dnTo_succ (n k : Nat) : dnTo n (k + 1) = dnTo n k ++ [n - 1 - k] := by simp [dnTo, List.range_succ]
theorem dnTo_length (n k : Nat) : (dnTo n k).length = k := by simp [dnTo]
theorem dnTo_pre (n : Nat) {k m : Nat} (h : k ≤ m) : dnTo n k <+: dnTo n m := by
 obtain ⟨j, rfl⟩ : ∃ j, m = k + j := ⟨m - k, by omega⟩
 clear h
 induction j with
 | zero => exact List.prefix_refl _
 | succ j ih => rw [← Nat.add_assoc, dnTo_succ]; exact ih.trans (List.prefix_append _ _)
set_option maxRecDepth 100000 in
set_option maxHeartbeats 4000000 in
theorem behind1_in (F : Fence) (m : Nat) (h6 : F.fn 163) (hro : F.round = none) (hm : 1 ≤ m) (l Bn n₀ : Nat) (a : Option Addr) (n c : Nat) (T : Nat → Int) (A : Nat → Option Addr) (N C : Nat → Nat) (J Jx : List Nat → World → Prop)
  (hY : ∀ pre x W, J pre W → pre.length < n → YieldAt F (m - 1) Tryz.prog l #[.agg #[.int .i64 (T x), .slice (A x) (N x) (C x)]] W fun e W' =>
   (e = .returned (.bool true) ∧ J (pre ++ [x]) W' ∧ Below n₀ W W') ∨ (e = .returned (.bool false) ∧ Jx (pre ++ [x]) W'))
  (W : World) (hB0 : Bn < n₀) (hBn : W.cell? ⟨Bn, 0, none⟩ = some (.slice a n c)) (hL : Lsw n₀ W a n T A N C) (hn : n ≤ c) (hc : c ≤ 9223372036854775807) (h0 : J [] W) :
  CallsIn F m Tryz.prog 163 #[.func (.yield l) #[] #[], .pointer (some ⟨Bn, 0, none⟩)] W fun e W' => (∃ v, e = .returned v) ∧
   ((∃ ys, ys = dnTo n n ∧ J ys W') ∨ (∃ pre, pre <+: dnTo n n ∧ Jx pre W')) := by
 refine callsIn_of_wp Tryz.func163 rfl h6 ?_ hro
 simp only [Tryz.ntmps163, List.size_toArray, List.length_cons, List.length_nil, Nat.reduceAdd, Nat.reduceSub, Array.replicate_succ, Array.replicate_zero, List.push_toArray, List.append_toArray, List.nil_append, List.cons_append]
 gi_wp2
 gi_loopw [3] (fun p wr => ∃ k : Nat, k ≤ n ∧ p = .int .i64 ((k : Int) - 1) ∧ Hid (J (dnTo n (n - k)) wr) ∧ wr.cell? ⟨Bn, 0, none⟩ = some (.slice a n c) ∧ Hid (Lsw n₀ wr a n T A N C)) (fun p _ => (intOf p + 1).toNat)
 case atStart => exact ⟨n, Nat.le_refl _, by go_num, by rw [Nat.sub_self]; exact h0, hBn, hL⟩
 case round =>
  obtain ⟨k, hk, rfl, HJ, hcB, HL⟩ := hrel
  cases k with
  | zero =>
   have HJ' : Hid (J (dnTo n n) wr) := HJ.out
   have hneg : ¬ (0 : Int) ≤ ((0 : Nat) : Int) - 1 := by omega
   gi_wp2
   go_end0
   exact ⟨⟨_, rfl⟩, .inl HJ'.out⟩
  | succ j =>
   obtain ⟨b, off, rfl, hbn, hcell⟩ := HL.out (by omega)
   obtain ⟨m0, m1⟩ := hcell j (by omega)
   have hj : (((j + 1 : Nat) : Int) - 1) = (j : Int) := by omega
   rw [hj]
   have hjn : (j : Int) < (n : Int) := by omega
   have HP : Hid (dnTo n (n - j) = dnTo n (n - (j + 1)) ++ [j]) := by
    show _ = _
    rw [show n - j = n - (j + 1) + 1 by omega, dnTo_succ, show n - 1 - (n - (j + 1)) = j by omega]
   obtain ⟨fn, tmps, assign, body, hy, hR⟩ := hY _ j wr HJ.out (by rw [dnTo_length]; omega)
   clear hcell
   gi_wp2
   refine hR.mono ?_
   rintro e W3 (⟨rfl, hJ3, hk3⟩ | ⟨rfl, hJx3⟩)
   ·have hq3 : W3.cell? ⟨Bn, 0, none⟩ = some (.slice (some ⟨b, off, none⟩) n c) := (hk3.cell (p := ⟨Bn, 0, none⟩) hB0).trans hcB
    have HL3 := hid (HL.out.below hk3)
    have HJ3 : Hid (J (dnTo n (n - j)) W3) := by rw [HP.out]; exact hJ3
    clear hJ3 hk3 m0 m1 hcB HL
    gi_wp2
    go_roundw
    case rel => exact ⟨j, by omega, by go_num, HJ3.out, hq3, HL3.out⟩
    case measure => simp [intOf]
   ·have HX : Hid (Jx (dnTo n (n - j)) W3) := by rw [HP.out]; exact hJx3
    gi_wp2
    refine bodyPost_ret (results_none rfl _ _ _) rfl ?_
    exact ⟨⟨_, rfl⟩, .inr ⟨_, dnTo_pre n (by omega), HX.out⟩⟩
theorem behind_stops (F : Fence) (m : Nat) (h6 : F.fn 163) (hro : F.round = none) (hm : 1 ≤ m) (Bn n₀ : Nat) (a : Option Addr) (n c : Nat) (T : Nat → Int) (A : Nat → Option Addr) (N C : Nat → Nat) (w : World) (hB0 : Bn < n₀) (hn₀ : n₀ ≤ w.heap.size)
  (hBn : w.cell? ⟨Bn, 0, none⟩ = some (.slice a n c)) (hL : Lsw n₀ w a n T A N C) (hn : n ≤ c) (hc : c ≤ 9223372036854775807) :
  SeqStopsK F m Tryz.prog 163 #[.pointer (some ⟨Bn, 0, none⟩)] (fun x : Nat => #[Value.agg #[.int .i64 (T x), .slice (A x) (N x) (C x)]]) (Below n₀) (fun ys => ys = dnTo n n) (fun pre => pre <+: dnTo n n) n w := fun l J Jx W hW _ _ hY h0 =>
 behind1_in F m h6 hro hm l Bn n₀ a n c T A N C J Jx hY W hB0 ((hW.cell (p := ⟨Bn, 0, none⟩) (by show Bn < _; omega)).trans hBn) (hL.below (hW.mono hn₀)) hn hc h0
set_option maxHeartbeats 1000000 in
theorem behind_in (F : Fence) (m : Nat) (h5 : F.fn 144) (hro : F.round = none) (a : Option Addr) (n c : Nat) (w : World) :
  CallsIn F m Tryz.prog 144 #[.slice a n c] w fun e w' => e = .returned (.func (.func 163) #[] #[.pointer (some ⟨w.heap.size, 0, none⟩)]) ∧ w' = w.alloc (.cells #[.slice a n c] 28) := by
 refine callsIn_of_wp Tryz.func144 rfl h5 ?_ hro
 simp only [Tryz.ntmps144, List.size_toArray, List.length_cons, List.length_nil, Nat.reduceAdd, Nat.reduceSub, Array.replicate_succ, Array.replicate_zero, List.push_toArray, List.append_toArray, List.nil_append, List.cons_append]
 gi_wp2
 go_ret
 exact ⟨rfl, rfl⟩
open Go.RowKit Go.Shelf
set_option linter.unusedVariables false
theorem bt6 {u v w : World} (h : Below u.heap.size u v) (k : Below v.heap.size v w) : Below u.heap.size u w := h.trans (k.mono h.size)
set_option maxHeartbeats 1000000 in
theorem copyBytes_any (a : Option Addr) (n c : Nat) (zs : List Int) (w : World) (h : Rd w a n c zs) (hn : n ≤ 1048576) :
  Calls Tryz.prog 78 #[.slice a n c] w fun e w' => ∃ v, e = .returned v ∧ Ob w' w.heap.size v zs ∧ Below w.heap.size w w' := by
 have HR := hid h
 have hzl : n = zs.length := h.1
 have HO : Hid (Ob w w.heap.size (.slice none 0 0) []) := World.ownsRow_nil _ _ _ _
 have hzb : ([] : List Int).length + zs.length ≤ 70368744177664 := by rw [← hzl]; simp; omega
 clear h hzl
 go_enter Tryz.func78, Tryz.ntmps78
 go_wp2_with (at_builtin; refine wpList_append_rd rfl _ _ rfl w.heap.size _ [] rfl HO.out a n c zs rfl HR.out hzb (Nat.le_refl _) ?_)
 intro v3 w3 hO3 hg3
 have O3 : Hid (Ob w3 w.heap.size v3 zs) := by show Ob _ _ _ _; simpa using hO3
 have B3 : Hid (Below w.heap.size w w3) := (only_of_grown hg3 (R := fun _ => False) (fun k e => by cases e)).below (Nat.le_refl _) (fun _ _ h => h)
 obtain ⟨a3, c3, rfl⟩ := hO3.shape
 clear hO3 hg3 HO HR
 go_wp2
 go_ret
 exact ⟨_, rfl, O3.out, B3.out⟩
def lastW (ds : List DW) (t : Int) : Nat → Option (List Int)
 | 0 => none
 | k + 1 => if (dwAt ds k).1 = t then some (dwAt ds k).2 else lastW ds t k
def rdV (d : DK) (t : Int) : Option (List Int) :=
 if dkOk d = true ∧ 0 ≤ t ∧ t < (d.sh.length : Int) then some ((lastW d.dw t d.dw.length).getD (sheet (shAt d.sh t.toNat))) else none
def RdPost (o : Option (List Int)) (w : World) (e : Ending) (w' : World) : Prop := ∃ a n c, e = .returned (.tuple #[.slice a n c, .bool o.isSome]) ∧ Ob w' w.heap.size (.slice a n c) (o.getD []) ∧ Below w.heap.size w w'
theorem shOk_sht (l : List Int) : shOk l = shtOk l := rfl
set_option maxHeartbeats 4000000 in
theorem specDiskRead_any (S : Nat → Prop) (sa : Option Addr) (sn sc : Nat) (da : Option Addr) (dn dc : Nat) (d : DK) (t : Int) (w : World) (h : Dk w S sa sn sc da dn dc d) (hsm : smallD d) :
  Calls Tryz.prog 61 #[.agg #[.slice sa sn sc, .slice da dn dc], .int .i64 t] w fun e w' => RdPost (rdV d t) w e w' := by
 have HS := hid h.hs
 have HD := hid h.hd
 have HSM := hid hsm
 obtain ⟨ns, hsc, hsc'⟩ := h.hs.len
 obtain ⟨nd, hdc, hdc'⟩ := h.hd.len
 have HNS := hid ns
 have HND := hid nd
 have HB0 : Hid (Below w.heap.size w (w.alloc (.cells #[.slice sa sn sc, .slice da dn dc] 30))) := below_new (Below.refl _ _)
 have KP : Hid (Bk (w.alloc (.cells #[.slice sa sn sc, .slice da dn dc] 30)) w.heap.size 30 [.slice sa sn sc, .slice da dn dc]) := Bk.new w 30 [.slice sa sn sc, .slice da dn dc]
 have HK := hid (specDiskOk_any S sa sn sc da dn dc d _ (h.below HB0.out))
 have HV : Hid (rdV d t = if dkOk d = true ∧ 0 ≤ t ∧ t < (d.sh.length : Int) then some ((lastW d.dw t d.dw.length).getD (sheet (shAt d.sh t.toNat))) else none) := rfl
 have HN : Hid (¬ (dkOk d = true ∧ 0 ≤ t ∧ t < (d.sh.length : Int)) → rdV d t = none) := fun hh => by rw [HV.out, if_neg hh]
 clear h ns nd hsm
 go_enter Tryz.func61, Tryz.ntmps61
 go_wp2_with fail
 refine HK.out.mono ?_
 rintro e w1 ⟨rfl, hb⟩
 have K1 := hid (KP.out.below hb)
 have B1 := hid (HB0.out.trans (hb.mono HB0.out.size))
 clear hb HB0 KP HK
 cases hok : dkOk d with
 | false =>
  have HF := hid (HN.out (by rw [hok]; simp))
  go_wp2
  go_ret2
  rw [HF.out]
  exact ⟨_, _, _, rfl, World.ownsRow_nil _ _ _ _, B1.out⟩
 | true =>
  have HOK := hid hok
  clear hok
  by_cases t0 : t < 0
  ·have HF := hid (HN.out (by omega))
   go_wp2
   go_ret2
   rw [HF.out]
   exact ⟨_, _, _, rfl, World.ownsRow_nil _ _ _ _, B1.out⟩
  ·have c0 := K1.out.cell (j := 0) rfl
   have c1 := K1.out.cell (j := 1) rfl
   by_cases t1 : (sn : Int) ≤ t
   ·have HF := hid (HN.out (by rw [← HNS.out]; omega))
    go_wp2
    go_ret2
    rw [HF.out]
    exact ⟨_, _, _, rfl, World.ownsRow_nil _ _ _ _, B1.out⟩
   ·have HV2 : Hid (rdV d t = some ((lastW d.dw t d.dw.length).getD (sheet (shAt d.sh t.toNat)))) := by
     show _ = _
     rw [HV.out, if_pos ⟨HOK.out, by omega, by rw [← HNS.out]; omega⟩]
    clear HV HN
    go_wp2_with fail
    clear c0 c1
    go_loop [6] (fun i => ∃ k : Nat, k ≤ dn ∧ i = .int .i64 ((k : Int) - 1) ∧ Hid (lastW d.dw t k = lastW d.dw t d.dw.length)) (fun i => (intOf i + 1).toNat)
    case atStart => exact ⟨dn, Nat.le_refl _, by go_num, by rw [HND.out]; rfl⟩
    case round =>
     obtain ⟨k, hk, rfl, HL⟩ := hrel
     cases k with
     | zero =>
      have hneg : ¬ (0 : Int) ≤ ((0 : Nat) : Int) - 1 := by omega
      have c0 := K1.out.cell (j := 0) rfl
      obtain ⟨b, off, rfl, _, hbw, hcell⟩ := (HS.out.below B1.out).at (by omega)
      obtain ⟨u, hu⟩ : ∃ u : Nat, t = (u : Int) := ⟨t.toNat, by omega⟩
      subst hu
      obtain ⟨ap, np, cp, m0, hp⟩ := hcell u (by omega)
      have hul : u < d.sh.length := by rw [← HNS.out]; omega
      have hnp : np ≤ 1048576 := by rw [hp.len.1]; exact HSM.out.1 u hul
      have HC := hid (sheet_any ap np cp (shAt d.sh u) w1 (hp.rd hnp) hnp)
      have HSO : Hid (shOk (shAt d.sh u) = true) := by
       show _ = true
       rw [shOk_sht]
       exact ((dkOk_iff d).1 HOK.out).2.2.2.1 u hul
      have HV3 : Hid (rdV d (u : Int) = some (sheet (shAt d.sh u))) := by
       show _ = _
       rw [HV2.out, ← HL.out, lastW]
       simp
      have hu2 : (u : Int) < (sn : Int) := by omega
      clear hcell hbw hp
      go_wp2_with fail
      refine HC.out.mono ?_
      rintro e w2 ⟨a2, n2, c2, rfl, hO2, hb2⟩
      have O2 := hid hO2
      have B2 := hid (bt6 B1.out hb2)
      rw [HSO.out]
      clear hO2 hb2 HC
      go_wp2
      go_ret2
      rw [HV3.out]
      exact ⟨_, _, _, rfl, ownD_base O2.out B1.out.size, B2.out⟩
     | succ j =>
      have hj : (((j + 1 : Nat) : Int) - 1) = (j : Int) := by omega
      rw [hj]
      have c1 := K1.out.cell (j := 1) rfl
      obtain ⟨b, off, rfl, _, hbw, hcell⟩ := (HD.out.below B1.out).at (by omega)
      obtain ⟨ap, np, cp, mt, m0, hp⟩ := hcell j (by omega)
      have hjl : j < d.dw.length := by rw [← HND.out]; omega
      have hnp : np ≤ 1048576 := by rw [hp.len.1]; exact HSM.out.2 j hjl
      have HLS : Hid (lastW d.dw t (j + 1) = if (dwAt d.dw j).1 = t then some (dwAt d.dw j).2 else lastW d.dw t j) := rfl
      have hj2 : (j : Int) < (dn : Int) := by omega
      have HRD := hid (hp.rd hnp)
      have HLN := hid hp.len.1
      clear hcell hbw hp
      generalize (dwAt d.dw j).1 = tt at *
      by_cases e : tt = t
      ·subst e
       have HV3 : Hid (rdV d tt = some (dwAt d.dw j).2) := by
        show _ = _
        rw [HV2.out, ← HL.out, HLS.out, if_pos rfl]
        rfl
       have HO := hid (ob_new w1 w1.heap.size (Nat.le_refl _))
       have HB := hid (below_new (o := .cells #[] 5) (w := w1) (Below.refl _ _))
       have HR := hid (HRD.out.kept HB.out)
       have hzb : ([] : List Int).length + (dwAt d.dw j).2.length ≤ 70368744177664 := by rw [← HLN.out]; simp; omega
       have HZ : Hid (w1.heap.size ≤ (w1.alloc (.cells #[] 5)).heap.size) := HB.out.size
       have k1 := (K1.out.below HB.out).cell (j := 1) rfl
       have k0 := (World.cell?_of_block (w := w1) (a := ⟨b, off + j * 2 + 1, none⟩) (w' := w1.alloc (.cells #[] 5)) (HB.out.block b (by exact block_lt m0))).trans m0
       clear HL HLS HV2
       go_wp2_with (at_builtin; refine wpList_append_rd rfl _ _ rfl w1.heap.size _ [] rfl HO.out ap np cp _ rfl HR.out hzb HZ.out ?_)
       intro v3 w3 hO3 hg3
       have O3 : Hid (Ob w3 w1.heap.size v3 (dwAt d.dw j).2) := by show Ob _ _ _ _; simpa using hO3
       have B3 : Hid (Below w1.heap.size w1 w3) := HB.out.trans ((only_of_grown hg3 (R := fun y => (Value.slice (some ⟨w1.heap.size, 0, none⟩) 0 0).ownBlock = some y) (fun k e => e)).below HZ.out (fun b hb e => by have := (World.ownsRow.lt HO.out b e).1; omega))
       obtain ⟨a3, c3, rfl⟩ := hO3.shape
       clear hO3 hg3 HO HB HR k0 k1
       go_wp2
       go_ret2
       rw [HV3.out]
       exact ⟨_, _, _, rfl, ownD_base O3.out B1.out.size, bt6 B1.out B3.out⟩
      ·have e' : (tt == t) = false := by simp [e]
       have HL2 : Hid (lastW d.dw t j = lastW d.dw t d.dw.length) := by
        show _ = _
        rw [← HL.out, HLS.out, if_neg e]
       clear HL HLS
       go_wp2
       go_round
       case rel => exact ⟨j, by omega, by go_num, HL2.out⟩
       case measure => simp [intOf]
open Go.RowKit
set_option linter.unusedVariables false
structure LT (v : World) (P : Nat → Prop) (na : Option Addr) (nn nc : Nat) (pa : Option Addr) (pn pc : Nat) (V : List V3) (s : LS) : Prop where
 len : V.length = s.1.length
 row : v.ownsRow 0 85 3 (.slice na nn nc) s.1.length (ncs V)
 rd : ∀ i, i < s.1.length → Pr v (fun y => ¬ P y) (vAt V i).1 (nAt s.1 i).ps ∧ Sr v (fun y => ¬ P y) (vAt V i).2.1 (nAt s.1 i).keys
 kid : ∀ i, i < s.1.length → v.ownsRow 0 3 1 (vAt V i).2.2 (nAt s.1 i).kids.length ((nAt s.1 i).kids.map (Value.int .i64))
 apart : ∀ i j, i < s.1.length → j < s.1.length → i ≠ j → ∀ y, (vAt V i).2.2.ownBlock = some y → (vAt V j).2.2.ownBlock ≠ some y
 off : ∀ i, i < s.1.length → ∀ y, (vAt V i).2.2.ownBlock = some y → P y ∧ (Value.slice na nn nc).ownBlock ≠ some y
 pn' : ∀ y, (Value.slice na nn nc).ownBlock = some y → P y
 pla : v.ownsRow 0 3 1 (.slice pa pn pc) s.2.length (s.2.map (Value.int .i64))
 pp : ∀ y, (Value.slice pa pn pc).ownBlock = some y → P y ∧ (Value.slice na nn nc).ownBlock ≠ some y ∧ ∀ i, i < s.1.length → (vAt V i).2.2.ownBlock ≠ some y
theorem LT.below {v v' : World} {P : Nat → Prop} {na : Option Addr} {nn nc : Nat} {pa : Option Addr} {pn pc : Nat} {V : List V3} {s : LS} (h : LT v P na nn nc pa pn pc V s) (hb : Below v.heap.size v v') : LT v' P na nn nc pa pn pc V s := by
 have o := only_of_below hb (fun _ => False)
 exact ⟨h.len, own_kept h.row o (fun _ _ h => h), fun i hi => ⟨(h.rd i hi).1.to o (fun _ _ _ h => h), (h.rd i hi).2.to o (fun _ _ _ h => h)⟩, fun i hi => own_kept (h.kid i hi) o (fun _ _ h => h), h.apart, h.off, h.pn', own_kept h.pla o (fun _ _ h => h), h.pp⟩
theorem LT.iff {v : World} {P Q : Nat → Prop} {na : Option Addr} {nn nc : Nat} {pa : Option Addr} {pn pc : Nat} {V : List V3} {s : LS} (h : LT v P na nn nc pa pn pc V s) (hq : ∀ y, y < v.heap.size → (P y ↔ Q y)) : LT v Q na nn nc pa pn pc V s :=
 ⟨h.len, h.row, fun i hi => ⟨(h.rd i hi).1.mono (fun b hb hl hQ => hb ((hq b hl).2 hQ)), (h.rd i hi).2.mono (fun b hb hl hQ => hb ((hq b hl).2 hQ))⟩, h.kid, h.apart, fun i hi y e => ⟨(hq y (World.ownsRow.lt (h.kid i hi) y e).2).1 (h.off i hi y e).1, (h.off i hi y e).2⟩, fun y e => (hq y (World.ownsRow.lt h.row y e).2).1 (h.pn' y e), h.pla, fun y e => ⟨(hq y (World.ownsRow.lt h.pla y e).2).1 (h.pp y e).1, (h.pp y e).2⟩⟩
theorem LT.pushN {u w2 : World} {P : Nat → Prop} {na : Option Addr} {nn nc : Nat} {pa : Option Addr} {pn pc : Nat} {V : List V3} {s : LS} (h : LT u P na nn nc pa pn pc V s) (x : NB) (x1 x2 : Value) (hk : x.kids = []) (h1 : Pr u (fun y => ¬ P y) x1 x.ps) (h2 : Sr u (fun y => ¬ P y) x2 x.keys) (hP : P u.heap.size) {a5 : Option Addr} {n5 c5 : Nat}
  (ho : w2.ownsRow 0 85 3 (.slice a5 n5 c5) (s.1.length + 1) (ncs V ++ [x1, x2, .slice none 0 0])) (hg : u.grownBy w2 (Value.slice na nn nc).ownBlock) (ha : (Value.slice a5 n5 c5).ownBlock = (Value.slice na nn nc).ownBlock ∨ (Value.slice a5 n5 c5).ownBlock = some u.heap.size) :
  LT w2 P a5 n5 c5 pa pn pc (V ++ [(x1, x2, .slice none 0 0)]) (s.1 ++ [x], s.2) := by
 have o : Only (fun y => (Value.slice na nn nc).ownBlock = some y) u w2 := only_of_grown hg (fun k e => e)
 have hl := h.len
 have hat : ∀ i, i < (s.1 ++ [x]).length → (i < s.1.length ∧ vAt (V ++ [(x1, x2, .slice none 0 0)]) i = vAt V i ∧ nAt (s.1 ++ [x]) i = nAt s.1 i) ∨ (i = s.1.length ∧ vAt (V ++ [(x1, x2, .slice none 0 0)]) i = (x1, x2, .slice none 0 0) ∧ nAt (s.1 ++ [x]) i = x) := by
  intro i hi
  simp at hi
  by_cases e : i < s.1.length
  ·exact .inl ⟨e, vAt_append_left (by omega), nAt_append_left e⟩
  ·obtain rfl : i = s.1.length := by omega
   exact .inr ⟨rfl, by rw [← hl, vAt_append_at], nAt_append_at _ _ _⟩
 have hold : ∀ i, i < (s.1 ++ [x]).length → ∀ y, (vAt (V ++ [(x1, x2, .slice none 0 0)]) i).2.2.ownBlock = some y → i < s.1.length ∧ (vAt V i).2.2.ownBlock = some y := by
  intro i hi y e
  rcases hat i hi with ⟨e1, e2, _⟩ | ⟨e1, e2, _⟩
  ·rw [e2] at e; exact ⟨e1, e⟩
  ·rw [e2] at e; cases e
 have hn5 : ∀ y, (Value.slice a5 n5 c5).ownBlock = some y → (Value.slice na nn nc).ownBlock = some y ∨ y = u.heap.size := by
  intro y e
  rcases ha with ha | ha
  ·exact .inl (ha ▸ e)
  ·rw [ha] at e; cases e; exact .inr rfl
 refine ⟨by simp [hl], by rw [ncs_append, List.length_append]; exact ho, fun i hi => ?_, fun i hi => ?_, fun i j hi hj hij y e e2 => ?_, fun i hi y e => ?_, fun y e => ?_, own_kept h.pla o (fun y e => (h.pp y e).2.1), fun y e => ⟨(h.pp y e).1, fun e2 => ?_, fun i hi e2 => ?_⟩⟩
 ·rcases hat i hi with ⟨e1, e2, e3⟩ | ⟨e1, e2, e3⟩
  ·rw [e2, e3]; exact ⟨(h.rd i e1).1.to o (fun b hb _ e => hb (h.pn' b e)), (h.rd i e1).2.to o (fun b hb _ e => hb (h.pn' b e))⟩
  ·rw [e2, e3]; exact ⟨h1.to o (fun b hb _ e => hb (h.pn' b e)), h2.to o (fun b hb _ e => hb (h.pn' b e))⟩
 ·rcases hat i hi with ⟨e1, e2, e3⟩ | ⟨e1, e2, e3⟩
  ·rw [e2, e3]; exact own_kept (h.kid i e1) o (fun y e => (h.off i e1 y e).2)
  ·rw [e2, e3, hk]; exact World.ownsRow_nil _ _ _ _
 ·obtain ⟨k1, k2⟩ := hold i hi y e
  obtain ⟨k3, k4⟩ := hold j hj y e2
  exact h.apart i j k1 k3 hij y k2 k4
 ·obtain ⟨k1, k2⟩ := hold i hi y e
  refine ⟨(h.off i k1 y k2).1, fun e2 => ?_⟩
  rcases hn5 y e2 with e3 | e3
  ·exact (h.off i k1 y k2).2 e3
  ·have := (World.ownsRow.lt (h.kid i k1) y k2).2; omega
 ·rcases hn5 y e with e3 | e3
  ·exact h.pn' y e3
  ·rw [e3]; exact hP
 ·rcases hn5 y e2 with e3 | e3
  ·exact (h.pp y e).2.1 e3
  ·have := (World.ownsRow.lt h.pla y e).2; omega
 ·obtain ⟨k1, k2⟩ := hold i hi y e2
  exact (h.pp y e).2.2 i k1 k2
theorem LT.pushP {u w2 : World} {P : Nat → Prop} {na : Option Addr} {nn nc : Nat} {pa : Option Addr} {pn pc : Nat} {V : List V3} {s : LS} (h : LT u P na nn nc pa pn pc V s) (t : Int) (hP : P u.heap.size) {a5 : Option Addr} {n5 c5 : Nat}
  (ho : w2.ownsRow 0 3 1 (.slice a5 n5 c5) (s.2.length + 1) (s.2.map (Value.int .i64) ++ [.int .i64 t])) (hg : u.grownBy w2 (Value.slice pa pn pc).ownBlock) (ha : (Value.slice a5 n5 c5).ownBlock = (Value.slice pa pn pc).ownBlock ∨ (Value.slice a5 n5 c5).ownBlock = some u.heap.size) :
  LT w2 P na nn nc a5 n5 c5 V (s.1, s.2 ++ [t]) := by
 have o : Only (fun y => (Value.slice pa pn pc).ownBlock = some y) u w2 := only_of_grown hg (fun k e => e)
 refine ⟨h.len, own_kept h.row o (fun y e e2 => (h.pp y e2).2.1 e), fun i hi => ⟨(h.rd i hi).1.to o (fun b hb _ e => hb (h.pp b e).1), (h.rd i hi).2.to o (fun b hb _ e => hb (h.pp b e).1)⟩, fun i hi => own_kept (h.kid i hi) o (fun y e e2 => (h.pp y e2).2.2 i hi e), h.apart, h.off, h.pn', by simpa using ho, fun y e => ?_⟩
 rcases ha with ha | ha
 ·rw [ha] at e; exact h.pp y e
 ·rw [ha] at e
  cases e
  exact ⟨hP, fun e2 => by have := (World.ownsRow.lt h.row _ e2).2; omega, fun i hi e2 => by have := (World.ownsRow.lt (h.kid i hi) _ e2).2; omega⟩
theorem LT.kidP {u w2 : World} {P : Nat → Prop} {g nn nc : Nat} {pa : Option Addr} {pn pc : Nat} {V : List V3} {s : LS} (h : LT u P (some ⟨g, 0, none⟩) nn nc pa pn pc V s) {me : Nat} (hme : me < s.1.length) (q : Int) (hP : P u.heap.size) {a5 : Option Addr} {n5 c5 : Nat}
  (ho : w2.ownsRow 0 3 1 (.slice a5 n5 c5) ((nAt s.1 me).kids.length + 1) ((nAt s.1 me).kids.map (Value.int .i64) ++ [.int .i64 q])) (hg : u.grownBy w2 (vAt V me).2.2.ownBlock) (ha : (Value.slice a5 n5 c5).ownBlock = (vAt V me).2.2.ownBlock ∨ (Value.slice a5 n5 c5).ownBlock = some u.heap.size) :
  LT (w2.setCell ⟨g, me * 3 + 2, none⟩ (.slice a5 n5 c5)) P (some ⟨g, 0, none⟩) nn nc pa pn pc (V.set me ((vAt V me).1, (vAt V me).2.1, .slice a5 n5 c5)) (addK s.1 me q, s.2) := by
 have o : Only (fun y => (vAt V me).2.2.ownBlock = some y) u w2 := only_of_grown hg (fun k e => e)
 have o2 : Only (fun y => y = g) w2 (w2.setCell ⟨g, me * 3 + 2, none⟩ (.slice a5 n5 c5)) := only_set (R := fun y => y = g) rfl _
 have hl := h.len
 have hG : P g := h.pn' g rfl
 have hv0 : vAt (V.set me ((vAt V me).1, (vAt V me).2.1, .slice a5 n5 c5)) me = ((vAt V me).1, (vAt V me).2.1, .slice a5 n5 c5) := vAt_set _ _ _ (by omega)
 have hv1 : ∀ i, i ≠ me → vAt (V.set me ((vAt V me).1, (vAt V me).2.1, .slice a5 n5 c5)) i = vAt V i := fun i hi => vAt_other _ _ _ _ hi
 have hr : ∀ i, (vAt (V.set me ((vAt V me).1, (vAt V me).2.1, .slice a5 n5 c5)) i).1 = (vAt V i).1 ∧ (vAt (V.set me ((vAt V me).1, (vAt V me).2.1, .slice a5 n5 c5)) i).2.1 = (vAt V i).2.1 ∧ (nAt (addK s.1 me q) i).ps = (nAt s.1 i).ps ∧ (nAt (addK s.1 me q) i).keys = (nAt s.1 i).keys := by
  intro i
  by_cases e : i = me
  ·subst e; rw [hv0, nAt_addK_me _ hme]; exact ⟨rfl, rfl, rfl, rfl⟩
  ·rw [hv1 i e, nAt_addK_other _ e]; exact ⟨rfl, rfl, rfl, rfl⟩
 have hnew : ∀ y, (Value.slice a5 n5 c5).ownBlock = some y → (vAt V me).2.2.ownBlock = some y ∨ y = u.heap.size := by
  intro y e
  rcases ha with ha | ha
  ·exact .inl (ha ▸ e)
  ·rw [ha] at e; cases e; exact .inr rfl
 have hb : ∀ i, i < s.1.length → ∀ y, (vAt (V.set me ((vAt V me).1, (vAt V me).2.1, .slice a5 n5 c5)) i).2.2.ownBlock = some y → (vAt V i).2.2.ownBlock = some y ∨ (i = me ∧ y = u.heap.size) := by
  intro i hi y e
  by_cases e1 : i = me
  ·subst e1
   rw [hv0] at e
   exact (hnew y e).imp id (fun h => ⟨rfl, h⟩)
  ·rw [hv1 i e1] at e; exact .inl e
 have hgu : g < u.heap.size := (World.ownsRow.lt h.row g rfl).2
 refine ⟨by rw [List.length_set, addK_len]; exact hl, ?_, fun i hi => ?_, fun i hi => ?_, fun i j hi hj hij y e e2 => ?_, fun i hi y e => ?_, h.pn', own_kept (own_kept h.pla o (fun y e => (h.pp y e).2.2 me hme)) o2 (fun y e e2 => (h.pp y e).2.1 (by rw [e2]; rfl)), fun y e => ⟨(h.pp y e).1, (h.pp y e).2.1, fun i hi e2 => ?_⟩⟩
 ·rw [ncs_set2 _ _ _ (by omega), addK_len]
  exact row_set (own_kept h.row o (fun y e e2 => (h.off me hme y e2).2 e)) _ _
 ·simp only [addK_len] at hi
  obtain ⟨r1, r2, r3, r4⟩ := hr i
  rw [r1, r2, r3, r4]
  exact ⟨((h.rd i hi).1.to o (fun b hb _ e => hb (h.off me hme b e).1)).to o2 (fun b hb _ e => hb (e ▸ hG)), ((h.rd i hi).2.to o (fun b hb _ e => hb (h.off me hme b e).1)).to o2 (fun b hb _ e => hb (e ▸ hG))⟩
 ·simp only [addK_len] at hi
  by_cases e : i = me
  ·subst e
   rw [hv0, nAt_addK_me _ hme]
   refine own_kept ?_ o2 (fun y e e2 => ?_)
   ·simpa using ho
   ·rcases hnew y e with e3 | e3
    ·exact (h.off i hi y e3).2 (by rw [e2]; rfl)
    ·omega
  ·rw [hv1 i e, nAt_addK_other _ e]
   exact own_kept (own_kept (h.kid i hi) o (fun y e1 => h.apart i me hi hme e y e1)) o2 (fun y e1 e2 => (h.off i hi y e1).2 (by rw [e2]; rfl))
 ·simp only [addK_len] at hi hj
  rcases hb i hi y e with k1 | ⟨k1, k2⟩
  ·rcases hb j hj y e2 with k3 | ⟨k3, k4⟩
   ·exact h.apart i j hi hj hij y k1 k3
   ·have := (World.ownsRow.lt (h.kid i hi) y k1).2; omega
  ·rcases hb j hj y e2 with k3 | ⟨k3, k4⟩
   ·have := (World.ownsRow.lt (h.kid j hj) y k3).2; omega
   ·omega
 ·simp only [addK_len] at hi
  rcases hb i hi y e with k1 | ⟨k1, k2⟩
  ·exact h.off i hi y k1
  ·exact ⟨k2 ▸ hP, fun e2 => by have e3 : g = y := Option.some.inj e2; omega⟩
 ·simp only [addK_len] at hi
  rcases hb i hi y e2 with k1 | ⟨k1, k2⟩
  ·exact (h.pp y e).2.2 i hi k1
  ·have := (World.ownsRow.lt h.pla y e).2; omega
theorem wpList_append_nodeS {w : World} {ops : Array Oper} {rest : List Oper} {o : Oper} {a : Act} {Q : Exit → Act → World → Prop} (hgd : o.guard = none) (s x : Operand)
  (ho : o.op = .call { callee := .builtin .append, args := #[s, x], argTypes := #[31, 31] }) (v : Value) (n : Nat) (xs : List Value) (hs : a.eval s = v) (hown : w.ownsRow 0 85 3 v n xs)
  (g : Nat) (x1 x2 x3 : Value) (h1 : x1.oneCell' = true ∧ x2.oneCell' = true ∧ x3.oneCell' = true) (hx : a.eval x = .slice (some ⟨g, 0, none⟩) 1 1) (hB : Bk w g 85 [x1, x2, x3]) (hb : n ≤ 1048576)
  (h : ∀ a' n' c' w', w'.ownsRow 0 85 3 (.slice a' n' c') (n + 1) (xs ++ [x1, x2, x3]) → w.grownBy w' v.ownBlock → ((Value.slice a' n' c').ownBlock = v.ownBlock ∨ (Value.slice a' n' c').ownBlock = some w.heap.size) → wpList Tryz.prog ops Q rest (a.put o.dst (.slice a' n' c')) w') : wpList Tryz.prog ops Q (o :: rest) a w := by
 obtain ⟨i, hi, hz, hsz, hby⟩ := info_of infoNodeI
 refine wpList_append_row_at hgd s x 31 ho 0 85 i _ 3 72 Tryz.underlying31 hi hz hsz hby rfl (by decide) v n xs hs hown (fun _ => True) _ 1 [x1, x2, x3] hx (hB.rw (Nat.le_refl _) (by omega) (fun h => by omega) _ trivial) rfl
  (by
   intro u hu
   simp at hu
   rcases hu with rfl | rfl | rfl
   ·exact h1.1
   ·exact h1.2.1
   ·exact h1.2.2) (by unfold maxLen; omega) (by omega) (Nat.zero_le _) ?_
 intro v' w' k1 k2 k3
 obtain ⟨a', c', rfl⟩ := own_shape k1
 exact h a' _ c' w' k1 k2 k3
open Go.RowKit
set_option linter.unusedVariables false
theorem pgBody_first (p : PG) : ∀ j, (pgBody p j)[0]? = some 76 ∨ (pgBody p j)[0]? = some 66
 | 0 => by
  rw [pgBody, pgHead]
  split
  ·left; rfl
  ·right; rfl
 | j + 1 => by
  rw [pgBody]
  have h := pgBody_first p j
  have hp : 0 < (pgBody p j).length := by
   rcases h with h | h
   ·exact (List.getElem?_eq_some_iff.1 h).1
   ·exact (List.getElem?_eq_some_iff.1 h).1
  rw [List.getElem?_append_left hp]
  exact h
theorem prd_first {zs : List Int} {p : PG} (h : prd zs = some p) : zs[0]? = some 76 ∨ zs[0]? = some 66 := by
 have h1 := (prd_iff zs p).1 h
 unfold pgBytes at h1
 split at h1
 ·cases h1
  have h2 := pgBody_first p p.keys.length
  have hp : 0 < (pgRaw p).length := by
   rcases h2 with h | h
   ·exact (List.getElem?_eq_some_iff.1 h).1
   ·exact (List.getElem?_eq_some_iff.1 h).1
  rw [pgFull, List.getElem?_append_left hp]
  exact h2
 ·cases h1
theorem prd_sheet (l : List Int) : prd (sheet l) = prd l := by
 unfold sheet
 split
 ·rename_i h0
  have hl : l = [] := List.eq_nil_of_length_eq_zero h0
  have h1 : prd (List.replicate 512 0) = none := by
   cases e : prd (List.replicate 512 0) with
   | none => rfl
   | some p =>
    rcases prd_first e with h | h
    ·rw [List.getElem?_replicate, if_pos (by decide)] at h
     exact absurd (Option.some.inj h) (by decide)
    ·rw [List.getElem?_replicate, if_pos (by decide)] at h
     exact absurd (Option.some.inj h) (by decide)
  have h2 : prd l = none := by
   cases e : prd l with
   | none => rfl
   | some p => rcases prd_first e with h | h <;> simp [hl] at h
  rw [h1, h2]
 ·rfl
theorem pgAt_rd {d : DK} (hok : dkOk d = true) (hd : d.dw = []) (t : Int) : pgAt d.sh t = (rdV d t).bind prd := by
 unfold pgAt rdV
 by_cases h : 0 ≤ t ∧ t < (d.sh.length : Int)
 ·rw [if_pos h, if_pos ⟨hok, h⟩, hd]
  exact (prd_sheet _).symm
 ·rw [if_neg h, if_neg (fun e => h e.2)]
  rfl
theorem rdV_byt {d : DK} (hok : dkOk d = true) (hd : d.dw = []) (hb : ∀ i, i < d.sh.length → byt (shAt d.sh i)) (t : Int) : byt ((rdV d t).getD []) ∧ ((rdV d t).getD []).length ≤ 512 := by
 unfold rdV
 by_cases h : 0 ≤ t ∧ t < (d.sh.length : Int)
 ·rw [if_pos ⟨hok, h⟩, hd]
  have hi : t.toNat < d.sh.length := by omega
  have h1 : shOk (shAt d.sh t.toNat) = true := by
   simp only [dkOk, Bool.and_eq_true] at hok
   exact (allD_at []).1 hok.1.2 _ hi
  refine ⟨?_, ?_⟩
  ·show byt (sheet _)
   have h2 := hb _ hi
   unfold sheet
   split
   ·intro i
    rw [List.getElem?_replicate]
    split <;> simp
   ·exact h2
  ·show (sheet _).length ≤ 512
   rw [sheet_len h1]
   exact Nat.le_refl _
 ·rw [if_neg (fun e => h e.2)]
  exact ⟨fun i => by simp, by simp⟩
theorem pgr_mono {w : World} {S R : Nat → Prop} {ka : Option Addr} {kn kc : Nat} {va : Option Addr} {vn vc : Nat} {ia : Option Addr} {jn ic : Nat} {p : PG} (h : Pgr w S ka kn kc va vn vc ia jn ic p) (hr : ∀ y, S y → y < w.heap.size → R y) : Pgr w R ka kn kc va vn vc ia jn ic p :=
 ⟨Rw.mono h.hk hr, Rw.mono h.hv hr, Rw.mono h.hi hr⟩
structure NM (U v : World) (xa : Option Addr) (xn xc : Nat) (l : List PB) : Prop where
 bel : Below U.heap.size U v
 k2 : Bk v U.heap.size 85 [.slice xa xn xc, .slice none 0 0, .slice none 0 0]
 own : v.ownsRow (U.heap.size + 1) 112 2 (.slice xa xn xc) l.length (pcs l)
theorem NM.below {U v v' : World} {xa : Option Addr} {xn xc : Nat} {l : List PB} (h : NM U v xa xn xc l) (hb : Below v.heap.size v v') : NM U v' xa xn xc l :=
 ⟨bt7 h.bel hb, h.k2.below hb, own_kept h.own (only_of_below hb (fun _ => False)) (fun _ _ h => h)⟩
theorem NM.push {U v v5 : World} {xa : Option Addr} {xn xc : Nat} {l : List PB} (h : NM U v xa xn xc l) (ks vs : ByteArray) {a5 : Option Addr} {n5 c5 : Nat} (ho : v5.ownsRow (U.heap.size + 1) 112 2 (.slice a5 n5 c5) (l.length + 1) (pcs l ++ [.string ks, .string vs])) (hg : v.grownBy v5 (Value.slice xa xn xc).ownBlock) :
  NM U (v5.setCell ⟨U.heap.size, 0, none⟩ (.slice a5 n5 c5)) a5 n5 c5 (l ++ [(ks, vs)]) := by
 have o : Only (fun y => (Value.slice xa xn xc).ownBlock = some y) v v5 := only_of_grown hg (fun k e => e)
 have hlt : ∀ y, (Value.slice xa xn xc).ownBlock = some y → U.heap.size + 1 ≤ y := fun y e => (World.ownsRow.lt h.own y e).1
 have o2 : Only (fun y => y = U.heap.size) v5 (v5.setCell ⟨U.heap.size, 0, none⟩ (.slice a5 n5 c5)) := only_set (R := fun y => y = U.heap.size) rfl _
 refine ⟨(h.bel.trans (o.below h.bel.size (fun y hy e => by have := hlt y e; omega))).setCell (p := ⟨U.heap.size, 0, none⟩) (Nat.le_refl _) _, (h.k2.to o (fun e => by have := hlt _ e; omega)).set 0 _, ?_⟩
 rw [List.length_append, pcs_append]
 exact own_kept ho o2 (fun y e e2 => by have := (World.ownsRow.lt ho y e).1; omega)
theorem NM.start (U : World) : NM U (U.alloc (.cells #[.slice none 0 0, .slice none 0 0, .slice none 0 0] 85)) none 0 0 [] :=
 ⟨below_new (Below.refl _ _), Bk.new U 85 [.slice none 0 0, .slice none 0 0, .slice none 0 0], World.ownsRow_nil _ _ _ _⟩
def LdPost (ss : List (List Int)) (f : Nat) (P : Nat → Prop) (t : Int) (s : LS) (w : World) (e : Ending) (w' : World) : Prop :=
 Only P w w' ∧ ((ldV ss f t s = none ∧ e = .returned (.tuple #[.slice none 0 0, .slice none 0 0, .bool false])) ∨ ∃ s' P' na nn nc pa pn pc V, ldV ss f t s = some s' ∧ s'.2.length = s'.1.length ∧ e = .returned (.tuple #[.slice na nn nc, .slice pa pn pc, .bool true]) ∧ (∀ y, P' y → (P y ∨ w.heap.size ≤ y) ∧ y < w'.heap.size) ∧ LT w' P' na nn nc pa pn pc V s')
def LdAll (d : DK) (f : Nat) (sa : Option Addr) (sn sc : Nat) (da : Option Addr) (dn dc : Nat) : Prop := ∀ (S P : Nat → Prop) (na : Option Addr) (nn nc : Nat) (pa : Option Addr) (pn pc : Nat) (V : List V3) (s : LS) (t : Int) (w : World),
 Dk w S sa sn sc da dn dc d → (∀ y, S y → y < w.heap.size ∧ ¬ P y) → (∀ y, P y → y < w.heap.size) → LT w P na nn nc pa pn pc V s → s.2.length = s.1.length → s.1.length ≤ 400 → 400 ≤ s.1.length + f →
 Calls Tryz.prog 26 #[.agg #[.slice sa sn sc, .slice da dn dc], .int .i64 t, .slice na nn nc, .slice pa pn pc] w fun e w' => LdPost d.sh f P t s w e w'
theorem specPageRead_two (a : Option Addr) (n c : Nat) (zs : List Int) (w : World) (h : Rd w a n c zs) :
  Calls Tryz.prog 63 #[.slice a n c] w fun e w' => Below w.heap.size w w' ∧ ∃ (ka : Option Addr) (kn kc : Nat) (va : Option Addr) (vn vc : Nat) (ia : Option Addr) (jn ic : Nat), e = .returned (.tuple #[.agg #[.slice ka kn kc, .slice va vn vc, .slice ia jn ic], .bool (prd zs).isSome]) ∧ ∀ p, prd zs = some p → Pgr w' (fun y => w.heap.size ≤ y) ka kn kc va vn vc ia jn ic p := by
 refine (specPageRead_any a n c zs w h).mono ?_
 rintro e w' ⟨hb, ⟨h1, rfl⟩ | ⟨p, ka, kn, kc, va, vn, vc, ia, jn, ic, h1, rfl, h2⟩⟩
 ·exact ⟨hb, none, 0, 0, none, 0, 0, none, 0, 0, by rw [h1]; rfl, fun p h => by rw [h1] at h; cases h⟩
 ·exact ⟨hb, ka, kn, kc, va, vn, vc, ia, jn, ic, by rw [h1]; rfl, fun p' h => by rw [h1] at h; cases h; exact h2⟩
set_option maxHeartbeats 8000000 in
set_option maxRecDepth 100000 in
theorem l06Load_step (d : DK) (hok : dkOk d = true) (hdw : d.dw = []) (hsm : smallD d) (f : Nat) (sa : Option Addr) (sn sc : Nat) (da : Option Addr) (dn dc : Nat) (IH : ∀ f', f = f' + 1 → LdAll d f' sa sn sc da dn dc) : LdAll d f sa sn sc da dn dc := by
 intro S P na nn nc pa pn pc V s t w hD hS hP hL hpl hn4 hf
 have HD := hid hD
 have HL := hid hL
 have HNN := hid (own_at hL.row).1
 have hnc := (own_at hL.row).2.1
 have hnc' := (own_at hL.row).2.2.1
 have HPN := hid (own_at hL.pla).1
 have hpc := (own_at hL.pla).2.1
 have hpc' := (own_at hL.pla).2.2.1
 have HL4 := hid hn4
 have HF := hid hf
 have HPL := hid hpl
 have HS := hid hS
 have HP := hid hP
 have HB0 : Hid (Below w.heap.size w (w.alloc (.cells #[.slice sa sn sc, .slice da dn dc] 30))) := below_new (Below.refl _ _)
 have K0 := hid (Bk.new w 30 [.slice sa sn sc, .slice da dn dc])
 have HDR := hid (fun v (h : Below w.heap.size w v) => specDiskRead_any S sa sn sc da dn dc d t v (HD.out.below h) hsm)
 have HBY := hid (rdV_byt hok hdw (fun i hi => by
  obtain ⟨V0, h1, h2, h3⟩ := hD.hs
  exact (h3 i hi).2) t)
 have HOR : Hid (∀ (v : World) (a : Option Addr) (n c : Nat), Ob v (w.alloc (.cells #[.slice sa sn sc, .slice da dn dc] 30)).heap.size (.slice a n c) ((rdV d t).getD []) → Rd v a n c ((rdV d t).getD [])) := by
  intro v a n c h
  obtain ⟨a', c', e, h1, -⟩ := h.rd HBY.out.1 (by have := HBY.out.2; omega)
  cases e
  exact h1
 have HPA := hid (pgAt_rd hok hdw t)
 have HIR : Hid (∀ v, Below w.heap.size w v → Ir v (fun _ => True) (.slice pa pn pc) s.2) := fun v hv => rw_own (HL.out.below hv).pla (fun _ _ _ _ => trivial)
 clear hD hL hpl hn4 hf hS hP HBY
 rcases hv : rdV d t with _ | zs
 ·have HV : Hid ((rdV d t).isSome = false) := by show _ = _; rw [hv]; rfl
  have HB : Hid (ldV d.sh f t s = none) := ldV_page (by rw [HPA.out, hv]; rfl)
  have HVZ : Hid ((rdV d t).getD [] = []) := by show _ = _; rw [hv]; rfl
  clear hv
  go_enter Tryz.func26, Tryz.ntmps26
  go_wp2_with fail
  refine (HDR.out _ HB0.out).mono ?_
  rintro e w1 ⟨ya, yn, yc, rfl, hOb, hb1⟩
  have HB1 : Hid (Below w.heap.size w w1) := bt7 HB0.out hb1
  have K1 := hid (K0.out.below hb1)
  have HRD : Hid (Rd w1 ya yn yc []) := by
   have h := HOR.out w1 ya yn yc hOb
   rw [HVZ.out] at h
   exact h
  clear hOb hb1
  rw [HV.out]
  go_wp2_with fail
  refine (specPageRead_two ya yn yc [] _ HRD.out).mono ?_
  rintro e w2 ⟨hb2, ka, kn, kc, va, vn, vc, ia, jn, ic, rfl, hPG⟩
  have HB2 : Hid (Below w.heap.size w (w2.alloc (.cells #[.slice ka kn kc, .slice va vn vc, .slice ia jn ic] 107))) := bt7 (bt7 HB1.out hb2) (below_new (Below.refl _ _))
  generalize (prd []).isSome = bz at *
  clear hPG
  go_wp2
  go_ret3
  exact ⟨only_of_below HB2.out _, .inl ⟨HB.out, rfl⟩⟩
 ·have HV : Hid ((rdV d t).isSome = true) := by show _ = _; rw [hv]; rfl
  have HPZ : Hid (pgAt d.sh t = prd zs) := by show _ = _; rw [HPA.out, hv]; rfl
  have HVZ : Hid ((rdV d t).getD [] = zs) := by show _ = _; rw [hv]; rfl
  clear hv HPA
  rcases hz : prd zs with _ | p
  ·have HB : Hid (ldV d.sh f t s = none) := ldV_page (by rw [HPZ.out, hz])
   have HZ : Hid ((prd zs).isSome = false) := by show _ = _; rw [hz]; rfl
   clear hz
   go_enter Tryz.func26, Tryz.ntmps26
   go_wp2_with fail
   refine (HDR.out _ HB0.out).mono ?_
   rintro e w1 ⟨ya, yn, yc, rfl, hOb, hb1⟩
   have HB1 : Hid (Below w.heap.size w w1) := bt7 HB0.out hb1
   have K1 := hid (K0.out.below hb1)
   have HRD : Hid (Rd w1 ya yn yc zs) := by
    have h := HOR.out w1 ya yn yc hOb
    rw [HVZ.out] at h
    exact h
   clear hOb hb1
   rw [HV.out]
   go_wp2_with fail
   refine (specPageRead_two ya yn yc zs _ HRD.out).mono ?_
   rintro e w2 ⟨hb2, ka, kn, kc, va, vn, vc, ia, jn, ic, rfl, hPG⟩
   have HB2 : Hid (Below w.heap.size w (w2.alloc (.cells #[.slice ka kn kc, .slice va vn vc, .slice ia jn ic] 107))) := bt7 (bt7 HB1.out hb2) (below_new (Below.refl _ _))
   rw [HZ.out]
   clear hPG
   go_wp2
   go_ret3
   exact ⟨only_of_below HB2.out _, .inl ⟨HB.out, rfl⟩⟩
  ·have HZ : Hid ((prd zs).isSome = true) := by show _ = _; rw [hz]; rfl
   have HOK := hid (prd_ok hz)
   have HZZ := hid hz
   have HZP : Hid (pgAt d.sh t = some p) := by show _ = _; rw [HPZ.out, hz]
   clear hz
   by_cases q2 : t ∈ s.2
   ·have HB : Hid (ldV d.sh f t s = none) := ldV_bad (.inl q2)
    have HC : Hid (decide (t ∈ s.2) = true) := decide_eq_true q2
    clear q2
    go_enter Tryz.func26, Tryz.ntmps26
    go_wp2_with fail
    refine (HDR.out _ HB0.out).mono ?_
    rintro e w1 ⟨ya, yn, yc, rfl, hOb, hb1⟩
    have HB1 : Hid (Below w.heap.size w w1) := bt7 HB0.out hb1
    have K1 := hid (K0.out.below hb1)
    have HRD : Hid (Rd w1 ya yn yc zs) := by
     have h := HOR.out w1 ya yn yc hOb
     rw [HVZ.out] at h
     exact h
    clear hOb hb1
    rw [HV.out]
    go_wp2_with fail
    refine (specPageRead_two ya yn yc zs _ HRD.out).mono ?_
    rintro e w2 ⟨hb2, ka, kn, kc, va, vn, vc, ia, jn, ic, rfl, hPG⟩
    have HB2 : Hid (Below w.heap.size w (w2.alloc (.cells #[.slice ka kn kc, .slice va vn vc, .slice ia jn ic] 107))) := bt7 (bt7 HB1.out hb2) (below_new (Below.refl _ _))
    rw [HZ.out]
    clear hPG
    go_wp2_with fail
    refine (has_any (fun _ => True) pa pn pc s.2 t _ (HIR.out _ HB2.out)).mono ?_
    rintro e w3 ⟨rfl, rfl⟩
    rw [HC.out]
    go_wp2
    go_ret3
    exact ⟨only_of_below HB2.out _, .inl ⟨HB.out, rfl⟩⟩
   ·have HC : Hid (decide (t ∈ s.2) = false) := decide_eq_false q2
    by_cases q3 : 400 ≤ nn
    ·have HB : Hid (ldV d.sh f t s = none) := ldV_bad (.inr (by rw [← HNN.out]; exact q3))
     have q3' : (400 : Int) ≤ (nn : Int) := by omega
     clear q2
     go_enter Tryz.func26, Tryz.ntmps26
     go_wp2_with fail
     refine (HDR.out _ HB0.out).mono ?_
     rintro e w1 ⟨ya, yn, yc, rfl, hOb, hb1⟩
     have HB1 : Hid (Below w.heap.size w w1) := bt7 HB0.out hb1
     have K1 := hid (K0.out.below hb1)
     have HRD : Hid (Rd w1 ya yn yc zs) := by
      have h := HOR.out w1 ya yn yc hOb
      rw [HVZ.out] at h
      exact h
     clear hOb hb1
     rw [HV.out]
     go_wp2_with fail
     refine (specPageRead_two ya yn yc zs _ HRD.out).mono ?_
     rintro e w2 ⟨hb2, ka, kn, kc, va, vn, vc, ia, jn, ic, rfl, hPG⟩
     have HB2 : Hid (Below w.heap.size w (w2.alloc (.cells #[.slice ka kn kc, .slice va vn vc, .slice ia jn ic] 107))) := bt7 (bt7 HB1.out hb2) (below_new (Below.refl _ _))
     rw [HZ.out]
     clear hPG
     go_wp2_with fail
     refine (has_any (fun _ => True) pa pn pc s.2 t _ (HIR.out _ HB2.out)).mono ?_
     rintro e w3 ⟨rfl, rfl⟩
     rw [HC.out]
     go_wp2
     go_ret3
     exact ⟨only_of_below HB2.out _, .inl ⟨HB.out, rfl⟩⟩
    ·have q3' : ¬ (400 : Int) ≤ (nn : Int) := by omega
     have q4' : (nn : Int) < 400 := by omega
     have HF1 : Hid (∃ f', f = f' + 1) := by
      have h1 := HF.out
      have h2 := HL4.out
      have h3 := HNN.out
      exact ⟨f - 1, by omega⟩
     obtain ⟨f', rfl⟩ := HF1.out
     have HI := hid (IH f' rfl)
     have HQ : Hid (¬ (t ∈ s.2 ∨ 400 ≤ s.1.length)) := by
      have h3 := HNN.out
      exact fun h => h.elim q2 (fun h => by omega)
     clear IH HF1 q2
     go_enter Tryz.func26, Tryz.ntmps26
     go_wp2_with fail
     refine (HDR.out _ HB0.out).mono ?_
     rintro e w1 ⟨ya, yn, yc, rfl, hOb, hb1⟩
     have HB1 : Hid (Below w.heap.size w w1) := bt7 HB0.out hb1
     have K1 := hid (K0.out.below hb1)
     have HRD : Hid (Rd w1 ya yn yc zs) := by
      have h := HOR.out w1 ya yn yc hOb
      rw [HVZ.out] at h
      exact h
     clear hOb hb1
     rw [HV.out]
     go_wp2_with fail
     refine (specPageRead_two ya yn yc zs _ HRD.out).mono ?_
     rintro e w2 ⟨hb2, ka, kn, kc, va, vn, vc, ia, jn, ic, rfl, hPG⟩
     have HB2 : Hid (Below w.heap.size w (w2.alloc (.cells #[.slice ka kn kc, .slice va vn vc, .slice ia jn ic] 107))) := bt7 (bt7 HB1.out hb2) (below_new (Below.refl _ _))
     rw [HZ.out]
     have PG := hid ((pgr_mono (hPG p HZZ.out) (R := fun y => w.heap.size ≤ y ∧ y < w2.heap.size) (fun y h h2 => ⟨Nat.le_trans HB1.out.size h, h2⟩)).below (below_new (o := (.cells #[.slice ka kn kc, .slice va vn vc, .slice ia jn ic] 107)) (w := w2) (Below.refl _ _)))
     have KP := hid (Bk.new w2 107 [.slice ka kn kc, .slice va vn vc, .slice ia jn ic])
     have KD := hid ((K1.out.below hb2).alloc (.cells #[.slice ka kn kc, .slice va vn vc, .slice ia jn ic] 107))
     have HSZ : Hid (w.heap.size < w2.heap.size) := Nat.lt_of_lt_of_le K1.out.lt hb2.size
     have HSZ2 : Hid ((w2.alloc (.cells #[.slice ka kn kc, .slice va vn vc, .slice ia jn ic] 107)).heap.size = w2.heap.size + 1) := by show _ = _; simp
     clear hPG hb2 HRD HB1 K1 K0 HB0 HDR HOR HZ HZZ HPZ
     go_wp2_with fail
     refine (has_any (fun _ => True) pa pn pc s.2 t _ (HIR.out _ HB2.out)).mono ?_
     rintro e w3 ⟨rfl, rfl⟩
     rw [HC.out]
     clear HC
     have HGO := hid (ldV_go (f := f') HZP.out HQ.out)
     have HKO := hid (pgOk_shape HOK.out)
     have HLK := (Rw.len PG.out.hk)
     have HLV := (Rw.len PG.out.hv)
     have HLI := (Rw.len PG.out.hi)
     have HNK := hid HLK.1
     have HNV := hid HLV.1
     have HNI := hid HLI.1
     have hkc := HLK.2.1
     have hkc' := HLK.2.2
     have hvc := HLV.2.1
     have hvc' := HLV.2.2
     have hic := HLI.2.1
     have hic' := HLI.2.2
     have hlen : s.1.length ≤ 1048576 := by have := HL4.out; omega
     have hlen2 : s.2.length ≤ 1048576 := by have h1 := HPL.out; omega
     clear HLK HLV HLI
     generalize hU1 : w2.alloc (.cells #[.slice ka kn kc, .slice va vn vc, .slice ia jn ic] 107) = U1 at *
     generalize w2.heap.size = pb at *
     clear hU1
     by_cases hj : jn = 0
     ·have HND : Hid (nodeP p = ⟨pairsP p, [], []⟩) := by show _ = _; rw [nodeP, if_pos (by have := HNI.out; omega)]
      have HVK : Hid (vn = kn) := by show _ = _; have := HKO.out.1 (by have := HNI.out; omega); have h1 := HNK.out; have h2 := HNV.out; omega
      have hk4 : kn ≤ 4 := by have h1 := HNK.out; have h2 := HKO.out.2.1; omega
      have HK0 : Hid (p.kids = []) := List.eq_nil_of_length_eq_zero (by have := HNI.out; omega)
      have N0 := hid (NM.start U1)
      subst hj
      have c0 := (KP.out.alloc (.cells #[.slice none 0 0, .slice none 0 0, .slice none 0 0] 85)).cell (j := 0) rfl
      have c2 := (KP.out.alloc (.cells #[.slice none 0 0, .slice none 0 0, .slice none 0 0] 85)).cell (j := 2) rfl
      go_wp2_with fail
      generalize U1.alloc (.cells #[.slice none 0 0, .slice none 0 0, .slice none 0 0] 85) = W at *
      clear c0 c2
      go_loopw [64] (fun i wr => ∃ (k : Nat) (xa : Option Addr) (xn xc : Nat), k ≤ kn ∧ i = .int .i64 k ∧ Hid (NM U1 wr xa xn xc ((pairsP p).take k))) (fun i _ => kn - (intOf i).toNat)
      case atStart => exact ⟨0, none, 0, 0, Nat.zero_le _, rfl, N0.out⟩
      case round =>
       clear N0
       obtain ⟨k, xa, xn, xc, hk, rfl, NN⟩ := hrel
       by_cases hlt : k < kn
       ·have hlt' : (k : Int) < (kn : Int) := by omega
        have hltv : k < vn := by have := HVK.out; omega
        have hltv' : (k : Int) < (vn : Int) := by omega
        have PR := PG.out.below NN.out.bel
        obtain ⟨kb, ko, rfl, -, -, hck⟩ := PR.hk.at (by omega)
        obtain ⟨vb, vo, rfl, hvs0, hvb, hcv⟩ := PR.hv.at (by omega)
        have HVB := hid hvs0
        have q0 := hck k hlt
        have q1 := hcv k hltv
        have HKL : Hid (k < p.keys.length) := by rw [← HNK.out]; exact hlt
        have HTK := hid (pairsP_take p HKL.out)
        have HKV : Hid (∃ ks vs, sAt p.keys k = ks ∧ sAt p.vals k = vs) := ⟨_, _, rfl, rfl⟩
        obtain ⟨ks, vs, hks, hvs⟩ := HKV.out
        rw [hks, hvs] at HTK
        rw [hks] at q0
        rw [hvs] at q1
        have HPLN : Hid (((pairsP p).take k).length = k) := by show _ = _; rw [List.length_take, pairsP_len]; have := HKL.out; omega
        have hk6 : k ≤ 1048576 := by omega
        have HW2 : Hid (Below wr.heap.size wr ((wr.alloc (.cells #[.string ks, .string vs] 112)).drew)) := bt7 (below_new (Below.refl _ _)) (below_drew _)
        have N2 := hid (NN.out.below HW2.out)
        have HNE : Hid ((Value.slice xa xn xc).ownBlock ≠ some U1.heap.size) := fun e => by have := (World.ownsRow.lt NN.out.own _ e).1; omega
        have H2 : Hid (World.ownsRow ((wr.alloc (.cells #[.string ks, .string vs] 112)).drew) (U1.heap.size + 1) 112 2 (.slice xa xn xc) k (pcs ((pairsP p).take k))) := by have := N2.out.own; rw [HPLN.out] at this; exact this
        have KN : Hid (Bk ((wr.alloc (.cells #[.string ks, .string vs] 112)).drew) wr.heap.size 112 [.string ks, .string vs]) := (Bk.new wr 112 [.string ks, .string vs]).below (below_drew _)
        have HBS : Hid (U1.heap.size + 1 ≤ ((wr.alloc (.cells #[.string ks, .string vs] 112)).drew).heap.size) := N2.out.k2.lt
        have C2 : Hid (((wr.alloc (.cells #[.string ks, .string vs] 112)).drew).cell? ⟨U1.heap.size, 0, none⟩ = some (.slice xa xn xc) ∧ ((wr.alloc (.cells #[.string ks, .string vs] 112)).drew).frozen? ⟨U1.heap.size, 0, none⟩ = false) := ⟨N2.out.k2.cell (j := 0) rfl, N2.out.k2.free 0⟩
        have HPU : Hid (∀ a5 n5 c5 (w5 : World), w5.ownsRow (U1.heap.size + 1) 112 2 (.slice a5 n5 c5) (k + 1) (pcs ((pairsP p).take k) ++ [.string ks, .string vs]) → World.grownBy ((wr.alloc (.cells #[.string ks, .string vs] 112)).drew) w5 (Value.slice xa xn xc).ownBlock → NM U1 (w5.setCell ⟨U1.heap.size, 0, none⟩ (.slice a5 n5 c5)) a5 n5 c5 ((pairsP p).take (k + 1))) := by
         intro a5 n5 c5 w5 h1 h2
         rw [HTK.out]
         exact N2.out.push ks vs (by rw [HPLN.out]; exact h1) h2
        have HSX : Hid (∀ v, Only (fun y => (Value.slice xa xn xc).ownBlock = some y ∨ y = U1.heap.size) wr v → v.cell? ⟨pb, 1, none⟩ = some (.slice (some ⟨vb, vo, none⟩) vn vc) ∧ v.cell? ⟨vb, vo + k, none⟩ = some (.string vs)) := by
         intro v ov
         have hown := NN.out.own
         have hpb := KP.out.lt
         refine ⟨((KP.out.below NN.out.bel).to ov (fun e => ?_)).cell (j := 1) rfl, ?_⟩
         ·rcases e with e | e
          ·have := (World.ownsRow.lt hown _ e).1; omega
          ·omega
         ·have hbk := ov.block vb hvb (fun e => by
           have h1 := HVB.out.2
           have h2 := HSZ2.out
           rcases e with e | e
           ·have := (World.ownsRow.lt hown _ e).1; omega
           ·omega)
          exact (World.cell?_of_block (w := wr) (a := ⟨vb, vo + k, none⟩) hbk).trans q1
        have HS0 := hid (HSX.out wr.drew (only_of_below (below_drew _) _))
        have S2 := hid (HSX.out _ (only_of_below HW2.out _))
        have c1 := NN.out.k2.cell (j := 0) rfl
        have c2 := C2.out.1
        clear hks hvs hck hcv PR hvs0
        go_wp2_with fail
        refine wp_region_noPanic ?_
        refine wp_region_held_drew (S := (fun v => v.cell? ⟨pb, 1, none⟩ = some (.slice (some ⟨vb, vo, none⟩) vn vc) ∧ v.cell? ⟨vb, vo + k, none⟩ = some (.string vs))) (by kernel_rfl) HS0.out (fun hHeld => ?_)
        simp only [List.size_toArray, List.length_cons, List.length_nil, Array.replicate_succ, Array.replicate_zero, Nat.reduceAdd, List.push_toArray, List.nil_append, List.cons_append]
        refine wpAnyH_take (i := 0) (v := (.pointer (some ⟨U1.heap.size, 0, none⟩))) rfl (by kernel_rfl) (by kernel_rfl) (by kernel_rfl) (fun _ _ _ h => h) (Or.inl ⟨by rfl, ?_⟩) (by assumption) ?_
        ·intro w hSw
         (try dsimp only at hSw)
         go_simp
        try simp only [List.getElem_toArray]
        try simp only [List.getElem_cons_succ]
        try simp only [List.getElem_cons_zero]
        try simp only [Act.put]
        try simp only [List.setIfInBounds_toArray]
        try simp only [List.set_cons_succ]
        try simp only [List.set_cons_zero]
        refine wpAnyH_take (i := 2) (v := (.string ks)) rfl (by kernel_rfl) (by kernel_rfl) (by kernel_rfl) (fun _ _ _ h => h) (Or.inl ⟨by rfl, ?_⟩) (by assumption) ?_
        ·intro w hSw
         (try dsimp only at hSw)
         go_simp
        try simp only [List.getElem_toArray]
        try simp only [List.getElem_cons_succ]
        try simp only [List.getElem_cons_zero]
        try simp only [Act.put]
        try simp only [List.setIfInBounds_toArray]
        try simp only [List.set_cons_succ]
        try simp only [List.set_cons_zero]
        refine wpAnyH_take (i := 3) (v := (.pointer (some ⟨pb, 1, none⟩))) rfl (by kernel_rfl) (by kernel_rfl) (by kernel_rfl) (fun _ _ _ h => h) (Or.inl ⟨by rfl, ?_⟩) (by assumption) ?_
        ·intro w hSw
         (try dsimp only at hSw)
         go_simp
        try simp only [List.getElem_toArray]
        try simp only [List.getElem_cons_succ]
        try simp only [List.getElem_cons_zero]
        try simp only [Act.put]
        try simp only [List.setIfInBounds_toArray]
        try simp only [List.set_cons_succ]
        try simp only [List.set_cons_zero]
        refine wpAnyH_take (i := 4) (v := (.slice (some ⟨vb, vo, none⟩) vn vc)) rfl (by kernel_rfl) (by kernel_rfl) (by kernel_rfl) (fun _ _ _ h => h) (Or.inl ⟨by rfl, ?_⟩) (by assumption) ?_
        ·intro w hSw
         (try dsimp only at hSw)
         go_simp
        try simp only [List.getElem_toArray]
        try simp only [List.getElem_cons_succ]
        try simp only [List.getElem_cons_zero]
        try simp only [Act.put]
        try simp only [List.setIfInBounds_toArray]
        try simp only [List.set_cons_succ]
        try simp only [List.set_cons_zero]
        refine wpAnyH_take (i := 5) (v := (.int .i64 (k : Int))) rfl (by kernel_rfl) (by kernel_rfl) (by kernel_rfl) (fun _ _ _ h => h) (Or.inl ⟨by rfl, ?_⟩) (by assumption) ?_
        ·intro w hSw
         (try dsimp only at hSw)
         go_simp
        try simp only [List.getElem_toArray]
        try simp only [List.getElem_cons_succ]
        try simp only [List.getElem_cons_zero]
        try simp only [Act.put]
        try simp only [List.setIfInBounds_toArray]
        try simp only [List.set_cons_succ]
        try simp only [List.set_cons_zero]
        refine wpAnyH_take (i := 6) (v := (.pointer (some ⟨vb, vo + k, none⟩))) rfl (by kernel_rfl) (by kernel_rfl) (by kernel_rfl) (fun _ _ _ h => h) (Or.inl ⟨by rfl, ?_⟩) (by assumption) ?_
        ·intro w hSw
         (try dsimp only at hSw)
         go_simp
        try simp only [List.getElem_toArray]
        try simp only [List.getElem_cons_succ]
        try simp only [List.getElem_cons_zero]
        try simp only [Act.put]
        try simp only [List.setIfInBounds_toArray]
        try simp only [List.set_cons_succ]
        try simp only [List.set_cons_zero]
        refine wpAnyH_take (i := 7) (v := (.string vs)) rfl (by kernel_rfl) (by kernel_rfl) (by kernel_rfl) (fun _ _ _ h => h) (Or.inl ⟨by rfl, ?_⟩) (by assumption) ?_
        ·intro w hSw
         (try dsimp only at hSw)
         go_simp
        try simp only [List.getElem_toArray]
        try simp only [List.getElem_cons_succ]
        try simp only [List.getElem_cons_zero]
        try simp only [Act.put]
        try simp only [List.setIfInBounds_toArray]
        try simp only [List.set_cons_succ]
        try simp only [List.set_cons_zero]
        refine wpAnyH_take (i := 8) (v := (.agg #[.string ks, .string vs])) rfl (by kernel_rfl) (by kernel_rfl) (by kernel_rfl) (fun _ _ _ h => h) (Or.inl ⟨by rfl, ?_⟩) (by assumption) ?_
        ·intro w hSw
         (try dsimp only at hSw)
         go_simp
        try simp only [List.getElem_toArray]
        try simp only [List.getElem_cons_succ]
        try simp only [List.getElem_cons_zero]
        try simp only [Act.put]
        try simp only [List.setIfInBounds_toArray]
        try simp only [List.set_cons_succ]
        try simp only [List.set_cons_zero]
        refine wpAnyH_ready (rs := [1, 9]) (by kernel_rfl) (by simp) ?_
        refine (AllReadyH.cons rfl (fun K1 hK => ?_) (AllReadyH.cons rfl (fun K1 hK => ?_) AllReadyH.nil))
        ·go_simp
         refine hK.out _ _ ?_ (fun hHeld => ?_)
         ·assumption
         clear hK K1
         try simp only [List.getElem_toArray]
         try simp only [List.getElem_cons_succ]
         try simp only [List.getElem_cons_zero]
         try simp only [Act.put]
         try simp only [List.setIfInBounds_toArray]
         try simp only [List.set_cons_succ]
         try simp only [List.set_cons_zero]
         refine wpAnyH_ready (rs := [9]) (by kernel_rfl) (by simp) ?_
         refine (AllReadyH.cons rfl (fun K1 hK => ?_) AllReadyH.nil)
         go_simp
         refine hK.out _ _ ?_ (fun hHeld => ?_)
         ·exact S2.out
         clear hK K1
         try simp only [List.getElem_toArray]
         try simp only [List.getElem_cons_succ]
         try simp only [List.getElem_cons_zero]
         try simp only [Act.put]
         try simp only [List.setIfInBounds_toArray]
         try simp only [List.set_cons_succ]
         try simp only [List.set_cons_zero]
         refine wpAnyH_ready (rs := [10]) (by kernel_rfl) (by simp) ?_
         refine (AllReadyH.cons rfl (fun K1 hK => ?_) AllReadyH.nil)
         refine step_append_g rfl _ _ _ rfl (U1.heap.size + 1) 112 (.agg #[.string ⟨#[]⟩, .string ⟨#[]⟩]) 2 32 Tryz.underlying82 infoPairI rfl (by decide) (by decide) (.slice xa xn xc) k (pcs ((pairsP p).take k)) rfl H2.out wr.heap.size [.string ks, .string vs] rfl (rw_two KN.out) rfl (by intro y hy; simp at hy; rcases hy with rfl | rfl <;> rfl) hk6 HBS.out U1.heap.size 0 (.slice xa xn xc) C2.out.1 C2.out.2 HNE.out ?_
         intro a5 n5 c5 w5 hO5 hg5 ha5 hc5 hf5
         have P5 := hid (HPU.out a5 n5 c5 w5 hO5 hg5)
         have o5 : Only (fun y => (Value.slice xa xn xc).ownBlock = some y ∨ y = U1.heap.size) ((wr.alloc (.cells #[.string ks, .string vs] 112)).drew) w5 := only_of_grown hg5 (fun k e => .inl e)
         have S5 := HSX.out _ ((only_of_below HW2.out _).trans o5)
         have S6 := HSX.out (w5.setCell ⟨U1.heap.size, 0, none⟩ (.slice a5 n5 c5)) (((only_of_below HW2.out _).trans o5).trans (only_set (R := fun y => (Value.slice xa xn xc).ownBlock = some y ∨ y = U1.heap.size) (.inr rfl) _))
         refine hK.out _ _ ?_ (fun hHeld => ?_)
         ·exact S5
         clear hK K1
         try simp only [List.getElem_toArray]
         try simp only [List.getElem_cons_succ]
         try simp only [List.getElem_cons_zero]
         try simp only [Act.put]
         try simp only [List.setIfInBounds_toArray]
         try simp only [List.set_cons_succ]
         try simp only [List.set_cons_zero]
         refine wpAnyH_take (i := 11) (v := (.pointer (some ⟨U1.heap.size, 0, none⟩))) rfl (by kernel_rfl) (by kernel_rfl) (by kernel_rfl) (fun _ _ _ h => h) (Or.inl ⟨by rfl, ?_⟩) (by assumption) ?_
         ·intro w hSw
          (try dsimp only at hSw)
          go_simp
         try simp only [List.getElem_toArray]
         try simp only [List.getElem_cons_succ]
         try simp only [List.getElem_cons_zero]
         try simp only [Act.put]
         try simp only [List.setIfInBounds_toArray]
         try simp only [List.set_cons_succ]
         try simp only [List.set_cons_zero]
         refine wpAnyH_ready (rs := [12]) (by kernel_rfl) (by simp) ?_
         refine (AllReadyH.cons rfl (fun K1 hK => ?_) AllReadyH.nil)
         go_simp
         refine hK.out _ _ ?_ (fun hHeld => ?_)
         ·exact S6
         clear hK K1
         try simp only [List.getElem_toArray]
         try simp only [List.getElem_cons_succ]
         try simp only [List.getElem_cons_zero]
         try simp only [Act.put]
         try simp only [List.setIfInBounds_toArray]
         try simp only [List.set_cons_succ]
         try simp only [List.set_cons_zero]
         refine wpAnyH_done (by kernel_rfl) ?_ _
         refine NoPanic.normal ?_
         clear NN N2 H2 KN HBS C2 HPU HSX HS0 S2 c1 c2 q0 q1 S5 S6 o5 hO5 hg5 ha5 hc5 hf5 hHeld
         go_wp2
         go_roundw
         case rel => exact ⟨k + 1, a5, n5, c5, by omega, by go_num, P5.out⟩
         case measure => simp [intOf]; omega
        ·go_simp
         refine hK.out _ _ ?_ (fun hHeld => ?_)
         ·exact S2.out
         clear hK K1
         try simp only [List.getElem_toArray]
         try simp only [List.getElem_cons_succ]
         try simp only [List.getElem_cons_zero]
         try simp only [Act.put]
         try simp only [List.setIfInBounds_toArray]
         try simp only [List.set_cons_succ]
         try simp only [List.set_cons_zero]
         refine wpAnyH_ready (rs := [1]) (by kernel_rfl) (by simp) ?_
         refine (AllReadyH.cons rfl (fun K1 hK => ?_) AllReadyH.nil)
         go_simp
         refine hK.out _ _ ?_ (fun hHeld => ?_)
         ·assumption
         clear hK K1
         try simp only [List.getElem_toArray]
         try simp only [List.getElem_cons_succ]
         try simp only [List.getElem_cons_zero]
         try simp only [Act.put]
         try simp only [List.setIfInBounds_toArray]
         try simp only [List.set_cons_succ]
         try simp only [List.set_cons_zero]
         refine wpAnyH_ready (rs := [10]) (by kernel_rfl) (by simp) ?_
         refine (AllReadyH.cons rfl (fun K1 hK => ?_) AllReadyH.nil)
         refine step_append_g rfl _ _ _ rfl (U1.heap.size + 1) 112 (.agg #[.string ⟨#[]⟩, .string ⟨#[]⟩]) 2 32 Tryz.underlying82 infoPairI rfl (by decide) (by decide) (.slice xa xn xc) k (pcs ((pairsP p).take k)) rfl H2.out wr.heap.size [.string ks, .string vs] rfl (rw_two KN.out) rfl (by intro y hy; simp at hy; rcases hy with rfl | rfl <;> rfl) hk6 HBS.out U1.heap.size 0 (.slice xa xn xc) C2.out.1 C2.out.2 HNE.out ?_
         intro a5 n5 c5 w5 hO5 hg5 ha5 hc5 hf5
         have P5 := hid (HPU.out a5 n5 c5 w5 hO5 hg5)
         have o5 : Only (fun y => (Value.slice xa xn xc).ownBlock = some y ∨ y = U1.heap.size) ((wr.alloc (.cells #[.string ks, .string vs] 112)).drew) w5 := only_of_grown hg5 (fun k e => .inl e)
         have S5 := HSX.out _ ((only_of_below HW2.out _).trans o5)
         have S6 := HSX.out (w5.setCell ⟨U1.heap.size, 0, none⟩ (.slice a5 n5 c5)) (((only_of_below HW2.out _).trans o5).trans (only_set (R := fun y => (Value.slice xa xn xc).ownBlock = some y ∨ y = U1.heap.size) (.inr rfl) _))
         refine hK.out _ _ ?_ (fun hHeld => ?_)
         ·exact S5
         clear hK K1
         try simp only [List.getElem_toArray]
         try simp only [List.getElem_cons_succ]
         try simp only [List.getElem_cons_zero]
         try simp only [Act.put]
         try simp only [List.setIfInBounds_toArray]
         try simp only [List.set_cons_succ]
         try simp only [List.set_cons_zero]
         refine wpAnyH_take (i := 11) (v := (.pointer (some ⟨U1.heap.size, 0, none⟩))) rfl (by kernel_rfl) (by kernel_rfl) (by kernel_rfl) (fun _ _ _ h => h) (Or.inl ⟨by rfl, ?_⟩) (by assumption) ?_
         ·intro w hSw
          (try dsimp only at hSw)
          go_simp
         try simp only [List.getElem_toArray]
         try simp only [List.getElem_cons_succ]
         try simp only [List.getElem_cons_zero]
         try simp only [Act.put]
         try simp only [List.setIfInBounds_toArray]
         try simp only [List.set_cons_succ]
         try simp only [List.set_cons_zero]
         refine wpAnyH_ready (rs := [12]) (by kernel_rfl) (by simp) ?_
         refine (AllReadyH.cons rfl (fun K1 hK => ?_) AllReadyH.nil)
         go_simp
         refine hK.out _ _ ?_ (fun hHeld => ?_)
         ·exact S6
         clear hK K1
         try simp only [List.getElem_toArray]
         try simp only [List.getElem_cons_succ]
         try simp only [List.getElem_cons_zero]
         try simp only [Act.put]
         try simp only [List.setIfInBounds_toArray]
         try simp only [List.set_cons_succ]
         try simp only [List.set_cons_zero]
         refine wpAnyH_done (by kernel_rfl) ?_ _
         refine NoPanic.normal ?_
         clear NN N2 H2 KN HBS C2 HPU HSX HS0 S2 c1 c2 q0 q1 S5 S6 o5 hO5 hg5 ha5 hc5 hf5 hHeld
         go_wp2
         go_roundw
         case rel => exact ⟨k + 1, a5, n5, c5, by omega, by go_num, P5.out⟩
         case measure => simp [intOf]; omega
       ·have HAL : Hid ((pairsP p).take k = pairsP p) := by show _ = _; exact List.take_of_length_le (by rw [pairsP_len]; have := HNK.out; omega)
        rw [HAL.out] at NN
        have c0 := NN.out.k2.cell (j := 0) rfl
        have c1 := NN.out.k2.cell (j := 1) rfl
        have c2 := NN.out.k2.cell (j := 2) rfl
        have HBX : Hid (Below w.heap.size w wr) := bt7 HB2.out NN.out.bel
        have KPX := hid (KP.out.below NN.out.bel)
        have HXP : Hid (Pr wr (fun y => w.heap.size ≤ y) (.slice xa xn xc) (nodeP p).ps) := by
         show Pr _ _ _ _
         rw [HND.out]
         exact rw_own NN.out.own (fun y _ h _ => by have := HSZ2.out; have := HSZ.out; show w.heap.size ≤ y; omega)
        have HXK : Hid (Sr wr (fun y => w.heap.size ≤ y) (.slice none 0 0) (nodeP p).keys) := by
         show Sr _ _ _ _
         rw [HND.out]
         exact rw_nil _ _
        have HQX : Hid (∃ Q : Nat → Prop, ∀ y, Q y ↔ (P y ∨ (wr).heap.size ≤ y)) := ⟨_, fun _ => Iff.rfl⟩
        obtain ⟨Q, hQ⟩ := HQX.out
        have HQQ := hid hQ
        clear hQ HQX
        have HQP : Hid (∀ y, y < w.heap.size → Q y → P y) := fun y hy hq => ((HQQ.out y).1 hq).elim id (fun h => by have := HBX.out.size; omega)
        have HNQ : Hid (∀ y, w.heap.size ≤ y → y < (wr).heap.size → ¬ Q y) := fun y h1 h2 hq => ((HQQ.out y).1 hq).elim (fun h => by have := HP.out y h; omega) (fun h => by omega)
        have HNW : Hid (∀ y, (wr).heap.size ≤ y → Q y) := fun y hy => (HQQ.out y).2 (.inr hy)
        have HSQ : Hid (∀ y, S y → ¬ Q y) := fun y hy hq => (HS.out y hy).2 (HQP.out y (HS.out y hy).1 hq)
        have B5 : Hid (Below (wr).heap.size (wr) ((wr).alloc (.cells #[.slice xa xn xc, .slice none 0 0, .slice none 0 0] 85))) := below_new (Below.refl _ _)
        have LX1 := hid (((HL.out.below HBX.out).iff (Q := Q) (fun y hy => ⟨fun h => (HQQ.out y).2 (.inl h), fun h => ((HQQ.out y).1 h).elim id (fun h => by omega)⟩)).below B5.out)
        have HX1 : Hid (Pr ((wr).alloc (.cells #[.slice xa xn xc, .slice none 0 0, .slice none 0 0] 85)) (fun y => ¬ Q y) (.slice xa xn xc) (nodeP p).ps) := Rw.below (Rw.mono HXP.out (fun y h1 h2 => HNQ.out y h1 h2)) B5.out
        have HX2 : Hid (Sr ((wr).alloc (.cells #[.slice xa xn xc, .slice none 0 0, .slice none 0 0] 85)) (fun y => ¬ Q y) (.slice none 0 0) (nodeP p).keys) := Rw.below (Rw.mono HXK.out (fun y h1 h2 => HNQ.out y h1 h2)) B5.out
        have HRW := hid LX1.out.row
        have KNX : Hid (Bk ((wr).alloc (.cells #[.slice xa xn xc, .slice none 0 0, .slice none 0 0] 85)) (wr.heap.size) 85 [.slice xa xn xc, .slice none 0 0, .slice none 0 0]) := by
         have h := Bk.new (wr) 85 [.slice xa xn xc, .slice none 0 0, .slice none 0 0]
         have e : (wr).heap.size = wr.heap.size := by first | rfl | simp
         rw [e] at h
         exact h
        go_wp2_with (at_builtin; refine wpList_append_nodeS rfl _ _ rfl _ s.1.length _ rfl HRW.out (wr.heap.size) (.slice xa xn xc) (.slice none 0 0) (.slice none 0 0) ⟨rfl, rfl, rfl⟩ rfl KNX.out hlen ?_)
        intro a5 n5 c5 w5 hO5 hg5 ha5
        have L5 := hid (LX1.out.pushN (nodeP p) (.slice xa xn xc) (.slice none 0 0) (nodeP_kids p) HX1.out HX2.out (HNW.out _ B5.out.size) hO5 hg5 (by simpa using ha5))
        have O5 : Hid (Only Q (wr) w5) := (only_of_below B5.out Q).trans (only_of_grown hg5 (fun y e => LX1.out.pn' y e))
        have B6 : Hid (Below w5.heap.size w5 (w5.alloc (.cells #[.int .i64 t] 3))) := below_new (Below.refl _ _)
        have L5b := hid (L5.out.below B6.out)
        have HRI := hid L5b.out.pla
        clear hO5 hg5 ha5 HRW KNX LX1 HX1 HX2 B5 L5
        go_wp2_with (at_builtin; refine wpList_append_int1 rfl _ _ rfl _ s.2.length _ rfl HRI.out w5.heap.size t rfl (Bk.new w5 3 [.int .i64 t]) hlen2 ?_)
        intro a6 n6 c6 w6 hO6 hg6 ha6
        have L6 := hid (L5b.out.pushP t (HNW.out _ (Nat.le_trans O5.out.size B6.out.size)) hO6 hg6 (by simpa using ha6))
        have O6 : Hid (Only Q (wr) w6) := (O5.out.trans (only_of_below B6.out Q)).trans (only_of_grown hg6 (fun y e => (L5b.out.pp y e).1))
        have z2 := (KPX.out.to O6.out (HNQ.out pb (Nat.le_of_lt HSZ.out) KPX.out.lt)).cell (j := 2) rfl
        clear hO6 hg6 ha6 HRI L5b O5 B6
        go_wp2_with fail
        go_loopw [2, 3, 93] (fun a b i wr => a = .slice a5 n5 c5 ∧ b = .slice a6 n6 c6 ∧ i = .int .i64 0 ∧ wr = w6) (fun _ _ _ _ => 0)
        case atStart => exact ⟨rfl, rfl, rfl, rfl⟩
        case round =>
         obtain ⟨rfl, rfl, rfl, rfl⟩ := hrel
         go_wp2
         go_ret3
         refine ⟨(only_of_below HBX.out P).then O6.out (fun y hy hq => HQP.out y hy hq), .inr ⟨_, fun y => Q y ∧ y < _, _, _, _, _, _, _, _, ?_, ?_, rfl, fun y hy => ⟨((HQQ.out y).1 hy.1).imp id (fun h => Nat.le_trans HBX.out.size h), hy.2⟩, L6.out.iff (fun y hy => ⟨fun h => ⟨h, hy⟩, fun h => h.1⟩)⟩⟩
         ·rw [HGO.out, HK0.out]; rfl
         ·have := HPL.out
          simp only [List.length_append, List.length_cons, List.length_nil]
          omega
     ·have HND : Hid (nodeP p = ⟨[], p.keys, []⟩) := by show _ = _; rw [nodeP, if_neg (by have := HNI.out; omega)]
      have hj' : (0 : Int) < (jn : Int) := by omega
      have KX := hid (Bk.new U1 85 [.slice none 0 0, .slice ka kn kc, .slice none 0 0])
      have HBU : Hid (Below U1.heap.size U1 (U1.alloc (.cells #[.slice none 0 0, .slice ka kn kc, .slice none 0 0] 85))) := below_new (Below.refl _ _)
      have HBX : Hid (Below w.heap.size w (U1.alloc (.cells #[.slice none 0 0, .slice ka kn kc, .slice none 0 0] 85))) := bt7 HB2.out HBU.out
      have KPX := hid (KP.out.below HBU.out)
      have KDX := hid (KD.out.below HBU.out)
      have PGX := hid (PG.out.below HBU.out)
      have HXP : Hid (Pr (U1.alloc (.cells #[.slice none 0 0, .slice ka kn kc, .slice none 0 0] 85)) (fun y => w.heap.size ≤ y) (.slice none 0 0) (nodeP p).ps) := by
       show Pr _ _ _ _
       rw [HND.out]
       exact rw_nil _ _
      have HXK : Hid (Sr (U1.alloc (.cells #[.slice none 0 0, .slice ka kn kc, .slice none 0 0] 85)) (fun y => w.heap.size ≤ y) (.slice ka kn kc) (nodeP p).keys) := by
       show Sr _ _ _ _
       rw [HND.out]
       exact Rw.mono PGX.out.hk (fun y h _ => h.1)
      have HKI : Hid (Ir (U1.alloc (.cells #[.slice none 0 0, .slice ka kn kc, .slice none 0 0] 85)) (fun y => w.heap.size ≤ y ∧ y < (U1.alloc (.cells #[.slice none 0 0, .slice ka kn kc, .slice none 0 0] 85)).heap.size) (.slice ia jn ic) p.kids) := Rw.mono PGX.out.hi (fun y h h2 => ⟨h.1, h2⟩)
      have c0 := (KP.out.alloc (.cells #[.slice none 0 0, .slice none 0 0, .slice none 0 0] 85)).cell (j := 0) rfl
      have c2 := (KP.out.alloc (.cells #[.slice none 0 0, .slice none 0 0, .slice none 0 0] 85)).cell (j := 2) rfl
      have k0 := KX.out.cell (j := 0) rfl
      have k1 := KX.out.cell (j := 1) rfl
      have k2 := KX.out.cell (j := 2) rfl
      have HQX : Hid (∃ Q : Nat → Prop, ∀ y, Q y ↔ (P y ∨ (U1.alloc (.cells #[.slice none 0 0, .slice ka kn kc, .slice none 0 0] 85)).heap.size ≤ y)) := ⟨_, fun _ => Iff.rfl⟩
      obtain ⟨Q, hQ⟩ := HQX.out
      have HQQ := hid hQ
      clear hQ HQX
      have HQP : Hid (∀ y, y < w.heap.size → Q y → P y) := fun y hy hq => ((HQQ.out y).1 hq).elim id (fun h => by have := HBX.out.size; omega)
      have HNQ : Hid (∀ y, w.heap.size ≤ y → y < (U1.alloc (.cells #[.slice none 0 0, .slice ka kn kc, .slice none 0 0] 85)).heap.size → ¬ Q y) := fun y h1 h2 hq => ((HQQ.out y).1 hq).elim (fun h => by have := HP.out y h; omega) (fun h => by omega)
      have HNW : Hid (∀ y, (U1.alloc (.cells #[.slice none 0 0, .slice ka kn kc, .slice none 0 0] 85)).heap.size ≤ y → Q y) := fun y hy => (HQQ.out y).2 (.inr hy)
      have HSQ : Hid (∀ y, S y → ¬ Q y) := fun y hy hq => (HS.out y hy).2 (HQP.out y (HS.out y hy).1 hq)
      have B5 : Hid (Below (U1.alloc (.cells #[.slice none 0 0, .slice ka kn kc, .slice none 0 0] 85)).heap.size (U1.alloc (.cells #[.slice none 0 0, .slice ka kn kc, .slice none 0 0] 85)) ((U1.alloc (.cells #[.slice none 0 0, .slice ka kn kc, .slice none 0 0] 85)).alloc (.cells #[.slice none 0 0, .slice ka kn kc, .slice none 0 0] 85))) := below_new (Below.refl _ _)
      have LX1 := hid (((HL.out.below HBX.out).iff (Q := Q) (fun y hy => ⟨fun h => (HQQ.out y).2 (.inl h), fun h => ((HQQ.out y).1 h).elim id (fun h => by omega)⟩)).below B5.out)
      have HX1 : Hid (Pr ((U1.alloc (.cells #[.slice none 0 0, .slice ka kn kc, .slice none 0 0] 85)).alloc (.cells #[.slice none 0 0, .slice ka kn kc, .slice none 0 0] 85)) (fun y => ¬ Q y) (.slice none 0 0) (nodeP p).ps) := Rw.below (Rw.mono HXP.out (fun y h1 h2 => HNQ.out y h1 h2)) B5.out
      have HX2 : Hid (Sr ((U1.alloc (.cells #[.slice none 0 0, .slice ka kn kc, .slice none 0 0] 85)).alloc (.cells #[.slice none 0 0, .slice ka kn kc, .slice none 0 0] 85)) (fun y => ¬ Q y) (.slice ka kn kc) (nodeP p).keys) := Rw.below (Rw.mono HXK.out (fun y h1 h2 => HNQ.out y h1 h2)) B5.out
      have HRW := hid LX1.out.row
      have KNX : Hid (Bk ((U1.alloc (.cells #[.slice none 0 0, .slice ka kn kc, .slice none 0 0] 85)).alloc (.cells #[.slice none 0 0, .slice ka kn kc, .slice none 0 0] 85)) (U1.heap.size + 1) 85 [.slice none 0 0, .slice ka kn kc, .slice none 0 0]) := by
       have h := Bk.new (U1.alloc (.cells #[.slice none 0 0, .slice ka kn kc, .slice none 0 0] 85)) 85 [.slice none 0 0, .slice ka kn kc, .slice none 0 0]
       have e : (U1.alloc (.cells #[.slice none 0 0, .slice ka kn kc, .slice none 0 0] 85)).heap.size = U1.heap.size + 1 := by first | rfl | simp
       rw [e] at h
       exact h
      go_wp2_with (at_builtin; refine wpList_append_nodeS rfl _ _ rfl _ s.1.length _ rfl HRW.out (U1.heap.size + 1) (.slice none 0 0) (.slice ka kn kc) (.slice none 0 0) ⟨rfl, rfl, rfl⟩ rfl KNX.out hlen ?_)
      intro a5 n5 c5 w5 hO5 hg5 ha5
      have L5 := hid (LX1.out.pushN (nodeP p) (.slice none 0 0) (.slice ka kn kc) (nodeP_kids p) HX1.out HX2.out (HNW.out _ B5.out.size) hO5 hg5 (by simpa using ha5))
      have O5 : Hid (Only Q (U1.alloc (.cells #[.slice none 0 0, .slice ka kn kc, .slice none 0 0] 85)) w5) := (only_of_below B5.out Q).trans (only_of_grown hg5 (fun y e => LX1.out.pn' y e))
      have B6 : Hid (Below w5.heap.size w5 (w5.alloc (.cells #[.int .i64 t] 3))) := below_new (Below.refl _ _)
      have L5b := hid (L5.out.below B6.out)
      have HRI := hid L5b.out.pla
      clear hO5 hg5 ha5 HRW KNX LX1 HX1 HX2 B5 L5
      go_wp2_with (at_builtin; refine wpList_append_int1 rfl _ _ rfl _ s.2.length _ rfl HRI.out w5.heap.size t rfl (Bk.new w5 3 [.int .i64 t]) hlen2 ?_)
      intro a6 n6 c6 w6 hO6 hg6 ha6
      have L6 := hid (L5b.out.pushP t (HNW.out _ (Nat.le_trans O5.out.size B6.out.size)) hO6 hg6 (by simpa using ha6))
      have O6 : Hid (Only Q (U1.alloc (.cells #[.slice none 0 0, .slice ka kn kc, .slice none 0 0] 85)) w6) := (O5.out.trans (only_of_below B6.out Q)).trans (only_of_grown hg6 (fun y e => (L5b.out.pp y e).1))
      have z2 := (KPX.out.to O6.out (HNQ.out pb (Nat.le_of_lt HSZ.out) KPX.out.lt)).cell (j := 2) rfl
      clear hO6 hg6 ha6 HRI L5b O5 B6
      go_wp2_with fail
      clear c0 c2 k0 k1 k2 z2 KX HBU KPX PGX HXP HXK
      generalize U1.alloc (.cells #[.slice none 0 0, .slice ka kn kc, .slice none 0 0] 85) = X at *
      go_loopw [2, 3, 93] (fun av bv i wr => ∃ (m : Nat) (s5 : LS) (Pi : Nat → Prop) (a7 : Option Addr) (n7 c7 : Nat) (a8 : Option Addr) (n8 c8 : Nat) (V7 : List V3), m ≤ jn ∧ i = .int .i64 m ∧ av = .slice a7 n7 c7 ∧ bv = .slice a8 n8 c8 ∧ Hid (LT wr Pi a7 n7 c7 a8 n8 c8 V7 s5) ∧ Hid (∀ y, Pi y → Q y) ∧ Hid (Only Q X wr) ∧ Hid (s5.2.length = s5.1.length ∧ s.1.length < s5.1.length ∧ s5.1.length ≤ 400 ∧ (nAt s5.1 s.1.length).kids.length ≤ m) ∧ Hid (ldV d.sh (f' + 1) t s = ldK (ldV d.sh f') s.1.length (p.kids.drop m) s5)) (fun _ _ i _ => jn - (intOf i).toNat)
      case atStart =>
       have h1 := HPL.out
       have h2 := HQ.out
       exact ⟨0, _, _, _, _, _, _, _, _, _, Nat.zero_le _, rfl, rfl, rfl, L6.out, fun y h => h, O6.out, ⟨by simp; omega, by simp, by simp; omega, by rw [nAt_append_at, nodeP_kids]; exact Nat.le_refl _⟩, HGO.out⟩
      case round =>
       clear L6 O6 HGO
       obtain ⟨m, s5, Pi, a7, n7, c7, a8, n8, c8, V7, hm, rfl, rfl, rfl, L7, HPI, O7, N7, E7⟩ := hrel
       by_cases hlt : m < jn
       ·have hlt' : (m : Int) < (jn : Int) := by omega
        have HKW : Ir wr (fun y => w.heap.size ≤ y ∧ y < X.heap.size) (.slice ia jn ic) p.kids := Rw.to HKI.out O7.out (fun y h _ => HNQ.out y h.1 h.2)
        obtain ⟨ib, io, rfl, -, -, hci⟩ := HKW.at (by omega)
        have q0 := hci m hlt
        clear hci HKW
        have HML : Hid (m < p.kids.length) := by rw [← HNI.out]; exact hlt
        have HKA := hid (ldK_at (ldV d.sh f') s.1.length p.kids HML.out s5)
        generalize iAt p.kids m = q at *
        have HN7 := own_at L7.out.row
        have HNL := hid HN7.1
        have hn7 := HN7.2.1
        have hn7' := HN7.2.2.1
        have hmn : nn < n7 := by have h1 := HNN.out; have h2 := HNL.out; have h3 := N7.out.2.1; omega
        have hmn' : (nn : Int) < (n7 : Int) := by omega
        obtain ⟨g, rfl, -, -, -, hcg⟩ := HN7.2.2.2 (by omega)
        clear HN7
        have HME : Hid (nn < s5.1.length) := by show _ < _; rw [← HNL.out]; exact hmn
        have HOW := hid (L7.out.kid nn HME.out)
        obtain ⟨ax, cx, hx⟩ := own_shape HOW.out
        generalize hnx : (nAt s5.1 nn).kids.length = nx at *
        have HNX := hid hnx
        have HX := hid hx
        clear hcg hnx hx
        have hnx4 : nx ≤ 1048576 := by
         have h1 := HNX.out
         have h2 := N7.out.2.2.2
         rw [← HNN.out] at h2
         have h3 := HKO.out.2.2.1
         have h4 := HML.out
         omega
        have HPX : Hid (∃ P2 : Nat → Prop, ∀ y, P2 y ↔ (Pi y ∨ wr.heap.size ≤ y)) := ⟨_, fun _ => Iff.rfl⟩
        obtain ⟨P2, hP2⟩ := HPX.out
        have HP2 := hid hP2
        clear hP2 HPX
        have HP2Q : Hid (∀ y, P2 y → Q y) := fun y h => ((HP2.out y).1 h).elim (HPI.out y) (fun h => HNW.out y (Nat.le_trans O7.out.size h))
        have B8 : Hid (Below wr.heap.size wr (wr.alloc (.cells #[.int .i64 (n7 : Int)] 3))) := below_new (Below.refl _ _)
        have L8 := hid ((L7.out.iff (Q := P2) (fun y hy => ⟨fun h => (HP2.out y).2 (.inl h), fun h => ((HP2.out y).1 h).elim id (fun h => by omega)⟩)).below B8.out)
        have HRI : Hid (World.ownsRow (wr.alloc (.cells #[.int .i64 (n7 : Int)] 3)) 0 3 1 (.slice ax nx cx) nx ((nAt s5.1 nn).kids.map (Value.int .i64))) := by
         have h1 := L8.out.kid nn HME.out
         rw [HX.out, HNX.out] at h1
         exact h1
        have HCC : Hid (∀ v, Only (fun y => (Value.slice ax nx cx).ownBlock = some y) (wr.alloc (.cells #[.int .i64 (n7 : Int)] 3)) v → v.cell? ⟨g, nn * 3 + 2, none⟩ = some (.slice ax nx cx) ∧ v.frozen? ⟨g, nn * 3 + 2, none⟩ = false) := by
         intro v hv
         have hr := own_kept L8.out.row hv (fun y e e2 => (L8.out.off nn HME.out y (by rw [HX.out]; exact e2)).2 e)
         obtain ⟨g', e, -, -, hfz, hcg⟩ := (own_at hr).2.2.2 (by omega)
         cases e
         have h1 := hcg (nn * 3 + 2) _ (ncs_at V7 nn (by rw [L7.out.len]; exact HME.out)).2.2
         rw [HX.out] at h1
         exact ⟨h1, hfz _⟩
        have y2 := (HCC.out _ (Only.refl _ _)).1
        have y3 : wr.cell? ⟨g, nn * 3 + 2, none⟩ = some (.slice ax nx cx) := by
         obtain ⟨g', e, -, -, -, hcg⟩ := (own_at L7.out.row).2.2.2 (by omega)
         cases e
         have h1 := hcg (nn * 3 + 2) _ (ncs_at V7 nn (by rw [L7.out.len]; exact HME.out)).2.2
         rw [HX.out] at h1
         exact h1
        go_wp2_with (at_builtin; refine wpList_append_int1 rfl _ _ rfl _ nx _ rfl HRI.out wr.heap.size (n7 : Int) rfl (Bk.new wr 3 [.int .i64 (n7 : Int)]) hnx4 ?_)
        intro a9 n9 c9 w9 hO9 hg9 ha9
        have og : Only (fun y => (Value.slice ax nx cx).ownBlock = some y) (wr.alloc (.cells #[.int .i64 (n7 : Int)] 3)) w9 := only_of_grown hg9 (fun y e => e)
        have L9 := hid (L8.out.kidP HME.out (n7 : Int) ((HP2.out _).2 (.inr B8.out.size)) (by rw [HNX.out]; exact hO9) (by rw [HX.out]; exact hg9) (by rw [HX.out]; simpa using ha9))
        have O9a : Hid (Only Q X w9) := (O7.out.trans (only_of_below B8.out Q)).trans (og.mono (fun y _ e => HP2Q.out y (L8.out.off nn HME.out y (by rw [HX.out]; exact e)).1))
        have O9 : Hid (Only Q X (w9.setCell ⟨g, nn * 3 + 2, none⟩ (.slice a9 n9 c9))) := O9a.out.trans (only_set (R := Q) (HP2Q.out g (L8.out.pn' g rfl)) _)
        have z2 := (HCC.out _ og).1
        have zf := (HCC.out _ og).2
        have hdb := HNQ.out w.heap.size (Nat.le_refl _) KDX.out.lt
        have KD9 := KDX.out.to O9a.out hdb
        have d0 := KD9.cell (j := 0) rfl
        have d1 := KD9.cell (j := 1) rfl
        have hgd : w.heap.size ≠ g := fun e => hdb (e ▸ HP2Q.out g (L8.out.pn' g rfl))
        have hgd' : g ≠ w.heap.size := Ne.symm hgd
        clear hO9 hg9 ha9 og HRI HCC y2 y3 L8 B8 HOW hdb KD9
        go_wp2_with fail
        generalize w9.setCell ⟨g, nn * 3 + 2, none⟩ (.slice a9 n9 c9) = W9 at *
        clear z2 zf d0 d1
        have DW : Hid (Dk W9 S sa sn sc da dn dc d) := ((HD.out.below HBX.out).to O9.out (fun y hy _ => HSQ.out y hy))
        have HC9 := hid (HI.out S (fun y => P2 y ∧ y < W9.heap.size) _ _ _ _ _ _ _ _ q W9 DW.out (fun y hy => ⟨Nat.lt_of_lt_of_le (HS.out y hy).1 (Nat.le_trans HBX.out.size O9.out.size), fun h => HSQ.out y hy (HP2Q.out y h.1)⟩) (fun y hy => hy.2) (L9.out.iff (fun y hy => ⟨fun h => ⟨h, hy⟩, fun h => h.1⟩)) (by simp only [addK_len]; exact N7.out.1) (by simp only [addK_len]; exact N7.out.2.2.1) (by simp only [addK_len]; have h1 := HF.out; have h2 := N7.out.2.1; omega))
        refine HC9.out.mono ?_
        rintro e w' ⟨ho, ⟨hn, rfl⟩ | ⟨s', P', b1, b2, b3, b4, b5, b6, V6, hs', hl', rfl, hP', hL'⟩⟩
        ·have HE : Hid (ldV d.sh (f' + 1) t s = none) := by
          show _ = _
          have h1 := HKA.out
          have h2 := HNL.out
          rw [← HNN.out, ← h2, hn] at h1
          rw [E7.out, ← HNN.out, h1]
         have HO : Hid (Only P w w') := (only_of_below HBX.out P).then (O9.out.trans (ho.mono (fun y _ h => HP2Q.out y h.1))) (fun y hy hq => HQP.out y hy hq)
         clear hn ho
         go_wp2
         go_ret3
         exact ⟨HO.out, .inl ⟨HE.out, rfl⟩⟩
        ·have HE : Hid (ldV d.sh (f' + 1) t s = ldK (ldV d.sh f') s.1.length (p.kids.drop (m + 1)) s') := by
          show _ = _
          have h1 := HKA.out
          have h2 := HNL.out
          rw [← HNN.out, ← h2, hs'] at h1
          rw [E7.out, ← HNN.out, h1]
         have HO : Hid (Only Q X w') := O9.out.trans (ho.mono (fun y _ h => HP2Q.out y h.1))
         have HL' := hid hL'
         have HPP : Hid (∀ y, P' y → Q y) := fun y h => (hP' y h).1.elim (fun h => HP2Q.out y h.1) (fun h => HNW.out y (Nat.le_trans O9.out.size h))
         have HN' : Hid (s'.2.length = s'.1.length ∧ s.1.length < s'.1.length ∧ s'.1.length ≤ 400 ∧ (nAt s'.1 s.1.length).kids.length ≤ m + 1) := by
          have h1 := ldV_len d.sh f' _ _ _ hs'
          have h3 := ldV_old d.sh f' _ _ _ hs' nn (by simp only [addK_len]; exact HME.out)
          simp only [addK_len] at h1
          have h2 := N7.out
          refine ⟨hl', by omega, h1.2, ?_⟩
          rw [← HNN.out] at h2 ⊢
          rw [h3, nAt_addK_me _ HME.out]
          simp only [List.length_append, List.length_cons, List.length_nil]
          omega
         clear hs' hl' ho hL' hP'
         go_wp2
         go_roundw
         case rel => exact ⟨m + 1, s', P', b1, b2, b3, b4, b5, b6, V6, by omega, by go_num, rfl, rfl, HL'.out, HPP.out, HO.out, HN'.out, HE.out⟩
         case measure => simp [intOf]; omega
       ·have HE : Hid (ldV d.sh (f' + 1) t s = some s5) := by
         show _ = _
         rw [E7.out, List.drop_of_length_le (by rw [← HNI.out]; omega)]
         rfl
        have HO : Hid (Only P w wr) := (only_of_below HBX.out P).then O7.out (fun y hy hq => HQP.out y hy hq)
        go_wp2
        go_ret3
        exact ⟨HO.out, .inr ⟨s5, fun y => Pi y ∧ y < wr.heap.size, a7, n7, c7, a8, n8, c8, V7, HE.out, N7.out.1, rfl, fun y hy => ⟨((HQQ.out y).1 (HPI.out y hy.1)).imp id (fun h => Nat.le_trans HBX.out.size h), hy.2⟩, L7.out.iff (fun y hy => ⟨fun h => ⟨h, hy⟩, fun h => h.1⟩)⟩⟩
theorem l06Load_any (d : DK) (hok : dkOk d = true) (hdw : d.dw = []) (hsm : smallD d) (sa : Option Addr) (sn sc : Nat) (da : Option Addr) (dn dc : Nat) : ∀ f, LdAll d f sa sn sc da dn dc
 | 0 => l06Load_step d hok hdw hsm 0 sa sn sc da dn dc (fun f' e => by omega)
 | f + 1 => l06Load_step d hok hdw hsm (f + 1) sa sn sc da dn dc (fun f' e => by cases e; exact l06Load_any d hok hdw hsm sa sn sc da dn dc f)
open Go.RowKit Go.Shelf
set_option linter.unusedVariables false
attribute [local go_sem] Oper.semAt_some
theorem results_rb {fn : Func} {p u : Tmp} (h : fn.results = #[.cell p 89, .cell u 4]) (tmps : Array Value) (w : World) (g g' : Nat) {x y : Value} (hp : tmps.getD p undef = .pointer (some ⟨g, 0, none⟩)) (hu : tmps.getD u undef = .pointer (some ⟨g', 0, none⟩))
  (c0 : w.cell? ⟨g, 0, none⟩ = some x) (c1 : w.cell? ⟨g', 0, none⟩ = some y) : (results fn tmps).run Tryz.prog w = .ok (.tuple #[x, y]) w := by
 have hp' : tmps[p]?.getD undef = .pointer (some ⟨g, 0, none⟩) := by simpa using hp
 have hu' : tmps[u]?.getD undef = .pointer (some ⟨g', 0, none⟩) := by simpa using hu
 have l0 : (loadVar 89 ⟨g, 0, none⟩).run Tryz.prog w = .ok x w := by go_simp
 have l1 : (loadVar 4 ⟨g', 0, none⟩).run Tryz.prog w = .ok y w := by go_simp
 simp [results, h, hp', hu', asAddr, l0, l1, Result.andThen]
theorem bk_keeps {X Y : World} {row : Option Nat} {g : Nat} {T : TypeId} {xs : List Value} (h : Bk X g T xs) (hg : X.grownBy Y row) (hr : ∀ r, row = some r → ∃ o : Obj, X.heap[r]? = some o ∧ o.isCells = false) : Bk Y g T xs :=
 (hg.block g h.lt (fun e => by obtain ⟨o, ho, hc⟩ := hr g e.symm; rw [show X.heap[g]? = _ from h] at ho; cases ho; cases hc)).trans h
theorem ob_keeps {X Y : World} {row : Option Nat} {B : Nat} {v : Value} {zs : List Int} (h : Ob X B v zs) (hg : X.grownBy Y row) (hr : ∀ r, row = some r → ∃ o : Obj, X.heap[r]? = some o ∧ o.isCells = false) : Ob Y B v zs := by
 have hlt := World.ownsRow.lt h
 refine ⟨h.1, h.2.imp id ?_⟩
 rintro ⟨g, cap, cur, rfl, k3, k4, k5⟩
 exact ⟨g, cap, cur, rfl, k3, (hg.block g (hlt g rfl).2 (fun e => by obtain ⟨o, ho, hc⟩ := hr g e.symm; rw [k4] at ho; cases ho; cases hc)).trans k4, k5⟩
theorem lastW_skip (ds : List DW) (t : Int) (n : Nat) : ∀ k, k ≤ n → (∀ i ∈ dnTo n k, (dwAt ds i).1 ≠ t) → lastW ds t n = lastW ds t (n - k) := by
 intro k
 induction k with
 | zero => intro _ _; rfl
 | succ k ih =>
  intro hk h
  rw [ih (by omega) (fun i hi => h i (by rw [dnTo_succ]; exact List.mem_append.2 (.inl hi)))]
  have hj := h (n - 1 - k) (by rw [dnTo_succ]; simp)
  rw [show n - k = (n - (k + 1)) + 1 by omega, lastW, if_neg (by rw [show n - (k + 1) = n - 1 - k by omega]; exact hj)]
theorem dnTo_prefix {n : Nat} {pre : List Nat} {j : Nat} (h : pre ++ [j] <+: dnTo n n) : pre.length < n ∧ pre = dnTo n pre.length ∧ j = n - 1 - pre.length := by
 have hl := h.length_le
 rw [dnTo_length] at hl
 simp at hl
 have h1 := List.prefix_iff_eq_take.1 h
 have h2 := List.prefix_iff_eq_take.1 (dnTo_pre n (show pre.length + 1 ≤ n by omega))
 rw [dnTo_length] at h2
 simp only [List.length_append, List.length_cons, List.length_nil, Nat.zero_add] at h1
 rw [← h2, dnTo_succ] at h1
 have h3 := List.append_inj' h1 rfl
 exact ⟨by omega, h3.1, by simpa using h3.2⟩
theorem wrr_fun {w : World} {S : Nat → Prop} {a : Option Addr} {n c : Nat} {ds : List DW} (h : Wrr w S (.slice a n c) ds) : ∃ (A : Nat → Option Addr) (N C : Nat → Nat), (∀ i, By w S (.slice (A i) (N i) (C i)) (dwAt ds i).2) ∧ Lsw w.heap.size w a n (fun i => (dwAt ds i).1) A N C := by
 have hn := h.len.1
 have ex : ∀ i, ∃ p : Option Addr × Nat × Nat, By w S (.slice p.1 p.2.1 p.2.2) (dwAt ds i).2 ∧ ∀ b off, i < n → a = some ⟨b, off, none⟩ → w.cell? ⟨b, off + i * 2, none⟩ = some (.int .i64 (dwAt ds i).1) ∧ w.cell? ⟨b, off + i * 2 + 1, none⟩ = some (.slice p.1 p.2.1 p.2.2) := by
  intro i
  by_cases hi : i < n
  ·obtain ⟨b, off, rfl, _, _, hc⟩ := h.at (by omega)
   obtain ⟨ap, np, cp, c0, c1, hb⟩ := hc i hi
   exact ⟨(ap, np, cp), hb, fun b' off' _ e => by cases e; exact ⟨c0, c1⟩⟩
  ·have : dwAt ds i = (0, []) := by simp [dwAt, show ds.length ≤ i by omega]
   rw [this]
   exact ⟨(none, 0, 0), ⟨rw_nil _ _, fun j => by simp⟩, fun b off h => absurd h hi⟩
 obtain ⟨f, hf⟩ := Classical.axiomOfChoice ex
 refine ⟨fun i => (f i).1, fun i => (f i).2.1, fun i => (f i).2.2, fun i => (hf i).1, fun hp => ?_⟩
 obtain ⟨b, off, rfl, _, hb, _⟩ := h.at hp
 exact ⟨b, off, rfl, hb, fun i hi => (hf i).2 b off hi rfl⟩
theorem Lsw.mono {n₀ n₁ : Nat} {W : World} {a : Option Addr} {n : Nat} {T : Nat → Int} {A : Nat → Option Addr} {N C : Nat → Nat} (h : Lsw n₀ W a n T A N C) (hb : n₀ ≤ n₁) : Lsw n₁ W a n T A N C := by
 intro hp
 obtain ⟨b, off, rfl, hbn, hc⟩ := h hp
 exact ⟨b, off, rfl, by omega, hc⟩
theorem keepsFrom_below {B : Nat} {W W' : World} (h : Below W.heap.size W W') : KeepsFrom B W W' := ⟨h.size, fun k o _ hk _ => (h.block k (Array.getElem?_eq_some_iff.1 hk).1).trans hk⟩
structure Rx (w v : World) (sa : Option Addr) (sn sc : Nat) (da : Option Addr) (dn dc : Nat) (t : Int) : Prop where
 k0 : Bk v w.heap.size 30 [.slice sa sn sc, .slice da dn dc]
 k1 : Bk v (w.heap.size + 1) 3 [.int .i64 t]
 k2 : Bk v (w.heap.size + 1 + 1) 89 [.slice none 0 0]
 k3 : Bk v (w.heap.size + 1 + 1 + 1) 4 [.bool false]
theorem Rx.below {w v v' : World} {sa : Option Addr} {sn sc : Nat} {da : Option Addr} {dn dc : Nat} {t : Int} (h : Rx w v sa sn sc da dn dc t) (hb : Below v.heap.size v v') : Rx w v' sa sn sc da dn dc t := ⟨h.k0.below hb, h.k1.below hb, h.k2.below hb, h.k3.below hb⟩
set_option maxHeartbeats 8000000 in
set_option maxRecDepth 100000 in
theorem implDiskRead_any (S : Nat → Prop) (sa : Option Addr) (sn sc : Nat) (da : Option Addr) (dn dc : Nat) (d : DK) (t : Int) (w : World) (h : Dk w S sa sn sc da dn dc d) (hsm : smallD d) (he : Err w 0) (he2 : Err w 1) :
  Calls Tryz.prog 114 #[.agg #[.slice sa sn sc, .slice da dn dc], .int .i64 t] w fun e w' => RdPost (rdV d t) w e w' := by
 refine (callsIn_wide (n := 9)).1 ?_
 refine callsIn_of_wp_marks Tryz.func114 rfl trivial ?_ rfl
 simp only [Tryz.ntmps114, List.size_toArray, List.length_cons, List.length_nil, Nat.reduceAdd, Nat.reduceSub, Array.replicate_succ, Array.replicate_zero, List.push_toArray, List.append_toArray, List.nil_append, List.cons_append]
 have HH := hid h
 have HSM := hid hsm
 have HE := hid he
 have HE2 := hid he2
 have hsc := h.hs.len.2
 have hdc := h.hd.len.2
 have HNS := hid h.hs.len.1
 have HND := hid h.hd.len.1
 have HV : Hid (rdV d t = if dkOk d = true ∧ 0 ≤ t ∧ t < (d.sh.length : Int) then some ((lastW d.dw t d.dw.length).getD (sheet (shAt d.sh t.toNat))) else none) := rfl
 have HN : Hid (¬ (dkOk d = true ∧ 0 ≤ t ∧ t < (d.sh.length : Int)) → rdV d t = none) := fun hh => by rw [HV.out, if_neg hh]
 have X0 : Hid (Rx w ((((w.alloc (.cells #[.slice sa sn sc, .slice da dn dc] 30)).alloc (.cells #[.int .i64 t] 3)).alloc (.cells #[.slice none 0 0] 89)).alloc (.cells #[.bool false] 4)) sa sn sc da dn dc t) := by
  refine ⟨(((Bk.new w 30 [.slice sa sn sc, .slice da dn dc]).alloc _).alloc _).alloc _, ?_, ?_, ?_⟩
  ·have := ((Bk.new (w.alloc (.cells #[.slice sa sn sc, .slice da dn dc] 30)) 3 [.int .i64 t]).alloc (.cells #[.slice none 0 0] 89)).alloc (.cells #[.bool false] 4)
   simpa using this
  ·have := (Bk.new ((w.alloc (.cells #[.slice sa sn sc, .slice da dn dc] 30)).alloc (.cells #[.int .i64 t] 3)) 89 [.slice none 0 0]).alloc (.cells #[.bool false] 4)
   simpa using this
  ·have := Bk.new (((w.alloc (.cells #[.slice sa sn sc, .slice da dn dc] 30)).alloc (.cells #[.int .i64 t] 3)).alloc (.cells #[.slice none 0 0] 89)) 4 [.bool false]
   simpa using this
 have B0 : Hid (Below w.heap.size w ((((w.alloc (.cells #[.slice sa sn sc, .slice da dn dc] 30)).alloc (.cells #[.int .i64 t] 3)).alloc (.cells #[.slice none 0 0] 89)).alloc (.cells #[.bool false] 4))) := below_new (below_new (below_new (below_new (Below.refl _ _))))
 have HK := hid (implDiskOk_any S sa sn sc da dn dc d _ (h.below B0.out))
 clear h hsm he he2
 gi_wp2_with fail
 refine ⟨trivial, (callsIn_wide.2 HK.out).mono ?_⟩
 generalize (((w.alloc (.cells #[.slice sa sn sc, .slice da dn dc] 30)).alloc (.cells #[.int .i64 t] 3)).alloc (.cells #[.slice none 0 0] 89)).alloc (.cells #[.bool false] 4) = U at *
 rintro e w1 ⟨rfl, hb⟩
 have X1 := hid (X0.out.below hb)
 have B1 := hid (bt6 B0.out hb)
 clear hb HK X0 B0
 have HEND : Hid (∀ v : World, v = (w1.setCell ⟨w.heap.size + 1 + 1, 0, none⟩ (.slice none 0 0)).setCell ⟨w.heap.size + 1 + 1 + 1, 0, none⟩ (.bool false) → Below w.heap.size w v) := fun v e => by
  rw [e]
  exact (B1.out.setCell (p := ⟨w.heap.size + 1 + 1, 0, none⟩) (by show w.heap.size ≤ w.heap.size + 1 + 1; omega) _).setCell (p := ⟨w.heap.size + 1 + 1 + 1, 0, none⟩) (by show w.heap.size ≤ w.heap.size + 1 + 1 + 1; omega) _
 have c2 := X1.out.k2.cell (j := 0) rfl
 have f2 := X1.out.k2.free 0
 have c3 := X1.out.k3.cell (j := 0) rfl
 have f3 := X1.out.k3.free 0
 have c1 := X1.out.k1.cell (j := 0) rfl
 have d0 := X1.out.k0.cell (j := 0) rfl
 have d1 := X1.out.k0.cell (j := 1) rfl
 cases hok : dkOk d with
 | false =>
  have HF := hid (HN.out (by rw [hok]; simp))
  gi_wp2
  refine ⟨.tuple #[.slice none 0 0, .bool false], results_rb rfl _ _ _ _ rfl rfl (by go_simp) (by go_simp), ?_⟩
  rw [HF.out]
  exact ⟨_, _, _, rfl, World.ownsRow_nil _ _ _ _, HEND.out _ rfl⟩
 | true =>
  have HOK := hid hok
  clear hok
  by_cases t0 : t < 0
  ·have HF := hid (HN.out (by omega))
   gi_wp2
   refine ⟨.tuple #[.slice none 0 0, .bool false], results_rb rfl _ _ _ _ rfl rfl (by go_simp) (by go_simp), ?_⟩
   rw [HF.out]
   exact ⟨_, _, _, rfl, World.ownsRow_nil _ _ _ _, HEND.out _ rfl⟩
  ·by_cases t1 : (sn : Int) ≤ t
   ·have HF := hid (HN.out (by rw [← HNS.out]; omega))
    gi_wp2
    refine ⟨.tuple #[.slice none 0 0, .bool false], results_rb rfl _ _ _ _ rfl rfl (by go_simp) (by go_simp), ?_⟩
    rw [HF.out]
    exact ⟨_, _, _, rfl, World.ownsRow_nil _ _ _ _, HEND.out _ rfl⟩
   ·have HV2 : Hid (rdV d t = some ((lastW d.dw t d.dw.length).getD (sheet (shAt d.sh t.toNat)))) := by
     show _ = _
     rw [HV.out, if_pos ⟨HOK.out, by omega, by rw [← HNS.out]; omega⟩]
    clear HV HN HEND
    gi_wp2_with fail
    refine ⟨trivial, (behind_in Fence.wide _ trivial rfl _ _ _ _).mono ?_⟩
    rintro e w2 ⟨rfl, rfl⟩
    gi_wp2_with fail
    obtain ⟨A, N, C, hBY, hLS⟩ := wrr_fun HH.out.hd
    have hb2 := below_new (o := .cells #[.slice da dn dc] 28) (w := w1) (Below.refl _ _)
    have X2 := hid (X1.out.below hb2)
    have B2 := hid (bt6 B1.out hb2)
    have KB := hid (Bk.new w1 28 [.slice da dn dc])
    have S1 : Hid (w.heap.size + 4 ≤ w1.heap.size) := X1.out.k3.lt
    have S2 : Hid ((w1.alloc (.cells #[.slice da dn dc] 28)).heap.size = w1.heap.size + 1) := by show _ = _; simp
    clear hb2 X1 B1 c1 c2 c3 d0 d1 f2 f3
    generalize w1.alloc (.cells #[.slice da dn dc] 28) = W0 at *
    generalize w1.heap.size = b1 at *
    have s1 := S1.out
    have s2 := S2.out
    refine wpIn_rangeFunc_ownH rfl (by omega) (gf := 163) (lb := #[.pointer (some ⟨b1, 0, none⟩)]) rfl trivial (enters_of Tryz.func163 (by kernel_rfl) rfl)
     (behind_stops Fence.wide (9 - 1) trivial rfl (by omega) b1 W0.heap.size da dn dc (fun i => (dwAt d.dw i).1) A N C W0 (by omega) (Nat.le_refl _) (KB.out.cell (j := 0) rfl) ((hLS.below B2.out).mono (by omega)) hdc.1 hdc.2) belowK_t (belowK_b (Nat.le_refl _)) (Below.refl _ _) (fun _ => rfl)
     (fun pre W => (∀ j ∈ pre, (dwAt d.dw j).1 ≠ t) ∧ Below W0.heap.size W0 W)
     (fun c pre W => c = .ret ∧ (∃ j pre' a n c', pre = pre' ++ [j] ∧ (dwAt d.dw j).1 = t ∧ (∀ i ∈ pre', (dwAt d.dw i).1 ≠ t) ∧ Bk W (w.heap.size + 1 + 1) 89 [.slice a n c'] ∧ Bk W (w.heap.size + 1 + 1 + 1) 4 [.bool true] ∧ Ob W w.heap.size (.slice a n c') (dwAt d.dw j).2) ∧ Below w.heap.size w W)
     (OwnFrom.and (ownFrom_pure _ _) (ownFrom_below (Nat.le_refl _) (Nat.le_refl _)))
     (fun c s X Y row hs hg hr => by
      obtain ⟨e, ⟨j, pre', a, n, c', e1, e2, e3, k2, k3, hO⟩, hB⟩ := hs
      exact ⟨e, ⟨j, pre', a, n, c', e1, e2, e3, bk_keeps k2 hg (fun r e => (hr r e).2), bk_keeps k3 hg (fun r e => (hr r e).2), ob_keeps hO hg (fun r e => (hr r e).2)⟩, ownFrom_below (β := Unit) (Nat.le_refl _) (B := W0.heap.size) (by omega) () X Y row hB hg hr⟩)
     ⟨fun j hj => (by cases hj), Below.refl _ _⟩
     (fun x a' W => ∃ Bx, W0.heap.size ≤ Bx ∧ Bk W Bx 103 [.int .i64 (dwAt d.dw x).1, .slice (A x) (N x) (C x)] ∧ a' = { tmps := #[.agg #[.slice sa sn sc, .slice da dn dc], .int .i64 t, .pointer (some ⟨w.heap.size, 0, none⟩), .pointer (some ⟨w.heap.size + 1, 0, none⟩), .pointer (some ⟨w.heap.size + 1 + 1, 0, none⟩), .pointer (some ⟨w.heap.size + 1 + 1 + 1, 0, none⟩), .pointer (some ⟨Bx, 0, none⟩), .agg #[.slice sa sn sc, .slice da dn dc], .bool true, .bool false, .bool false, .int .i64 t, .bool (decide (t < 0)), .bool (decide (t < 0)), .bool (decide (t < 0)), .int .i64 t, .pointer (some ⟨w.heap.size, 0, none⟩), .slice sa sn sc, .int .i64 (sn : Int), .bool (decide ((sn : Int) ≤ t)), .bool (decide (t < 0) || decide ((sn : Int) ≤ t)), .pointer (some ⟨w.heap.size, 1, none⟩), .slice da dn dc, .func (.func 163) #[] #[.pointer (some ⟨b1, 0, none⟩)], .agg #[.int .i64 (dwAt d.dw x).1, .slice (A x) (N x) (C x)], undef, undef, undef, undef, undef, undef, undef, undef, undef, undef, undef, undef, undef, undef, undef, undef], defers := [] })
     (fun x a' _ X Y row hs hg hr => by obtain ⟨Bx, h1, h2, h3⟩ := hs; exact ⟨Bx, h1, bk_keeps h2 hg (fun r e => (hr r e).2), h3⟩)
     ?assign ?body ?done ?stop
    case assign =>
     rintro l pre x W K ⟨hne, hBW⟩ hK
     gi_wp2
     exact hK _ _ ((KeepsOthers.alloc _ _).from _) ((Below.refl _ W).alloc hBW.size _) ⟨hne, hBW.alloc hBW.size _⟩ ⟨W.heap.size, hBW.size, Bk.new W _ [_, _], rfl⟩
    case body =>
     rintro l pre x a' W hl ⟨r, hr⟩ ⟨hne, hBW⟩ ⟨Bx, hBx, kX, rfl⟩ hlt
     have e0 := kX.cell (j := 0) rfl
     have e1 := kX.cell (j := 1) rfl
     have XW := hid (X2.out.below hBW)
     have e2 := XW.out.k1.cell (j := 0) rfl
     have HW := hid hBW
     have HX := hid hBx
     have HNE := hid hne
     have BW := hid (bt6 B2.out hBW)
     clear hBW hBx hne hr
     generalize htt : (dwAt d.dw x).1 = tt at *
     have HTT := hid htt
     clear htt
     by_cases e : tt = t
     ·subst e
      have hx1 : (dwAt d.dw x).2.length ≤ 1048576 := by
       by_cases hi : x < d.dw.length
       ·exact HSM.out.2 x hi
       ·simp [dwAt, show d.dw.length ≤ x by omega]
      have HRD := hid (((hBY x).below BW.out).rd (by rw [(hBY x).len.1]; exact hx1))
      have hxN : N x ≤ 1048576 := by rw [(hBY x).len.1]; exact hx1
      gi_wp2_with fail
      refine ⟨trivial, (CallsIn.inRound l (callsIn_wide.2 (copyBytes_any _ _ _ _ _ HRD.out hxN))).mono ?_⟩
      rintro e W3 ⟨v, rfl, hO, hb⟩
      obtain ⟨a3, c3, rfl⟩ := hO.shape
      have X3 := hid (XW.out.below hb)
      have c2 := X3.out.k2.cell (j := 0) rfl
      have f2 := X3.out.k2.free 0
      have c3' := X3.out.k3.cell (j := 0) rfl
      have f3 := X3.out.k3.free 0
      have HO := hid hO
      have HB := hid hb
      clear hO hb e0 e1 e2
      generalize hl3 : (dwAt d.dw x).2.length = L3 at *
      have HL3 := hid hl3
      clear hl3
      gi_wp2
      have hKF := ((keepsFrom_below (B := W0.heap.size) HB.out).trans ((KeepsOthers.setCell W3 ⟨w.heap.size + 1 + 1, 0, none⟩ (.slice a3 L3 c3)).from _)).trans ((KeepsOthers.setCell (W3.setCell ⟨w.heap.size + 1 + 1, 0, none⟩ (.slice a3 L3 c3)) ⟨w.heap.size + 1 + 1 + 1, 0, none⟩ (.bool true)).from _)
      have hBl := HW.out.size
      refine ⟨hKF, rfl, ⟨x, pre, a3, L3, c3, rfl, HTT.out, HNE.out, (X3.out.k2.set 0 _).setOther (by omega) 0 _, (X3.out.k3.setOther (by omega) 0 _).set 0 _, ?_⟩, ?_⟩
      ·have O1 : Only (fun y => y < W.heap.size) W3 ((W3.setCell ⟨w.heap.size + 1 + 1, 0, none⟩ (.slice a3 L3 c3)).setCell ⟨w.heap.size + 1 + 1 + 1, 0, none⟩ (.bool true)) := (only_set (R := fun y => y < W.heap.size) (by show w.heap.size + 1 + 1 < _; omega) _).trans (only_set (R := fun y => y < W.heap.size) (by show w.heap.size + 1 + 1 + 1 < _; omega) _)
       exact ownD_base (own_kept HO.out O1 (fun y e e2 => by have := (World.ownsRow.lt HO.out y e).1; omega)) (by omega)
      ·exact ((bt6 BW.out HB.out).setCell (p := ⟨w.heap.size + 1 + 1, 0, none⟩) (by show w.heap.size ≤ w.heap.size + 1 + 1; omega) _).setCell (p := ⟨w.heap.size + 1 + 1 + 1, 0, none⟩) (by show w.heap.size ≤ w.heap.size + 1 + 1 + 1; omega) _
     ·have e' : (tt == t) = false := by simp [e]
      gi_wp2
      refine ⟨KeepsFrom.refl _ _, Below.refl _ _, fun j hj => ?_, HW.out⟩
      rcases List.mem_append.1 hj with hj | hj
      ·exact HNE.out j hj
      ·simp at hj
       subst hj
       rw [HTT.out]
       exact e
    case done =>
     rintro D ys W hD rfl ⟨hne, hBW⟩ hK
     have BW := hid (bt6 B2.out hBW)
     have XW := hid (X2.out.below hBW)
     have HW := hid hBW
     have HDD := hid hD
     have HKK := hid hK
     have HLW : Hid (lastW d.dw t d.dw.length = none) := by
      show _ = _
      rw [← HND.out, lastW_skip d.dw t dn dn (Nat.le_refl _) hne, Nat.sub_self]
      rfl
     clear hBW hne hD hK
     obtain ⟨u, hu⟩ : ∃ u : Nat, t = (u : Int) := ⟨t.toNat, by omega⟩
     subst hu
     obtain ⟨b, off, rfl, _, hbw, hcell⟩ := (HH.out.hs.below BW.out).at (by omega)
     obtain ⟨ap, np, cp, m0, hp⟩ := hcell u (by omega)
     have hul : u < d.sh.length := by rw [← HNS.out]; omega
     have hnp : np ≤ 1048576 := by rw [hp.len.1]; exact HSM.out.1 u hul
     have HC := hid (sheetBytes_any ap np cp (shAt d.sh u) W (hp.rd hnp) (HE.out.below BW.out HE.out.lt) (HE2.out.below BW.out HE2.out.lt))
     have HSV : Hid (shV (shAt d.sh u) = some (sheet (shAt d.sh u))) := by
      show _ = _
      rw [shV, if_pos]
      rw [shOk_sht]
      exact ((dkOk_iff d).1 HOK.out).2.2.2.1 u hul
     have HV3 : Hid (rdV d (u : Int) = some (sheet (shAt d.sh u))) := by
      show _ = _
      rw [HV2.out, HLW.out]
      simp
     have hu2 : (u : Int) < (sn : Int) := by omega
     have c1 := XW.out.k1.cell (j := 0) rfl
     have d0 := XW.out.k0.cell (j := 0) rfl
     clear hcell hbw hp
     gi_wp2_with fail
     refine ⟨trivial, (callsIn_wide.2 HC.out).mono ?_⟩
     intro e W3 hput
     rw [HSV.out] at hput
     rcases hput.2 with ⟨h, _⟩ | ⟨v, out, ho, rfl, hO⟩
     ·cases h
     ·cases ho
      obtain ⟨a3, c3, rfl⟩ := hO.shape
      have hb := hput.1
      have X3 := hid (XW.out.below hb)
      have c2 := X3.out.k2.cell (j := 0) rfl
      have f2 := X3.out.k2.free 0
      have c3' := X3.out.k3.cell (j := 0) rfl
      have f3 := X3.out.k3.free 0
      have HO := hid hO
      have HB := hid hb
      have hK3 : W3.heap[D]? = some (.deferred (some [])) := (hb.block D (Array.getElem?_eq_some_iff.1 HKK.out).1).trans HKK.out
      have HK3 := hid hK3
      clear hO hb hput c1 d0 m0 hK3
      generalize hl3 : (sheet (shAt d.sh u)).length = L3 at *
      gi_wp2
      have hK4 := (KeepsOthers.setCell W3 ⟨w.heap.size + 1 + 1, 0, none⟩ (.slice a3 L3 c3)).same D _ HK3.out rfl
      have hK5 := (KeepsOthers.setCell (W3.setCell ⟨w.heap.size + 1 + 1, 0, none⟩ (.slice a3 L3 c3)) ⟨w.heap.size + 1 + 1 + 1, 0, none⟩ (.bool true)).same D _ hK4 rfl
      refine ⟨by simp, .inl ⟨_, _, rfl, run_takeDeferred hK5, ?_⟩⟩
      have hBl := HW.out.size
      have hDl := HDD.out
      have kk2 := bk_keeps ((X3.out.k2.set 0 (.slice a3 L3 c3)).setOther (b := w.heap.size + 1 + 1 + 1) (by omega) 0 (.bool true)) (grownBy_putObj' _ D (.deferred none)) (fun r e => by cases e; exact ⟨_, hK5, rfl⟩)
      have kk3 := bk_keeps ((X3.out.k3.setOther (b := w.heap.size + 1 + 1) (by omega) 0 (.slice a3 L3 c3)).set 0 (.bool true)) (grownBy_putObj' _ D (.deferred none)) (fun r e => by cases e; exact ⟨_, hK5, rfl⟩)
      refine ⟨.tuple #[.slice a3 L3 c3, .bool true], results_rb rfl _ _ _ _ rfl rfl (kk2.cell (j := 0) rfl) (kk3.cell (j := 0) rfl), ?_⟩
      rw [HV3.out]
      refine ⟨_, _, _, rfl, ?_, ?_⟩
      ·have O1 : Only (fun y => y < W.heap.size) W3 ((W3.setCell ⟨w.heap.size + 1 + 1, 0, none⟩ (.slice a3 L3 c3)).setCell ⟨w.heap.size + 1 + 1 + 1, 0, none⟩ (.bool true)) := (only_set (R := fun y => y < W.heap.size) (by show w.heap.size + 1 + 1 < _; omega) _).trans (only_set (R := fun y => y < W.heap.size) (by show w.heap.size + 1 + 1 + 1 < _; omega) _)
       exact ob_keeps (ownD_base (own_kept HO.out O1 (fun y e e2 => by have := (World.ownsRow.lt HO.out y e).1; omega)) (by omega)) (grownBy_putObj' _ D (.deferred none)) (fun r e => by cases e; exact ⟨_, hK5, rfl⟩)
      ·exact ((((bt6 BW.out HB.out).setCell (p := ⟨w.heap.size + 1 + 1, 0, none⟩) (by show w.heap.size ≤ w.heap.size + 1 + 1; omega) _).setCell (p := ⟨w.heap.size + 1 + 1 + 1, 0, none⟩) (by show w.heap.size ≤ w.heap.size + 1 + 1 + 1; omega) _)).trans (belowK_b (w := w) (Nat.le_refl _) _ D _ _ (by omega) hK5 rfl rfl)
    case stop =>
     rintro D c pre W hD hpre ⟨rfl, ⟨j, pre', a, n, c', rfl, hT, hne, k2, k3, hO⟩, hB⟩ hK
     obtain ⟨p1, p2, p3⟩ := dnTo_prefix hpre
     have HV3 : Hid (rdV d t = some (dwAt d.dw j).2) := by
      show _ = _
      rw [p2] at hne
      rw [HV2.out, ← HND.out, lastW_skip d.dw t dn _ (by omega) hne, show dn - pre'.length = (dn - 1 - pre'.length) + 1 by omega, lastW, ← p3, if_pos hT]
      rfl
     have HK2 := hid k2
     have HK3 := hid k3
     have HO := hid hO
     have HB := hid hB
     have HKK := hid hK
     have HDD := hid hD
     clear k2 k3 hO hB hK hD hne hpre p1 p2 p3
     gi_wp2
     have hDl := HDD.out
     refine ⟨by simp, .inl ⟨_, _, rfl, run_takeDeferred HKK.out, ?_⟩⟩
     have kk2 := bk_keeps HK2.out (grownBy_putObj' _ D (.deferred none)) (fun r e => by cases e; exact ⟨_, HKK.out, rfl⟩)
     have kk3 := bk_keeps HK3.out (grownBy_putObj' _ D (.deferred none)) (fun r e => by cases e; exact ⟨_, HKK.out, rfl⟩)
     refine ⟨.tuple #[.slice a n c', .bool true], results_rb rfl _ _ _ _ rfl rfl (kk2.cell (j := 0) rfl) (kk3.cell (j := 0) rfl), ?_⟩
     rw [HV3.out]
     exact ⟨_, _, _, rfl, ob_keeps HO.out (grownBy_putObj' _ D (.deferred none)) (fun r e => by cases e; exact ⟨_, HKK.out, rfl⟩), HB.out.trans (belowK_b (w := w) (Nat.le_refl _) W D _ _ (by omega) HKK.out rfl rfl)⟩
open Go.RowKit
open Go.RowKit
set_option linter.unusedVariables false
theorem byt_nil : byt [] := fun i => by simp
theorem Dk.bytes {w : World} {S : Nat → Prop} {sa : Option Addr} {sn sc : Nat} {da : Option Addr} {dn dc : Nat} {d : DK} (h : Dk w S sa sn sc da dn dc d) : (∀ i, byt (shAt d.sh i)) ∧ ∀ i, byt (dwAt d.dw i).2 := by
 obtain ⟨V, h1, h2, h3⟩ := h.hs
 obtain ⟨U, k1, k2, k3⟩ := h.hd
 refine ⟨fun i => ?_, fun i => ?_⟩
 ·by_cases hi : i < d.sh.length
  ·exact (h3 i hi).2
  ·rw [show shAt d.sh i = [] by simp [shAt, show d.sh.length ≤ i by omega]]; exact byt_nil
 ·by_cases hi : i < d.dw.length
  ·exact (k3 i hi).2.2
  ·rw [show dwAt d.dw i = (0, []) by simp [dwAt, show d.dw.length ≤ i by omega]]; exact byt_nil
theorem byt_sheet {l : List Int} (h : byt l) : byt (sheet l) := by
 unfold sheet
 split
 ·intro i
  rw [List.getElem?_replicate]
  split <;> exact ⟨by decide, by decide⟩
 ·exact h
theorem lastW_facts {ds : List DW} {t : Int} (hb : ∀ i, byt (dwAt ds i).2) : ∀ k, k ≤ ds.length → (∀ i, i < ds.length → (dwAt ds i).2.length = 512) → ∀ z, lastW ds t k = some z → byt z ∧ z.length = 512 := by
 intro k
 induction k with
 | zero => intro _ _ z hz; cases hz
 | succ k ih =>
  intro hk hl z hz
  rw [lastW] at hz
  split at hz
  ·cases hz; exact ⟨hb k, hl k (by omega)⟩
  ·exact ih (by omega) hl z hz
theorem rdV_facts {d : DK} (hb : (∀ i, byt (shAt d.sh i)) ∧ ∀ i, byt (dwAt d.dw i).2) (t : Int) : byt ((rdV d t).getD []) ∧ ((rdV d t).getD []).length ≤ 512 := by
 unfold rdV
 split
 ·rename_i hh
  obtain ⟨hok, h0, h1⟩ := hh
  have hk := (dkOk_iff d).1 hok
  rw [Option.getD_some]
  cases e : lastW d.dw t d.dw.length with
  | some z =>
   have := lastW_facts hb.2 d.dw.length (Nat.le_refl _) (fun i hi => ((wrtOk_iff _ _).1 (hk.2.2.2.2 i hi)).2.2) z e
   exact ⟨this.1, by rw [Option.getD_some]; omega⟩
  | none =>
   rw [Option.getD_none]
   exact ⟨byt_sheet (hb.1 _), Nat.le_of_eq (sheet_len (by rw [shOk_sht]; exact hk.2.2.2.1 _ (by omega)))⟩
 ·exact ⟨byt_nil, by simp⟩
theorem ob_rd {w : World} {B : Nat} {a : Option Addr} {n c : Nat} {zs : List Int} (h : Ob w B (.slice a n c) zs) (hb : byt zs) (hl : zs.length ≤ 1048576) : Rd w a n c zs ∧ n = zs.length := by
 obtain ⟨a', c', e, hr, _⟩ := Ob.rd h hb (by omega)
 cases e
 exact ⟨hr, rfl⟩
open Go.RowKit
theorem mtHead_len (g r : Int) : (mtHead g r).length = 8 := rfl
theorem zAt_head (g r : Int) {i : Nat} (h : i < 8) : zAt (mtFull g r) i = zAt (mtHead g r) i := by
 unfold zAt mtFull
 rw [List.getElem?_append_left (by rw [List.length_append, mtHead_len, List.length_replicate]; omega), List.getElem?_append_left (by rw [mtHead_len]; exact h)]
theorem zAt_tail (g r : Int) (k : Nat) : zAt (mtFull g r) (507 + k) = zAt (five g) k := by
 unfold zAt mtFull
 have hl : (mtHead g r ++ List.replicate 499 0).length = 507 := by rw [List.length_append, mtHead_len, List.length_replicate]
 rw [List.getElem?_append_right (by omega), hl, Nat.add_sub_cancel_left]
theorem digs (g r : Int) : (zAt (mtFull g r) 1 = g / 4294967296 % 256 ∧ zAt (mtFull g r) 2 = g / 16777216 % 256 ∧ zAt (mtFull g r) 3 = g / 65536 % 256 ∧ zAt (mtFull g r) 4 = g / 256 % 256 ∧ zAt (mtFull g r) 5 = g / 1 % 256) ∧
  (zAt (mtFull g r) 507 = g / 4294967296 % 256 ∧ zAt (mtFull g r) 508 = g / 16777216 % 256 ∧ zAt (mtFull g r) 509 = g / 65536 % 256 ∧ zAt (mtFull g r) 510 = g / 256 % 256 ∧ zAt (mtFull g r) 511 = g / 1 % 256) ∧
  zAt (mtFull g r) 6 = r / 256 ∧ zAt (mtFull g r) 7 = r % 256 := by
 refine ⟨⟨?_, ?_, ?_, ?_, ?_⟩, ⟨zAt_tail g r 0, zAt_tail g r 1, zAt_tail g r 2, zAt_tail g r 3, zAt_tail g r 4⟩, ?_, ?_⟩
 all_goals
  rw [zAt_head g r (by omega)]
  rfl
theorem dig_inj {x y : Int} (hx : 0 ≤ x ∧ x ≤ 1099511627777) (hy : 0 ≤ y ∧ y ≤ 1099511627777) (hx2 : x < 1099511627776) (hy2 : y < 1099511627776) (h1 : x / 4294967296 % 256 = y / 4294967296 % 256) (h2 : x / 16777216 % 256 = y / 16777216 % 256) (h3 : x / 65536 % 256 = y / 65536 % 256) (h4 : x / 256 % 256 = y / 256 % 256) (h5 : x / 1 % 256 = y / 1 % 256) : x = y := by omega
theorem mcd_full {g r : Int} (hok : mtOk g r = true) : mcd (mtFull g r) = (g, r) := by
 obtain ⟨g0, g1, r0, r1⟩ := mtOk_facts hok
 obtain ⟨⟨d1, d2, d3, d4, d5⟩, _, d6, d7⟩ := digs g r
 have e : acc (mtFull g r) 5 = ((((0 * 256 + zAt (mtFull g r) 1) * 256 + zAt (mtFull g r) 2) * 256 + zAt (mtFull g r) 3) * 256 + zAt (mtFull g r) 4) * 256 + zAt (mtFull g r) 5 := rfl
 unfold mcd
 rw [e, d1, d2, d3, d4, d5, d6, d7]
 refine Prod.ext ?_ ?_
 ·show _ = g
  omega
 ·show r / 256 * 256 + r % 256 = r
  omega
theorem mrd_iff (zs : List Int) (g r : Int) : mrd zs = some (g, r) ↔ mtBytes g r = some zs := by
 constructor
 ·intro h
  unfold mrd at h
  split at h
  ·rename_i hc
   cases h
   have := hc.2
   exact this
  ·cases h
 ·intro h
  have h2 := h
  unfold mtBytes at h2
  split at h2
  ·rename_i hok
   cases h2
   have hm := mcd_full hok
   rw [mrd, if_pos ⟨mtFull_len g r, by rw [hm]; exact h⟩, hm]
  ·cases h2
theorem tr_at {old new : List Int} (hn : new.length = 512) (n : Int) {i : Nat} (hi : i < 512) : zAt (trB old new n) i = if i < n.toNat then zAt new i else zAt old i := by
 unfold trB zAt
 by_cases h : i < n.toNat
 ·rw [if_pos h, List.getElem?_append_left (by rw [List.length_take]; omega), List.getElem?_take, if_pos h]
 ·rw [if_neg h, List.getElem?_append_right (by rw [List.length_take]; omega), List.length_take, List.getElem?_drop]
  congr 2
  omega
theorem torn {g a b : Int} (ha : mtOk g a = true) (hb : mtOk (g + 2) b = true) {n : Int} (h : n < 512) : mrd (trB (mtFull g a) (mtFull (g + 2) b) n) = none ∨ mrd (trB (mtFull g a) (mtFull (g + 2) b) n) = some (g, a) := by
 cases hm : mrd (trB (mtFull g a) (mtFull (g + 2) b) n) with
 | none => exact .inl rfl
 | some x =>
  obtain ⟨G, R⟩ := x
  right
  have h2 := (mrd_iff _ G R).1 hm
  unfold mtBytes at h2
  split at h2
  ·rename_i hok
   have hz : mtFull G R = trB (mtFull g a) (mtFull (g + 2) b) n := Option.some.inj h2
   obtain ⟨g0, g1, a0, a1⟩ := mtOk_facts ha
   obtain ⟨q0, q1, b0, b1⟩ := mtOk_facts hb
   obtain ⟨G0, G1, R0, R1⟩ := mtOk_facts hok
   have at' : ∀ i, i < 512 → zAt (mtFull G R) i = if i < n.toNat then zAt (mtFull (g + 2) b) i else zAt (mtFull g a) i := fun i hi => by rw [hz]; exact tr_at (mtFull_len _ _) n hi
   obtain ⟨⟨d1, d2, d3, d4, d5⟩, ⟨e1, e2, e3, e4, e5⟩, d6, d7⟩ := digs G R
   obtain ⟨⟨n1, n2, n3, n4, n5⟩, ⟨m1, m2, m3, m4, m5⟩, n6, n7⟩ := digs (g + 2) b
   obtain ⟨⟨o1, o2, o3, o4, o5⟩, ⟨p1, p2, p3, p4, p5⟩, o6, o7⟩ := digs g a
   have t1 := at' 1 (by omega)
   have t2 := at' 2 (by omega)
   have t3 := at' 3 (by omega)
   have t4 := at' 4 (by omega)
   have t5 := at' 5 (by omega)
   have t6 := at' 6 (by omega)
   have t7 := at' 7 (by omega)
   have s1 := at' 507 (by omega)
   have s2 := at' 508 (by omega)
   have s3 := at' 509 (by omega)
   have s4 := at' 510 (by omega)
   have s5 := at' 511 (by omega)
   rw [d1, n1, o1] at t1
   rw [d2, n2, o2] at t2
   rw [d3, n3, o3] at t3
   rw [d4, n4, o4] at t4
   rw [d5, n5, o5] at t5
   rw [d6, n6, o6] at t6
   rw [d7, n7, o7] at t7
   rw [e1, m1, p1] at s1
   rw [e2, m2, p2] at s2
   rw [e3, m3, p3] at s3
   rw [e4, m4, p4] at s4
   rw [e5, m5, p5, if_neg (by omega)] at s5
   clear at' d1 d2 d3 d4 d5 d6 d7 e1 e2 e3 e4 e5 n1 n2 n3 n4 n5 n6 n7 m1 m2 m3 m4 m5 o1 o2 o3 o4 o5 o6 o7 p1 p2 p3 p4 p5 hz h2 hm
   by_cases c1 : n.toNat ≤ 507
   ·rw [if_neg (by omega)] at s1 s2 s3 s4
    have hG : G = g := dig_inj (by omega) (by omega) (by omega) (by omega) s1 s2 s3 s4 s5
    by_cases c2 : 6 ≤ n.toNat
    ·rw [if_pos (by omega)] at t1 t2 t3 t4 t5
     have : G = g + 2 := dig_inj (by omega) (by omega) (by omega) (by omega) t1 t2 t3 t4 t5
     omega
    ·rw [if_neg (by omega)] at t6 t7
     have hR : R = a := by omega
     rw [hG, hR]
   ·rw [if_pos (by omega)] at t1 t2 t3 t4 t5
    have : G = g + 2 := dig_inj (by omega) (by omega) (by omega) (by omega) t1 t2 t3 t4 t5
    omega
  ·cases h2
open Go.RowKit
set_option maxHeartbeats 4000000 in
set_option maxRecDepth 20000 in
theorem implMetaRead_any (a : Option Addr) (n c : Nat) (zs : List Int) (w : World) (h : Rd w a n c zs) (he : Err w 0) (he2 : Err w 1) :
  Calls Tryz.prog 115 #[.slice a n c] w fun e w' => MrPost (mrd zs) w e w' := by
 have hzl : n = zs.length := h.1
 have HR := hid h
 have HE := hid he
 have HE2 := hid he2
 have K0 := hid (Bk.new w 61 [.int .i64 0, .int .i64 0])
 have B0 := hid (below_new (o := .cells #[.int .i64 0, .int .i64 0] 61) (w := w) (Below.refl _ _))
 clear he he2
 by_cases h512 : n = 512
 ·subst h512
  have HZL : Hid (zs.length = 512) := hzl.symm
  obtain ⟨b, off, rfl, hbl, -⟩ := h.2.2.2.2.2 (by omega)
  have hcc := h.2.1
  have hcm := h.2.2.1
  have hc1 : ¬ c = 1 := by omega
  have hc6 : ¬ c = 6 := by omega
  have F1 : Hid (∀ v, Below w.heap.size w v → Calls Tryz.prog 146 #[.slice (some ⟨b, off + 1, none⟩) 5 (c - 1)] v fun e w' => e = .returned (.int .i64 (mcd zs).1) ∧ v = w') := by
   intro v hb
   have := fromHighFirst_any _ 5 (c - 1) _ v ((HR.out.kept hb).cut 1 5 (by omega)) (by omega)
   rw [hiF_acc zs HZL.out 5 (by omega)] at this
   exact this
  have F2 : Hid (∀ v, Below w.heap.size w v → Calls Tryz.prog 146 #[.slice (some ⟨b, off + 6, none⟩) 2 (c - 6)] v fun e w' => e = .returned (.int .i64 (mcd zs).2) ∧ v = w') := by
   intro v hb
   have := fromHighFirst_any _ 2 (c - 6) _ v ((HR.out.kept hb).cut 6 2 (by omega)) (by omega)
   rw [hiF_root zs HZL.out] at this
   exact this
  have HM : Hid (mrd zs = if mtBytes (mcd zs).1 (mcd zs).2 = some zs then some (mcd zs) else none) := by
   show _ = _
   rw [mrd]
   by_cases q : mtBytes (mcd zs).1 (mcd zs).2 = some zs
   ·rw [if_pos ⟨HZL.out, q⟩, if_pos q]
   ·rw [if_neg (fun h => q h.2), if_neg q]
  have HMP : Hid (mcd zs = ((mcd zs).1, (mcd zs).2)) := rfl
  generalize (mcd zs).1 = mg at *
  generalize (mcd zs).2 = mr at *
  clear hbl hzl h
  go_enter Tryz.func115, Tryz.ntmps115
  go_wp2_with fail
  generalize w.alloc (.cells #[.int .i64 0, .int .i64 0] 61) = U at *
  have FD : Hid (Below w.heap.size w U.drew) := btw B0.out (below_drew _)
  have FA : Hid (∀ o, Below w.heap.size w (U.alloc o).drew) := fun o => btw B0.out ((below_new (Below.refl _ _)).trans ((below_drew _).mono (by simp)))
  have H1 := hid (F1.out _ FD.out)
  have H2 := hid (F2.out _ FD.out)
  have H3 := hid (F1.out _ (FA.out (.cells #[.int .i64 0, .int .i64 0] 61)))
  have H4 := hid (F2.out _ (FA.out (.cells #[.int .i64 0, .int .i64 0] 61)))
  have hw8 : IntKind.i64.wrap 8 = 8 := by simp [IntKind.wrap, IntKind.signed, IntKind.bits]
  go_cut [5] (fun x v => x = .pointer (some ⟨U.heap.size, 0, none⟩) ∧ v = (U.alloc (.cells #[.int .i64 mg, .int .i64 mr] 61)).drew)
  case first =>
   go_region_with (first
    | (go_at_call 146; with_reducible refine H1.out.mono ?_; rintro e w1 ⟨rfl, rfl⟩)
    | (go_at_call 146; with_reducible refine H3.out.mono ?_; rintro e w1 ⟨rfl, rfl⟩)
    | (go_at_call 146; with_reducible refine H4.out.mono ?_; rintro e w1 ⟨rfl, rfl⟩)
    | (go_at_call 146; with_reducible refine H2.out.mono ?_; rintro e w1 ⟨rfl, rfl⟩))
   all_goals (go_wp2_with fail; go_meet)
   all_goals exact ⟨rfl, rfl⟩
  case rest =>
   obtain ⟨rfl, rfl⟩ := hcut
   have BV : Hid (Below w.heap.size w (U.alloc (.cells #[.int .i64 mg, .int .i64 mr] 61)).drew) := FA.out _
   have KV : Hid (Bk (U.alloc (.cells #[.int .i64 mg, .int .i64 mr] 61)).drew U.heap.size 61 [.int .i64 mg, .int .i64 mr]) := (Bk.new U 61 [.int .i64 mg, .int .i64 mr]).below (below_drew _)
   have RV : Hid (Bk (U.alloc (.cells #[.int .i64 mg, .int .i64 mr] 61)).drew w.heap.size 61 [.int .i64 0, .int .i64 0]) := (K0.out.alloc _).below (below_drew _)
   have hne : ¬ w.heap.size = U.heap.size := by have := K0.out.lt; omega
   have hne' : ¬ U.heap.size = w.heap.size := fun e => hne e.symm
   generalize (U.alloc (.cells #[.int .i64 mg, .int .i64 mr] 61)).drew = V at *
   generalize U.heap.size = x at *
   generalize hy : w.heap.size = y at hne hne' RV ⊢
   have HY := hid hy
   clear hy F1 F2 K0 B0 FD FA H1 H2 H3 H4
   have c0 := KV.out.cell (j := 0) rfl
   have c1 := KV.out.cell (j := 1) rfl
   go_wp2_with fail
   refine (implMetaBytes_any mg mr V (HE.out.below BV.out HE.out.lt) (HE2.out.below BV.out HE2.out.lt)).mono ?_
   intro e w2 hput
   have B2 := hid (btw BV.out hput.1)
   have K2 := hid (KV.out.below hput.1)
   have R2 := hid (RV.out.below hput.1)
   have d0 := K2.out.cell (j := 0) rfl
   have d1 := K2.out.cell (j := 1) rfl
   have r0 := R2.out.cell (j := 0) rfl
   have r1 := R2.out.cell (j := 1) rfl
   have rf0 := R2.out.free 0
   have rf1 := R2.out.free 1
   have BF : Hid (∀ p q, Below w.heap.size w ((w2.setCell ⟨y, 0, none⟩ p).setCell ⟨y, 1, none⟩ q)) := by
    intro p q
    exact (B2.out.setCell (p := ⟨y, 0, none⟩) (Nat.le_of_eq HY.out) _).setCell (p := ⟨y, 1, none⟩) (Nat.le_of_eq HY.out) _
   rcases hput.2 with ⟨hn, rfl⟩ | ⟨v, out, hs, rfl, ho⟩
   ·have HPR : Hid (mrd zs = none) := by show _ = _; rw [HM.out, if_neg]; rw [hn]; intro h; cases h
    clear hput c0 c1 KV RV BV HM hn
    go_wp2
    refine bodyPost_ret (results_mt2 (x := .int .i64 0) (y := .int .i64 0) rfl _ _ _ rfl rfl (by go_simp) (by go_simp)) rfl ?_
    exact ⟨by first | exact BF.out _ _ | exact B2.out, .inl ⟨HPR.out, rfl⟩⟩
   ·have hout : out = mtFull mg mr ∧ mtOk mg mr = true := by
     unfold mtBytes at hs
     split at hs
     ·rename_i hk; cases hs; exact ⟨rfl, hk⟩
     ·cases hs
    obtain ⟨g0, g1, r0', r1'⟩ := mtOk_facts hout.2
    obtain ⟨a3, c3, rfl, hR3, -⟩ := ho.rd (byte_at (by rw [hout.1]; exact mtFull_byte r0' r1')) (by rw [hout.1, mtFull_len]; omega)
    have R3 := hid hR3
    have HS := hid hs
    clear hput c0 c1 KV RV BV ho hout hR3 hs g0 g1 r0' r1'
    generalize out.length = L at *
    go_wp2_with fail
    refine (bytesEqual_any _ _ _ _ _ _ _ _ _ R3.out (HR.out.kept B2.out)).mono ?_
    rintro e w3 ⟨rfl, rfl⟩
    by_cases hq : out = zs
    ·have HPR : Hid (mrd zs = some (mg, mr)) := by show _ = _; rw [HM.out, if_pos (by rw [HS.out, hq]), HMP.out]
     rw [decide_eq_true hq]
     clear hq HM HMP HS R3
     go_wp2
     refine bodyPost_ret (results_mt2 (x := .int .i64 mg) (y := .int .i64 mr) rfl _ _ _ rfl rfl (by go_simp) (by go_simp)) rfl ?_
     exact ⟨BF.out _ _, .inr ⟨_, _, HPR.out, rfl⟩⟩
    ·have HPR : Hid (mrd zs = none) := by show _ = _; rw [HM.out, if_neg]; rw [HS.out]; intro h; exact hq (Option.some.inj h)
     rw [decide_eq_false hq]
     clear hq HM HMP HS R3
     go_wp2
     refine bodyPost_ret (results_mt2 (x := .int .i64 0) (y := .int .i64 0) rfl _ _ _ rfl rfl (by go_simp) (by go_simp)) rfl ?_
     exact ⟨by first | exact BF.out _ _ | exact B2.out, .inl ⟨HPR.out, rfl⟩⟩
 ·have h512' : ((n : Int) != 512) = true := by simp; omega
  have HPR : Hid (mrd zs = none) := by
   show mrd zs = none
   rw [mrd, if_neg]
   rintro ⟨h, _⟩
   omega
  clear HR K0 HE HE2 h hzl
  go_enter Tryz.func115, Tryz.ntmps115
  go_wp2
  refine bodyPost_ret (results_mt2 (x := .int .i64 0) (y := .int .i64 0) rfl _ _ _ rfl rfl (by go_simp) (by go_simp)) rfl ?_
  refine ⟨?_, .inl ⟨HPR.out, rfl⟩⟩
  exact B0.out
open Go.RowKit
set_option linter.unusedVariables false
def shMeta (d : DK) (t : Nat) : Option (Int × Int) := mrd ((rdV d (t : Int)).getD [])
def stepM (o : Option (Int × Int)) (t : Nat) (b : Int × Int) : Int × Int := match o with
 | none => b
 | some m => if m.1 % 2 = (t : Int) ∧ b.1 < m.1 then m else b
def bestM (d : DK) : Nat → Int × Int
 | 0 => (0, 0)
 | k + 1 => stepM (shMeta d k) k (bestM d k)
theorem mrd_nil : mrd [] = none := by simp [mrd]
theorem mrd_gen {zs : List Int} {g r : Int} (h : mrd zs = some (g, r)) : 1 ≤ g ∧ g ≤ 1099511627775 := by
 have := (mrd_iff zs g r).1 h
 unfold mtBytes at this
 split at this
 ·rename_i hh
  simp only [mtOk, Bool.and_eq_true, decide_eq_true_eq] at hh
  exact hh.1
 ·cases this
structure Mx5 (w v : World) (sa : Option Addr) (sn sc : Nat) (da : Option Addr) (dn dc : Nat) (b : Int × Int) : Prop where
 bel : Below w.heap.size w v
 k0 : Bk v w.heap.size 30 [.slice sa sn sc, .slice da dn dc]
 k1 : Bk v (w.heap.size + 1) 61 [.int .i64 0, .int .i64 0]
 k2 : Bk v (w.heap.size + 1 + 1) 61 [.int .i64 b.1, .int .i64 b.2]
theorem Mx5.below {w v v' : World} {sa : Option Addr} {sn sc : Nat} {da : Option Addr} {dn dc : Nat} {b : Int × Int} (h : Mx5 w v sa sn sc da dn dc b) (hb : Below v.heap.size v v') : Mx5 w v' sa sn sc da dn dc b := ⟨bt6 h.bel hb, h.k0.below hb, h.k1.below hb, h.k2.below hb⟩
theorem Mx5.set {w v : World} {sa : Option Addr} {sn sc : Nat} {da : Option Addr} {dn dc : Nat} {b : Int × Int} (h : Mx5 w v sa sn sc da dn dc b) (g r : Int) : Mx5 w ((v.setCell ⟨w.heap.size + 1 + 1, 0, none⟩ (.int .i64 g)).setCell ⟨w.heap.size + 1 + 1, 1, none⟩ (.int .i64 r)) sa sn sc da dn dc (g, r) :=
 ⟨(h.bel.setCell (p := ⟨w.heap.size + 1 + 1, 0, none⟩) (by show w.heap.size ≤ w.heap.size + 1 + 1; omega) _).setCell (p := ⟨w.heap.size + 1 + 1, 1, none⟩) (by show w.heap.size ≤ w.heap.size + 1 + 1; omega) _, (h.k0.setOther (by omega) _ _).setOther (by omega) _ _, (h.k1.setOther (by omega) _ _).setOther (by omega) _ _, (h.k2.set 0 _).set 1 _⟩
theorem Mx5.start (w : World) (sa : Option Addr) (sn sc : Nat) (da : Option Addr) (dn dc : Nat) : Mx5 w (((w.alloc (.cells #[.slice sa sn sc, .slice da dn dc] 30)).alloc (.cells #[.int .i64 0, .int .i64 0] 61)).alloc (.cells #[.int .i64 0, .int .i64 0] 61)) sa sn sc da dn dc (0, 0) := by
 refine ⟨below_new (below_new (below_new (Below.refl _ _))), ((Bk.new w 30 [.slice sa sn sc, .slice da dn dc]).alloc _).alloc _, ?_, ?_⟩
 ·have := (Bk.new (w.alloc (.cells #[.slice sa sn sc, .slice da dn dc] 30)) 61 [.int .i64 0, .int .i64 0]).alloc (.cells #[.int .i64 0, .int .i64 0] 61)
  simpa using this
 ·have := Bk.new ((w.alloc (.cells #[.slice sa sn sc, .slice da dn dc] 30)).alloc (.cells #[.int .i64 0, .int .i64 0] 61)) 61 [.int .i64 0, .int .i64 0]
  simpa using this
theorem below_drew' {B : Nat} (w : World) : Below B w w.drew := Below.drewN' (Below.refl _ _) 1
set_option maxHeartbeats 8000000 in
set_option maxRecDepth 20000 in
theorem specDiskMeta_any (S : Nat → Prop) (sa : Option Addr) (sn sc : Nat) (da : Option Addr) (dn dc : Nat) (d : DK) (w : World) (h : Dk w S sa sn sc da dn dc d) (hsm : smallD d) :
  Calls Tryz.prog 24 #[.agg #[.slice sa sn sc, .slice da dn dc]] w fun e w' => e = .returned (.tuple #[.agg #[.int .i64 (bestM d 2).1, .int .i64 (bestM d 2).2], .bool (decide (0 < (bestM d 2).1))]) ∧ Below w.heap.size w w' := by
 have HH := hid h
 have HSM := hid hsm
 have HBY := hid h.bytes
 have M0 := hid (Mx5.start w sa sn sc da dn dc)
 clear h hsm
 go_enter Tryz.func24, Tryz.ntmps24
 go_wp2_with fail
 go_loopw [5] (fun i wr => ∃ k : Nat, k ≤ 2 ∧ i = .int .i64 k ∧ Hid (Mx5 w wr sa sn sc da dn dc (bestM d k))) (fun i _ => 2 - (intOf i).toNat)
 case atStart => exact ⟨0, by omega, rfl, M0.out⟩
 case round =>
  obtain ⟨k, hk, rfl, MM⟩ := hrel
  clear M0
  by_cases hlt : k < 2
  ·have hlt' : (k : Int) < 2 := by omega
   have d0 := MM.out.k0.cell (j := 0) rfl
   have d1 := MM.out.k0.cell (j := 1) rfl
   go_wp2_with fail
   refine (specDiskRead_any S sa sn sc da dn dc d (k : Int) wr (HH.out.below MM.out.bel) HSM.out).mono ?_
   rintro e w2 ⟨a2, n2, c2, rfl, hO, hb⟩
   have M2 := hid (MM.out.below hb)
   have HRD := hid (ob_rd hO (rdV_facts HBY.out (k : Int)).1 (by have := (rdV_facts HBY.out (k : Int)).2; omega)).1
   have HST : Hid (bestM d (k + 1) = stepM (mrd ((rdV d (k : Int)).getD [])) k (bestM d k)) := rfl
   have HNO : Hid ((rdV d (k : Int)).isSome = false → mrd ((rdV d (k : Int)).getD []) = none) := fun e => by
    cases e2 : rdV d (k : Int) with
    | none => exact mrd_nil
    | some z => rw [e2] at e; cases e
   clear hO hb d0 d1 MM
   generalize (rdV d (k : Int)).isSome = Z at *
   generalize (rdV d (k : Int)).getD [] = zs at *
   go_wp2_with fail
   refine (specMetaRead_any a2 n2 c2 zs _ HRD.out).mono ?_
   rintro e w3 ⟨hb, hor⟩
   have M3 := hid (M2.out.below hb)
   clear hb M2 HRD
   rcases hor with ⟨hn, rfl⟩ | ⟨g, r, hs, rfl⟩
   ·have M4 := hid (M3.out.below (below_new (o := .cells #[.int .i64 0, .int .i64 0] 61) (w := w3) (Below.refl _ _)))
    have HS2 : Hid (bestM d (k + 1) = bestM d k) := by show _ = _; rw [HST.out, hn]; rfl
    clear hn M3 HST HNO
    cases Z with
    | true =>
     go_wp2
     go_roundw
     case rel => exact ⟨k + 1, by omega, by go_num, by rw [HS2.out]; exact M4.out⟩
     case measure => simp [intOf]; omega
    | false =>
     go_wp2
     go_roundw
     case rel => exact ⟨k + 1, by omega, by go_num, by rw [HS2.out]; exact M4.out⟩
     case measure => simp [intOf]; omega
   ·have hZ : Z = true := by
     cases Z with
     | true => rfl
     | false => rw [HNO.out rfl] at hs; cases hs
    subst hZ
    have hg := mrd_gen hs
    have hmod : g.tmod 2 = g % 2 := Int.tmod_eq_emod_of_nonneg (by omega)
    have M4 := hid (M3.out.below (below_new (o := .cells #[.int .i64 g, .int .i64 r] 61) (w := w3) (Below.refl _ _)))
    have K4 := hid (Bk.new w3 61 [.int .i64 g, .int .i64 r])
    rw [hs] at HST
    have HS2 : Hid (bestM d (k + 1) = if g % 2 = (k : Int) ∧ (bestM d k).1 < g then (g, r) else bestM d k) := HST
    have S4 : Hid (w.heap.size + 1 + 1 < w3.heap.size) := M3.out.k2.lt
    clear hs HST HNO
    generalize g % 2 = p at *
    by_cases e1 : p = (k : Int)
    ·have e1' : (p == (k : Int)) = true := by simp [e1]
     have b0 := M3.out.k2.cell (j := 0) rfl
     have b1 := M3.out.k2.cell (j := 1) rfl
     have f0 := M3.out.k2.free 0
     have f1 := M3.out.k2.free 1
     by_cases e2 : (bestM d k).1 < g
     ·have HS3 : Hid (bestM d (k + 1) = (g, r)) := by show _ = _; rw [HS2.out, if_pos ⟨e1, e2⟩]
      have M5 := hid ((M3.out.set g r).below (below_new (o := .cells #[.int .i64 g, .int .i64 r] 61) (Below.refl _ _)))
      clear HS2 e1 M3 M4 K4
      generalize (bestM d k).1 = q1 at *
      generalize (bestM d k).2 = q2 at *
      have s4 := S4.out
      go_wp2
      go_roundw
      case rel => exact ⟨k + 1, by omega, by go_num, by rw [HS3.out]; exact M5.out⟩
      case measure => simp [intOf]; omega
     ·have HS3 : Hid (bestM d (k + 1) = bestM d k) := by show _ = _; rw [HS2.out, if_neg (fun h => e2 h.2)]
      clear HS2 e1 M3 K4
      have HM4 : Hid (Mx5 w (w3.alloc (.cells #[.int .i64 g, .int .i64 r] 61)) sa sn sc da dn dc (bestM d (k + 1))) := by rw [HS3.out]; exact M4.out
      clear M4 HS3
      generalize (bestM d k).1 = q1 at *
      have s4 := S4.out
      go_wp2
      go_roundw
      case rel => exact ⟨k + 1, by omega, by go_num, HM4.out⟩
      case measure => simp [intOf]; omega
    ·have e1' : (p == (k : Int)) = false := by simp [e1]
     have HS3 : Hid (bestM d (k + 1) = bestM d k) := by show _ = _; rw [HS2.out, if_neg (fun h => e1 h.1)]
     have HM4 : Hid (Mx5 w (w3.alloc (.cells #[.int .i64 g, .int .i64 r] 61)) sa sn sc da dn dc (bestM d (k + 1))) := by rw [HS3.out]; exact M4.out
     clear HS2 HS3 M4 M3 K4
     go_wp2
     go_roundw
     case rel => exact ⟨k + 1, by omega, by go_num, HM4.out⟩
     case measure => simp [intOf]; omega
  ·have hk2 : k = 2 := by omega
   subst hk2
   have b0 := MM.out.k2.cell (j := 0) rfl
   have b1 := MM.out.k2.cell (j := 1) rfl
   have r0 := MM.out.k1.cell (j := 0) rfl
   have r1 := MM.out.k1.cell (j := 1) rfl
   have f0 := MM.out.k1.free 0
   have f1 := MM.out.k1.free 1
   generalize hq1 : (bestM d 2).1 = q1 at *
   generalize hq2 : (bestM d 2).2 = q2 at *
   have HB := hid MM.out.bel
   have HQ1 := hid hq1
   have HQ2 := hid hq2
   clear MM hq1 hq2
   go_wp2_with fail
   go_region_held3 (fun v => v.cell? ⟨w.heap.size + 1 + 1, 0, none⟩ = some (.int .i64 q1) ∧ v.cell? ⟨w.heap.size + 1 + 1, 1, none⟩ = some (.int .i64 q2))
    (first | assumption | (refine ⟨?_, ?_⟩ <;> go_simp))
    (first | fail)
   all_goals go_wp2
   all_goals try simp only [Exit.inBlock, Exit.then]
   all_goals refine bodyPost_ret (v := .tuple #[.agg #[.int .i64 q1, .int .i64 q2], .bool (decide (0 < q1))]) ?_ rfl ?_
   all_goals first
    | exact results_mt2 rfl _ _ _ rfl rfl (by go_simp) (by go_simp)
    | exact ⟨by rw [HQ1.out, HQ2.out], ((HB.out.setCell (p := ⟨w.heap.size + 1, 0, none⟩) (Nat.le_succ _) _).setCell (p := ⟨w.heap.size + 1, 1, none⟩) (Nat.le_succ _) _).trans (below_drew' _)⟩
theorem metaPlace_any (g : Int) (w : World) (h : 0 ≤ g) : Calls Tryz.prog 100 #[.int .i64 g] w fun e w' => e = .returned (.int .i64 (g % 2)) ∧ w' = w := by
 have hmod : g.tmod 2 = g % 2 := Int.tmod_eq_emod_of_nonneg h
 have hr : 0 ≤ g % 2 ∧ g % 2 < 2 := by omega
 generalize g % 2 = p at *
 go_enter Tryz.func100, Tryz.ntmps100
 go_wp2
 go_ret
 exact ⟨by simp, rfl⟩
set_option maxHeartbeats 8000000 in
set_option maxRecDepth 20000 in
theorem implDiskMeta_any (S : Nat → Prop) (sa : Option Addr) (sn sc : Nat) (da : Option Addr) (dn dc : Nat) (d : DK) (w : World) (h : Dk w S sa sn sc da dn dc d) (hsm : smallD d) (he : Err w 0) (he2 : Err w 1) :
  Calls Tryz.prog 75 #[.agg #[.slice sa sn sc, .slice da dn dc]] w fun e w' => e = .returned (.tuple #[.agg #[.int .i64 (bestM d 2).1, .int .i64 (bestM d 2).2], .bool (decide (0 < (bestM d 2).1))]) ∧ Below w.heap.size w w' := by
 have HH := hid h
 have HSM := hid hsm
 have HBY := hid h.bytes
 have M0 := hid (Mx5.start w sa sn sc da dn dc)
 have HE := hid he
 have HE2 := hid he2
 clear h hsm he he2
 go_enter Tryz.func75, Tryz.ntmps75
 go_wp2_with fail
 go_loopw [10] (fun i wr => ∃ k : Nat, k ≤ 2 ∧ i = .int .i64 k ∧ Hid (Mx5 w wr sa sn sc da dn dc (bestM d k))) (fun i _ => 2 - (intOf i).toNat)
 case atStart => exact ⟨0, by omega, rfl, M0.out⟩
 case round =>
  obtain ⟨k, hk, rfl, MM⟩ := hrel
  clear M0
  by_cases hlt : k < 2
  ·have hlt' : (k : Int) < 2 := by omega
   have d0 := MM.out.k0.cell (j := 0) rfl
   have d1 := MM.out.k0.cell (j := 1) rfl
   go_wp2_with fail
   refine (implDiskRead_any S sa sn sc da dn dc d (k : Int) wr (HH.out.below MM.out.bel) HSM.out (HE.out.below MM.out.bel HE.out.lt) (HE2.out.below MM.out.bel HE2.out.lt)).mono ?_
   rintro e w2 ⟨a2, n2, c2, rfl, hO, hb⟩
   have M2 := hid (MM.out.below hb)
   have HRD := hid (ob_rd hO (rdV_facts HBY.out (k : Int)).1 (by have := (rdV_facts HBY.out (k : Int)).2; omega)).1
   have HST : Hid (bestM d (k + 1) = stepM (mrd ((rdV d (k : Int)).getD [])) k (bestM d k)) := rfl
   have HNO : Hid ((rdV d (k : Int)).isSome = false → mrd ((rdV d (k : Int)).getD []) = none) := fun e => by
    cases e2 : rdV d (k : Int) with
    | none => exact mrd_nil
    | some z => rw [e2] at e; cases e
   clear hO hb d0 d1 MM
   generalize (rdV d (k : Int)).isSome = Z at *
   generalize (rdV d (k : Int)).getD [] = zs at *
   go_wp2_with fail
   refine (implMetaRead_any a2 n2 c2 zs _ HRD.out (HE.out.below M2.out.bel HE.out.lt) (HE2.out.below M2.out.bel HE2.out.lt)).mono ?_
   rintro e w3 ⟨hb, hor⟩
   have M3 := hid (M2.out.below hb)
   clear hb M2 HRD
   rcases hor with ⟨hn, rfl⟩ | ⟨g, r, hs, rfl⟩
   ·have M4 := hid (M3.out.below (below_new (o := .cells #[.int .i64 0, .int .i64 0] 61) (w := w3) (Below.refl _ _)))
    have HS2 : Hid (bestM d (k + 1) = bestM d k) := by show _ = _; rw [HST.out, hn]; rfl
    clear hn M3 HST HNO
    cases Z with
    | true =>
     go_wp2
     go_roundw
     case rel => exact ⟨k + 1, by omega, by go_num, by rw [HS2.out]; exact M4.out⟩
     case measure => simp [intOf]; omega
    | false =>
     go_wp2
     go_roundw
     case rel => exact ⟨k + 1, by omega, by go_num, by rw [HS2.out]; exact M4.out⟩
     case measure => simp [intOf]; omega
   ·have hZ : Z = true := by
     cases Z with
     | true => rfl
     | false => rw [HNO.out rfl] at hs; cases hs
    subst hZ
    have hg := mrd_gen hs
    have hmod : g.tmod 2 = g % 2 := Int.tmod_eq_emod_of_nonneg (by omega)
    have M4 := hid (M3.out.below (below_new (o := .cells #[.int .i64 g, .int .i64 r] 61) (w := w3) (Below.refl _ _)))
    have K4 := hid (Bk.new w3 61 [.int .i64 g, .int .i64 r])
    rw [hs] at HST
    have HS2 : Hid (bestM d (k + 1) = if g % 2 = (k : Int) ∧ (bestM d k).1 < g then (g, r) else bestM d k) := HST
    have S4 : Hid (w.heap.size + 1 + 1 < w3.heap.size) := M3.out.k2.lt
    clear hs HST HNO
    have HMP := hid (metaPlace_any g (w3.alloc (.cells #[.int .i64 g, .int .i64 r] 61)) (by omega))
    generalize g % 2 = p at *
    go_wp2_with fail
    refine HMP.out.mono ?_
    rintro e w4' ⟨rfl, rfl⟩
    clear hmod
    by_cases e1 : p = (k : Int)
    ·have e1' : (p == (k : Int)) = true := by simp [e1]
     have b0 := M3.out.k2.cell (j := 0) rfl
     have b1 := M3.out.k2.cell (j := 1) rfl
     have f0 := M3.out.k2.free 0
     have f1 := M3.out.k2.free 1
     by_cases e2 : (bestM d k).1 < g
     ·have HS3 : Hid (bestM d (k + 1) = (g, r)) := by show _ = _; rw [HS2.out, if_pos ⟨e1, e2⟩]
      have M5 := hid ((M3.out.set g r).below (below_new (o := .cells #[.int .i64 g, .int .i64 r] 61) (Below.refl _ _)))
      clear HS2 e1 M3 M4 K4
      generalize (bestM d k).1 = q1 at *
      generalize (bestM d k).2 = q2 at *
      have s4 := S4.out
      go_wp2
      go_roundw
      case rel => exact ⟨k + 1, by omega, by go_num, by rw [HS3.out]; exact M5.out⟩
      case measure => simp [intOf]; omega
     ·have HS3 : Hid (bestM d (k + 1) = bestM d k) := by show _ = _; rw [HS2.out, if_neg (fun h => e2 h.2)]
      clear HS2 e1 M3 K4
      have HM4 : Hid (Mx5 w (w3.alloc (.cells #[.int .i64 g, .int .i64 r] 61)) sa sn sc da dn dc (bestM d (k + 1))) := by rw [HS3.out]; exact M4.out
      clear M4 HS3
      generalize (bestM d k).1 = q1 at *
      have s4 := S4.out
      go_wp2
      go_roundw
      case rel => exact ⟨k + 1, by omega, by go_num, HM4.out⟩
      case measure => simp [intOf]; omega
    ·have e1' : (p == (k : Int)) = false := by simp [e1]
     have HS3 : Hid (bestM d (k + 1) = bestM d k) := by show _ = _; rw [HS2.out, if_neg (fun h => e1 h.1)]
     have HM4 : Hid (Mx5 w (w3.alloc (.cells #[.int .i64 g, .int .i64 r] 61)) sa sn sc da dn dc (bestM d (k + 1))) := by rw [HS3.out]; exact M4.out
     clear HS2 HS3 M4 M3 K4
     go_wp2
     go_roundw
     case rel => exact ⟨k + 1, by omega, by go_num, HM4.out⟩
     case measure => simp [intOf]; omega
  ·have hk2 : k = 2 := by omega
   subst hk2
   have b0 := MM.out.k2.cell (j := 0) rfl
   have b1 := MM.out.k2.cell (j := 1) rfl
   have r0 := MM.out.k1.cell (j := 0) rfl
   have r1 := MM.out.k1.cell (j := 1) rfl
   have f0 := MM.out.k1.free 0
   have f1 := MM.out.k1.free 1
   generalize hq1 : (bestM d 2).1 = q1 at *
   generalize hq2 : (bestM d 2).2 = q2 at *
   have HB := hid MM.out.bel
   have HQ1 := hid hq1
   have HQ2 := hid hq2
   clear MM hq1 hq2
   go_wp2_with fail
   go_region_held3 (fun v => v.cell? ⟨w.heap.size + 1 + 1, 0, none⟩ = some (.int .i64 q1) ∧ v.cell? ⟨w.heap.size + 1 + 1, 1, none⟩ = some (.int .i64 q2))
    (first | assumption | (refine ⟨?_, ?_⟩ <;> go_simp))
    (first | fail)
   all_goals go_wp2
   all_goals try simp only [Exit.inBlock, Exit.then]
   all_goals refine bodyPost_ret (v := .tuple #[.agg #[.int .i64 q1, .int .i64 q2], .bool (decide (0 < q1))]) ?_ rfl ?_
   all_goals first
    | exact results_mt2 rfl _ _ _ rfl rfl (by go_simp) (by go_simp)
    | exact ⟨by rw [HQ1.out, HQ2.out], ((HB.out.setCell (p := ⟨w.heap.size + 1, 0, none⟩) (Nat.le_succ _) _).setCell (p := ⟨w.heap.size + 1, 1, none⟩) (Nat.le_succ _) _).trans (below_drew' _)⟩
end Go.Proofs.YtidjehapeanpbaaGreatDoor
