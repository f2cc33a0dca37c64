/-
  l03Lay of the specification: the nodes of a sub in the walk's order, behind others.
-/
import Derived.Test.YtidjehapeanpbaaGreatDoorMk3
import Derived.Deep.DeepCutAuto
import Derived.Test.YtidjehapeanpbaaGreatDoorMk2
import Derived.Laws.StructEq
import Derived.Test.YtidjehapeanpbaaGreatDoorMk6
import Derived.Test.YtidjehapeanpbaaGreatDoorMk1
import Derived.Test.YtidjehapeanpbaaGreatDoorMk4
import Derived.Laws.CopyRow
import Derived.Lib.AppendZerosOnto
import Derived.Lib.Overlaps
import Derived.Deep.RegionLaw
import Derived.Lib.Bytealg
namespace Go.Proofs.YtidjehapeanpbaaGreatDoor
open Go.RowKit
def LayPost (w : World) (F : Nat → Prop) (v : Value) (ms : List NB) (e : Ending) (w' : World) : Prop :=
 ∃ v', e = .returned v' ∧ NO w' (fun y => F y ∨ (w.heap.size ≤ y ∧ y < w'.heap.size ∧ v'.ownBlock ≠ some y)) v' ms ∧ Only (fun y => v.ownBlock = some y) w w' ∧ ∀ y, v'.ownBlock = some y → v.ownBlock = some y ∨ w.heap.size ≤ y
set_option maxHeartbeats 8000000 in
set_option maxRecDepth 20000 in
theorem specLay_any (t : T) : ∀ (S : Nat → Prop) (lf : Bool) (ap ak : Option Addr) (np cp nk ck : Nat) (w : World) (F : Nat → Prop) (av : Option Addr) (nv cv : Nat) (ns : List NB) (r : Bool), Sub w S lf (.slice ap np cp) (.slice ak nk ck) t → (∀ y, S y → (Value.slice av nv cv).ownBlock ≠ some y) →
  NO w F (.slice av nv cv) ns → ns.length + t.size ≤ 1048576 → t.full r = true →
  Calls Tryz.prog 70 #[.slice av nv cv, .agg #[.bool lf, .slice ap np cp, .slice ak nk ck]] w fun e w' => LayPost w F (.slice av nv cv) (ns ++ lay ns.length t) e w' := by
 induction t using T.ind
 rename_i ps ks ih
 intro S lf ap ak np cp nk ck w F av nv cv ns r h hSv hN hsz hfu
 obtain ⟨ap', np', cp', ak', nk', ck', e1, e2, HNP, HNK, b1, b2, hlf, hP⟩ := h.shape
 cases e1
 cases e2
 obtain ⟨av', nv', cv', e3, HNV⟩ := hN.shape
 cases e3
 have H0 := hid h
 have HP := hid hP
 have HIH := hid ih
 have HSV := hid hSv
 have HN := hid hN
 have HSZ := hid hsz
 have HFU := hid hfu
 simp only [T.ks, T.ps] at HNK HNP HP
 have hnl : nv ≤ 1048576 := by have := HNV.out; have := HSZ.out; omega
 have HLF := hid hlf
 clear h ih hP hSv hN hsz hfu hlf
 have HB0 : Hid (Below w.heap.size w ((w.alloc (.cells #[.bool lf, .slice ap np cp, .slice ak nk ck] 115)).alloc (.cells #[.slice none 0 0, .slice none 0 0, .slice none 0 0] 85))) := below_new (below_new (Below.refl _ _))
 have KP : Hid (Bk ((w.alloc (.cells #[.bool lf, .slice ap np cp, .slice ak nk ck] 115)).alloc (.cells #[.slice none 0 0, .slice none 0 0, .slice none 0 0] 85)) w.heap.size 115 [.bool lf, .slice ap np cp, .slice ak nk ck]) := (Bk.new w 115 [.bool lf, .slice ap np cp, .slice ak nk ck]).alloc _
 have KZ : Hid (Bk ((w.alloc (.cells #[.bool lf, .slice ap np cp, .slice ak nk ck] 115)).alloc (.cells #[.slice none 0 0, .slice none 0 0, .slice none 0 0] 85)) (w.heap.size + 1) 85 [.slice none 0 0, .slice none 0 0, .slice none 0 0]) := by
  have := Bk.new (w.alloc (.cells #[.bool lf, .slice ap np cp, .slice ak nk ck] 115)) 85 [.slice none 0 0, .slice none 0 0, .slice none 0 0]
  show Bk _ _ _ _
  simpa using this
 have HN0 := hid (HN.out.kept HB0.out)
 have HVW := hid HN.out.lt
 go_enter Tryz.func70, Tryz.ntmps70
 go_wp2_with (at_builtin; refine wpList_append_zero rfl _ _ rfl F _ ns rfl HN0.out (w.heap.size + 1) rfl KZ.out ?q1 ?_)
 case q1 => have := HSZ.out; omega
 intro g1 n1 c1 w1 hN1 HN1L hg1 ha1
 have HO1 : Hid (Only (fun y => (Value.slice av nv cv).ownBlock = some y) w w1) := (only_of_below HB0.out _).trans (only_of_grown hg1 (fun k e => e))
 have HV1 : Hid (∀ y, (Value.slice (some ⟨g1, 0, none⟩) n1 c1).ownBlock = some y → (Value.slice av nv cv).ownBlock = some y ∨ w.heap.size + 2 ≤ y) := by
  intro y e
  rcases ha1 with ha | ha
  ·exact .inl (ha ▸ e)
  ·rw [ha] at e; cases e; right; simp
 have KP1 : Hid (Bk w1 w.heap.size 115 [.bool lf, .slice ap np cp, .slice ak nk ck]) := KP.out.to (only_of_grown (R := fun y => y < w.heap.size) hg1 (fun y e => HVW.out y e)) (by omega)
 have HN1 := hid hN1
 have HWS : Hid (w.heap.size + 2 ≤ w1.heap.size) := by have := hg1.size; simp at this; exact this
 have HSW : Hid (Sub w1 S lf (.slice ap np cp) (.slice ak nk ck) (.mk ps ks)) := H0.out.to HO1.out (fun y hy _ e => HSV.out y hy e)
 have HPW : Hid (Pr w1 S (.slice ap np cp) ps) := HP.out.to HO1.out (fun y hy _ e => HSV.out y hy e)
 have p0 := KP1.out.cell (j := 0) rfl
 have p1 := KP1.out.cell (j := 1) rfl
 have p2 := KP1.out.cell (j := 2) rfl
 have HSUB : Hid (Sub w (fun y => S y ∧ y < w.heap.size) lf (.slice ap np cp) (.slice ak nk ck) (.mk ps ks)) := H0.out.mono (fun y hy h => ⟨hy, h⟩)
 clear hN1 hg1 ha1 KP KZ HN0 HB0 H0 HP
 have hn1 : Hid (n1 = nv + 1) := by show _ = _; rw [HN1L.out, HNV.out]
 have hlt1 : (nv : Int) < (n1 : Int) := by have := hn1.out; omega
 by_cases hk : nk = 0
 ·have hlf' : lf = true := by rw [HLF.out, hk]; rfl
  have hks : ks = [] := List.eq_nil_of_length_eq_zero (by have := HNK.out; omega)
  subst hlf' hks
  have hps : ps.length ≤ 4 := (full_lf HFU.out).1
  have HO := hid (ow_new w1 w1.heap.size (Nat.le_refl _))
  have HB1 := hid (below_new (o := .cells #[] 112) (w := w1) (Below.refl _ _))
  have p1' := (KP1.out.alloc (.cells #[] 112)).cell (j := 1) rfl
  clear hk HLF
  go_wp2_with (at_builtin; refine wpList_append_pairs rfl _ _ rfl w1.heap.size _ [] rfl HO.out S _ ps rfl (HPW.out.below HB1.out) ?q1 ?q2 ?_)
  case q1 => simp; omega
  case q2 => simp
  intro v2 w2 hO2 hg2
  obtain ⟨a2, n2, c2, hv2, HN2⟩ := hO2.shape'
  subst hv2
  have HO2 : Hid (Ow w2 w1.heap.size (.slice a2 n2 c2) ps) := hO2
  have HWB : Hid (Below w1.heap.size w1 w2) := HB1.out.trans (grown_belowB HO.out hg2 (by simp))
  have HN2' := hid (HN1.out.kept HWB.out)
  have HG1 : Hid (g1 < w1.heap.size) := HN1.out.lt g1 rfl
  have HF1 : Hid (∀ y, F y → y < w1.heap.size ∧ g1 ≠ y) := by
   intro y hy
   obtain ⟨V, _, _, _, n4, _⟩ := HN1.out
   exact ⟨(n4 y hy).1, fun e => (n4 y hy).2 (by rw [← e]; rfl)⟩
  obtain ⟨⟨x0, x1, x2, m0, _, _⟩, mf⟩ := HN2'.out.cells ns.length (by simp)
  have mf0 := mf (nv * 3)
  rw [← HNV.out] at m0
  have HFIN : Hid (NO (w2.setCell ⟨g1, nv * 3, none⟩ (.slice a2 n2 c2)) (fun y => F y ∨ (w.heap.size ≤ y ∧ y < (w2.setCell ⟨g1, nv * 3, none⟩ (.slice a2 n2 c2)).heap.size ∧ (Value.slice (some ⟨g1, 0, none⟩) n1 c1).ownBlock ≠ some y)) (.slice (some ⟨g1, 0, none⟩) n1 c1) (ns ++ lay ns.length (.mk ps []))) := by
   have hz : (w2.setCell ⟨g1, nv * 3, none⟩ (.slice a2 n2 c2)).heap.size = w2.heap.size := by simp [World.setCell]
   have hsz2 := HWB.out.size
   have e : lay ns.length (.mk ps []) = [⟨ps, [], []⟩] := by simp [lay]
   rw [hz, e]
   have hO0 : w2.ownsRow 0 112 2 (.slice a2 n2 c2) ps.length (pcs ps) := own_lower HO2.out
   have := NO.put0 (F := fun y => F y ∨ (w.heap.size ≤ y ∧ y < w2.heap.size ∧ (Value.slice (some ⟨g1, 0, none⟩) n1 c1).ownBlock ≠ some y)) (ms := ns) (l := []) (z := ⟨[], [], []⟩) HN2'.out (fun y hy => .inl hy) (by
    rintro y (hy | hy)
    ·exact ⟨by have := HF1.out y hy; omega, fun e => (HF1.out y hy).2 (by cases e; rfl)⟩
    ·exact hy.2) hO0 (fun y hy => by
     have h1 := own_ge HO2.out y hy
     have h2 := (World.ownsRow.lt HO2.out y hy).2
     exact ⟨.inr ⟨by have := HWS.out; omega, h2, fun e => by simp [Value.ownBlock] at e; have := HG1.out; omega⟩, fun hf => by have := HF1.out y hf; omega⟩)
   rw [← HNV.out] at this
   exact this
  have HOF : Hid (Only (fun y => (Value.slice av nv cv).ownBlock = some y) w (w2.setCell ⟨g1, nv * 3, none⟩ (.slice a2 n2 c2))) := by
   refine (HO1.out.trans (only_of_below HWB.out _)).then (only_set (R := fun y => y = g1) rfl _) (fun y hy e => ?_)
   subst e
   rcases HV1.out y rfl with h | h
   ·exact h
   ·omega
  clear hO2 hg2 mf HN2' HO2
  go_wp2
  go_ret
  exact ⟨_, rfl, HFIN.out, HOF.out, fun y hy => (HV1.out y hy).imp id (fun h => by omega)⟩
 ·have hlf' : lf = false := by rw [HLF.out]; simp [hk]
  subst hlf'
  have hkne : ks ≠ [] := by rintro rfl; have := HNK.out; simp at this; omega
  have HBR := hid (full_br HFU.out hkne)
  have HLY : Hid (ns ++ lay ns.length (T.mk ps ks) = ns ++ ⟨[], ks.tail.map T.least, places (ns.length + 1) ks⟩ :: layL (ns.length + 1) ks) := by show _ = _; simp [lay, hkne]
  have HSZK : Hid (ns.length + 1 + szL ks ≤ 1048576) := by have := HSZ.out; simp only [T.size] at this; show _ ≤ _; omega
  have HI0 : Hid (LyI w (w1.alloc (.cells #[.slice none 0 0, .slice none 0 0, .slice none 0 0] 85)) F (.slice av nv cv) (.slice (some ⟨g1, 0, none⟩) n1 c1) (.bool false) (.slice ap np cp) (.slice ak nk ck) w1.heap.size (.slice none 0 0) (.slice none 0 0) F (ns ++ [⟨[], [], []⟩]) [] []) := by
   have hF := fun y hy => (show y < w.heap.size from by obtain ⟨V, _, _, _, n4, _⟩ := HN.out; exact (n4 y hy).1)
   have hws := HWS.out
   refine ⟨hF, HVW.out, by omega, HN1.out.kept (below_new (Below.refl _ _)), KP1.out.alloc _, Bk.new w1 85 [.slice none 0 0, .slice none 0 0, .slice none 0 0], World.ownsRow_nil _ _ _ _, World.ownsRow_nil _ _ _ _, fun y hy => ⟨.inl hy, by have := hF y hy; omega, by simp [Value.ownBlock], by simp [Value.ownBlock]⟩, fun y hy => hy, fun y hy => ⟨(HV1.out y hy).imp id (fun h => by omega), ?_, by simp [Value.ownBlock], by simp [Value.ownBlock]⟩, fun y hy => (by cases hy), fun y hy => (by cases hy), HO1.out.trans (only_alloc _ _ _)⟩
   have := HN1.out.lt y hy
   omega
  have p2' := HI0.out.par.cell (j := 2) rfl
  clear hk HLF HN1 KP1 HN
  go_wp2_with fail
  go_loopw [0, 29] (fun x i wr => ∃ (k : Nat) (a' : Option Addr) (n' c' : Nat) (kx ki : Value) (Fk : Nat → Prop), k ≤ nk ∧ i = .int .i64 k ∧ x = .slice a' n' c' ∧ Hid (LyI w wr F (.slice av nv cv) (.slice a' n' c') (.bool false) (.slice ap np cp) (.slice ak nk ck) w1.heap.size kx ki Fk (ns ++ ⟨[], [], []⟩ :: layL (ns.length + 1) (ks.take k)) ((ks.take k).tail.map T.least) (places (ns.length + 1) (ks.take k)))) (fun _ i _ => nk - (intOf i).toNat)
  case atStart => exact ⟨0, _, _, _, _, _, F, Nat.zero_le _, rfl, rfl, by show LyI _ _ _ _ _ _ _ _ _ _ _ _ _ _ _; simpa [layL, places] using HI0.out⟩
  case round =>
   obtain ⟨k, a', n', c', kx, ki, Fk, hkn, rfl, rfl, HL⟩ := hrel
   by_cases hlt : k < nk
   ·have hlt' : (k : Int) < (nk : Int) := by omega
    have hks : k < ks.length := by rw [← HNK.out]; exact hlt
    obtain ⟨aki, cki, hki⟩ := own_shape HL.out.ri
    generalize hnki : (places (ns.length + 1) (ks.take k)).length = nki at hki
    have HNKI := hid hnki
    clear hnki
    subst hki
    have HLu := hid (HL.out.keep (below_new (o := .cells #[.int .i64 (n' : Int)] 3) (Below.refl _ _)))
    have y2 := HL.out.nod.cell (j := 2) rfl
    obtain ⟨aq, nq', cq, eq, HNQ⟩ := HL.out.nodes.shape
    cases eq
    have HLN : Hid (n' = ns.length + 1 + szL (ks.take k)) := by show _ = _; rw [HNQ.out]; simp [layL_length]; omega
    have hkk : nki ≤ 1048576 := by
     have h1 := HNKI.out
     rw [places_length, List.length_take] at h1
     have h2 := HBR.out.2.1
     omega
    have HRI : Hid (World.ownsRow (wr.alloc (.cells #[.int .i64 (n' : Int)] 3)) 0 3 1 (.slice aki nki cki) (places (ns.length + 1) (ks.take k)).length ((places (ns.length + 1) (ks.take k)).map (Value.int .i64))) := HLu.out.ri
    rw [HNKI.out] at HRI
    go_wp2_with (at_builtin; refine wpList_append_int1 rfl _ _ rfl _ nki _ rfl HRI.out wr.heap.size (n' : Int) rfl (Bk.new wr 3 [.int .i64 (n' : Int)]) hkk ?_)
    intro ai2 ni2 ci2 w2 hO2 hg2 ha2
    have HL2 : Hid (LyI w (w2.setCell ⟨w1.heap.size, 2, none⟩ (.slice ai2 ni2 ci2)) F (.slice av nv cv) (.slice a' n' c') (.bool false) (.slice ap np cp) (.slice ak nk ck) w1.heap.size kx (.slice ai2 ni2 ci2) Fk (ns ++ ⟨[], [], []⟩ :: layL (ns.length + 1) (ks.take k)) ((ks.take k).tail.map T.least) (places (ns.length + 1) (ks.take (k + 1)))) := by
     have h1 := HLu.out.addKid (n' : Int) (by rw [HNKI.out]; exact hO2) hg2 (by simpa using ha2)
     have h2 : places (ns.length + 1) (ks.take (k + 1)) = places (ns.length + 1) (ks.take k) ++ [(n' : Int)] := by rw [places_take ks k _ hks, HLN.out]
     show LyI _ _ _ _ _ _ _ _ _ _ _ _ _ _ _
     rw [h2]
     exact h1
    have K2 := HLu.out.nod.to (only_of_grown (R := fun y => (Value.slice aki nki cki).ownBlock = some y) hg2 (fun y e => e)) (fun e => (HLu.out.ib _ e).2 rfl)
    have z2 := K2.cell (j := 2) rfl
    have zf := K2.free 2
    clear hO2 hg2 ha2 K2 HRI HLu HL y2
    cases k with
    | zero =>
     have HLX := HL2
     -- the kid's nodes
     have HSUBX := hid (HSUB.out.to HLX.out.only (fun y hy _ e => HSV.out y hy.1 e))
     obtain ⟨gk, ofk, hak, _, _, hkid⟩ := HSUBX.out.kids (by omega)
     try subst hak
     obtain ⟨l1, ap1, np1, cp1, ak1, nk1, ck1, x0, x1, x2, hs1⟩ := hkid 0 hlt
     simp only [Nat.zero_mul, Nat.add_zero] at x0 x1 x2
     have HS1 := hid hs1
     have pp2 := HLX.out.par.cell (j := 2) rfl
     have HLEN : Hid ((ns ++ ⟨[], [], []⟩ :: layL (ns.length + 1) (ks.take (0))).length = ns.length + 1 + szL (ks.take (0))) := by show _ = _; simp [layL_length]; omega
     have HEQ : Hid ((ns ++ ⟨[], [], []⟩ :: layL (ns.length + 1) (ks.take (0))) ++ lay (ns ++ ⟨[], [], []⟩ :: layL (ns.length + 1) (ks.take (0))).length (tAt ks (0)) = ns ++ ⟨[], [], []⟩ :: layL (ns.length + 1) (ks.take (0 + 1))) := by
      show _ = _
      rw [HLEN.out, layL_take ks (0) (ns.length + 1) hks]
      simp
     have HBND : Hid ((ns ++ ⟨[], [], []⟩ :: layL (ns.length + 1) (ks.take (0))).length + (tAt ks (0)).size ≤ 1048576) := by
      show _ ≤ _
      have h1 := szL_take_le ks (0 + 1)
      rw [szL_take ks (0) hks] at h1
      have h2 := HSZK.out
      rw [HLEN.out]
      omega
     have HVS : Hid (∀ y, (S y ∧ y < w.heap.size) → (Value.slice a' n' c').ownBlock ≠ some y) := by
      intro y hy e
      rcases (HLX.out.vb y e).1 with h | h
      ·exact HSV.out y hy.1 h
      ·omega
     simp only [T.ks] at HS1
     clear hkid hs1 HSUBX
     go_wp2_with fail
     refine (HIH.out (tAt ks (0)) (tAt_mem hks) (fun y => S y ∧ y < w.heap.size) l1 ap1 ak1 np1 cp1 nk1 ck1 _ Fk a' n' c' (ns ++ ⟨[], [], []⟩ :: layL (ns.length + 1) (ks.take (0))) false HS1.out HVS.out HLX.out.nodes HBND.out (HBR.out.2.2.2 _ (tAt_mem hks))).mono ?_
     rintro e w9 ⟨v9, rfl, hN9, ho9, hv9⟩
     rw [HEQ.out] at hN9
     obtain ⟨a9, n9, c9, e9, _⟩ := hN9.shape
     subst e9
     have HL9 := hid (HLX.out.sub hN9 ho9 hv9)
     clear hN9 ho9 hv9 x0 x1 x2 pp2 HLX HS1
     go_wp2
     go_roundw
     case rel => exact ⟨0 + 1, a9, n9, c9, _, _, _, by omega, by go_num, rfl, by show LyI _ _ _ _ _ _ _ _ _ _ _ _ _ _ _; have e : (ks.take (0 + 1)).tail.map T.least = (ks.take 0).tail.map T.least := (by cases ks <;> simp); rw [e]; exact HL9.out⟩
     case measure => simp [intOf]; omega
    | succ k' =>
     have hk1 : (0 : Int) < (k' : Int) + 1 := by omega
     have hk2 : (k' : Int) + 1 < (nk : Int) := by omega
     have hk3 : 0 ≤ (k' : Int) + 1 := by omega
     have hk4 : ((k' : Int) + 1).toNat = k' + 1 := by omega
     generalize hU2 : w2.setCell ⟨w1.heap.size, 2, none⟩ (.slice ai2 ni2 ci2) = u2 at HL2
     obtain ⟨akx, ckx, hkx⟩ := own_shape HL2.out.rx
     generalize hnkx : ((ks.take (k' + 1)).tail.map T.least).length = nkx at hkx
     have HNKX := hid hnkx
     clear hnkx
     subst hkx
     have HSUB2 := hid (HSUB.out.to HL2.out.only (fun y hy _ e => HSV.out y hy.1 e))
     obtain ⟨gk, ofk, hak, hgs, _, hkid⟩ := HSUB2.out.kids (by omega)
     subst hak
     obtain ⟨l1, ap1, np1, cp1, ak1, nk1, ck1, x0, x1, x2, hs1⟩ := hkid (k' + 1) hlt
     have n1c := HL2.out.nod.cell (j := 1) rfl
     have n1f := HL2.out.nod.free 1
     have pp2 := HL2.out.par.cell (j := 2) rfl
     have hnbx : (Value.slice akx nkx ckx).ownBlock ≠ some w1.heap.size := fun e => (HL2.out.xb _ e).2.1 rfl
     have hgk : ¬ ((Value.slice akx nkx ckx).ownBlock = some gk ∨ gk = w1.heap.size) := by
      have h1 : gk < w.heap.size := hgs.2
      have h2 := HL2.out.lo
      rintro (e | e)
      ·have := (HL2.out.xb _ e).1; omega
      ·omega
     have hpb : ¬ ((Value.slice akx nkx ckx).ownBlock = some w.heap.size ∨ w.heap.size = w1.heap.size) := by
      have h2 := HL2.out.lo
      rintro (e | e)
      ·have := (HL2.out.xb _ e).1; omega
      ·omega
     have T0 : Hid (KO (fun y => (Value.slice akx nkx ckx).ownBlock = some y ∨ y = w1.heap.size) u2 u2 [(⟨w.heap.size, 2, none⟩, .slice (some ⟨gk, ofk, none⟩) nk ck), (⟨gk, ofk + (k' + 1) * 3, none⟩, .bool l1), (⟨gk, ofk + (k' + 1) * 3 + 1, none⟩, .slice ap1 np1 cp1), (⟨gk, ofk + (k' + 1) * 3 + 2, none⟩, .slice ak1 nk1 ck1)]) := ⟨fun p hp => by simp at hp; rcases hp with rfl | rfl | rfl | rfl <;> exact ⟨by assumption, by assumption⟩, Only.refl _ _⟩
     have HLE : Hid (∀ z, Below u2.heap.size u2 z → Calls Tryz.prog 110 #[.agg #[.bool l1, .slice ap1 np1 cp1, .slice ak1 nk1 ck1]] z fun e w' => e = .returned (.string (tAt ks (k' + 1)).least) ∧ Below z.heap.size z w') := fun z hz => specLeast_any (tAt ks (k' + 1)) _ l1 ap1 ak1 np1 cp1 nk1 ck1 z (by simp only [T.ks] at hs1; exact hs1.kept hz)
     have HOW : Hid (∀ z o, Below u2.drew.heap.size u2.drew z → World.ownsRow (z.alloc o) 0 9 1 (.slice akx nkx ckx) nkx (((ks.take (k' + 1)).tail.map T.least).map Value.string)) := fun z o hz => by
      have h1 := ((HL2.out.keep (below_drew _)).keep hz).keep (below_new (o := o) (Below.refl _ _))
      have h2 := h1.rx
      rw [HNKX.out] at h2
      exact h2
     have HCK : Hid (∀ z, Below u2.drew.heap.size u2.drew z → z.cell? ⟨w1.heap.size, 1, none⟩ = some (.slice akx nkx ckx) ∧ ∀ o, (z.alloc o).cell? ⟨w1.heap.size, 1, none⟩ = some (.slice akx nkx ckx)) := fun z hz =>
      ⟨((HL2.out.keep (below_drew _)).keep hz).nod.cell (j := 1) rfl, fun o => (((HL2.out.keep (below_drew _)).keep hz).keep (below_new (o := o) (Below.refl _ _))).nod.cell (j := 1) rfl⟩
     have HFK : Hid (∀ z o, Below u2.drew.heap.size u2.drew z → (z.alloc o).frozen? ⟨w1.heap.size, 1, none⟩ = false) := fun z o hz => (((HL2.out.keep (below_drew _)).keep hz).keep (below_new (o := o) (Below.refl _ _))).nod.free 1
     have hkx2 : nkx ≤ 1048576 := by
      have h1 := HNKX.out
      simp at h1
      have h2 := HBR.out.2.1
      omega
     have HFIN : Hid (∀ z o, Below u2.drew.heap.size u2.drew z → ∀ a5 n5 c5 w5, w5.ownsRow 0 9 1 (.slice a5 n5 c5) (nkx + 1) (((ks.take (k' + 1)).tail.map T.least).map Value.string ++ [.string (tAt ks (k' + 1)).least]) → (z.alloc o).grownBy w5 (Value.slice akx nkx ckx).ownBlock → ((Value.slice a5 n5 c5).ownBlock = (Value.slice akx nkx ckx).ownBlock ∨ (Value.slice a5 n5 c5).ownBlock = some (z.alloc o).heap.size) →
       LyI w (w5.setCell ⟨w1.heap.size, 1, none⟩ (.slice a5 n5 c5)) F (.slice av nv cv) (.slice a' n' c') (.bool false) (.slice ap np cp) (.slice (some ⟨gk, ofk, none⟩) nk ck) w1.heap.size (.slice a5 n5 c5) (.slice ai2 ni2 ci2) Fk (ns ++ ⟨[], [], []⟩ :: layL (ns.length + 1) (ks.take (k' + 1))) ((ks.take (k' + 1 + 1)).tail.map T.least) (places (ns.length + 1) (ks.take (k' + 1 + 1)))) := fun z o hz a5 n5 c5 w5 hO hg ha => by
      have h1 := (((HL2.out.keep (below_drew _)).keep hz).keep (below_new (o := o) (Below.refl _ _))).addKey (tAt ks (k' + 1)).least (by rw [HNKX.out]; exact hO) hg ha
      rw [keys_take ks k' hks]
      exact h1
     clear hkid hs1 HSUB2
     go_wp2_with fail
     clear hU2
     refine wp_region_noPanic ?_
     refine wp_region_held_drew (S := (fun z => z.cell? ⟨w.heap.size, 2, none⟩ = some (.slice (some ⟨gk, ofk, none⟩) nk ck) ∧ z.cell? ⟨gk, ofk + (k' + 1) * 3, none⟩ = some (.bool l1) ∧ z.cell? ⟨gk, ofk + (k' + 1) * 3 + 1, none⟩ = some (.slice ap1 np1 cp1) ∧ z.cell? ⟨gk, ofk + (k' + 1) * 3 + 2, none⟩ = some (.slice ak1 nk1 ck1) ∧ KO (fun y => (Value.slice akx nkx ckx).ownBlock = some y ∨ y = w1.heap.size) u2 z [(⟨w.heap.size, 2, none⟩, .slice (some ⟨gk, ofk, none⟩) nk ck), (⟨gk, ofk + (k' + 1) * 3, none⟩, .bool l1), (⟨gk, ofk + (k' + 1) * 3 + 1, none⟩, .slice ap1 np1 cp1), (⟨gk, ofk + (k' + 1) * 3 + 2, none⟩, .slice ak1 nk1 ck1)])) (by kernel_rfl) ?_ (fun hHeld => ?_)
     ·exact ko4 ⟨T0.out.cells, only_drew _ _ 1⟩
     simp only [List.size_toArray, List.length_cons, List.length_nil, Array.replicate_succ, Array.replicate_zero, Nat.reduceAdd, List.push_toArray, List.nil_append, List.cons_append]
     refine wpAnyH_take (i := 0) (v := .pointer (some ⟨w1.heap.size, 1, none⟩)) rfl (by kernel_rfl) (by kernel_rfl) (by kernel_rfl) (fun _ _ _ h => h) (Or.inl ⟨by rfl, ?_⟩) (by assumption) ?_
     ·intro w hSw
      obtain ⟨g1', g2', g3', g4', _⟩ := hSw
      go_simp
     try simp only [List.getElem_toArray]
     try simp only [List.getElem_cons_succ]
     try simp only [List.getElem_cons_zero]
     try simp only [Act.put]
     try simp only [List.setIfInBounds_toArray]
     try simp only [List.set_cons_succ]
     try simp only [List.set_cons_zero]
     refine wpAnyH_take (i := 2) (v := .pointer (some ⟨w.heap.size, 2, none⟩)) rfl (by kernel_rfl) (by kernel_rfl) (by kernel_rfl) (fun _ _ _ h => h) (Or.inl ⟨by rfl, ?_⟩) (by assumption) ?_
     ·intro w hSw
      obtain ⟨g1', g2', g3', g4', _⟩ := hSw
      go_simp
     try simp only [List.getElem_toArray]
     try simp only [List.getElem_cons_succ]
     try simp only [List.getElem_cons_zero]
     try simp only [Act.put]
     try simp only [List.setIfInBounds_toArray]
     try simp only [List.set_cons_succ]
     try simp only [List.set_cons_zero]
     refine wpAnyH_take (i := 3) (v := .slice (some ⟨gk, ofk, none⟩) nk ck) rfl (by kernel_rfl) (by kernel_rfl) (by kernel_rfl) (fun _ _ _ h => h) (Or.inl ⟨by rfl, ?_⟩) (by assumption) ?_
     ·intro w hSw
      obtain ⟨g1', g2', g3', g4', _⟩ := hSw
      go_simp
     try simp only [List.getElem_toArray]
     try simp only [List.getElem_cons_succ]
     try simp only [List.getElem_cons_zero]
     try simp only [Act.put]
     try simp only [List.setIfInBounds_toArray]
     try simp only [List.set_cons_succ]
     try simp only [List.set_cons_zero]
     refine wpAnyH_take (i := 4) (v := .int .i64 ((k' + 1 : Nat) : Int)) rfl (by kernel_rfl) (by kernel_rfl) (by kernel_rfl) (fun _ _ _ h => h) (Or.inl ⟨by rfl, ?_⟩) (by assumption) ?_
     ·intro w hSw
      obtain ⟨g1', g2', g3', g4', _⟩ := hSw
      go_simp
     try simp only [List.getElem_toArray]
     try simp only [List.getElem_cons_succ]
     try simp only [List.getElem_cons_zero]
     try simp only [Act.put]
     try simp only [List.setIfInBounds_toArray]
     try simp only [List.set_cons_succ]
     try simp only [List.set_cons_zero]
     refine wpAnyH_take (i := 5) (v := .pointer (some ⟨gk, ofk + (k' + 1) * 3, none⟩)) rfl (by kernel_rfl) (by kernel_rfl) (by kernel_rfl) (fun _ _ _ h => h) (Or.inl ⟨by rfl, ?_⟩) (by assumption) ?_
     ·intro w hSw
      obtain ⟨g1', g2', g3', g4', _⟩ := hSw
      go_simp
     try simp only [List.getElem_toArray]
     try simp only [List.getElem_cons_succ]
     try simp only [List.getElem_cons_zero]
     try simp only [Act.put]
     try simp only [List.setIfInBounds_toArray]
     try simp only [List.set_cons_succ]
     try simp only [List.set_cons_zero]
     refine wpAnyH_take (i := 6) (v := .agg #[.bool l1, .slice ap1 np1 cp1, .slice ak1 nk1 ck1]) rfl (by kernel_rfl) (by kernel_rfl) (by kernel_rfl) (fun _ _ _ h => h) (Or.inl ⟨by rfl, ?_⟩) (by assumption) ?_
     ·intro w hSw
      obtain ⟨g1', g2', g3', g4', _⟩ := hSw
      go_simp
     try simp only [List.getElem_toArray]
     try simp only [List.getElem_cons_succ]
     try simp only [List.getElem_cons_zero]
     try simp only [Act.put]
     try simp only [List.setIfInBounds_toArray]
     try simp only [List.set_cons_succ]
     try simp only [List.set_cons_zero]
     refine wpAnyH_ready (rs := [1, 7]) (by kernel_rfl) (by simp) ?_
     refine AllReadyH.cons rfl (fun K1 hK => ?_) (AllReadyH.cons rfl (fun K1 hK => ?_) AllReadyH.nil)
     ·skip
      go_simp
      try go_wp2_with fail
      refine hK.out _ _ ?_ (fun hHeld => ?_)
      ·first | assumption | exact ko4 ⟨T0.out.cells, only_drew _ _ 1⟩ | exact ko4o (only_of_below hbC _) (by assumption) | exact ko4o (only_alloc _ _ _) (by assumption) | exact ko4o (only_of_grown hg5 (fun y e => .inl e)) (by assumption) | exact ko4o (only_set (.inr rfl) _) (by assumption)
      clear hK K1
      try simp only [List.getElem_toArray]
      try simp only [List.getElem_cons_succ]
      try simp only [List.getElem_cons_zero]
      try simp only [Act.put]
      try simp only [List.setIfInBounds_toArray]
      try simp only [List.set_cons_succ]
      try simp only [List.set_cons_zero]
      refine wpAnyH_ready (rs := [7]) (by kernel_rfl) (by simp) ?_
      refine AllReadyH.cons rfl (fun K1 hK => ?_) AllReadyH.nil
      go_simp
      refine (HLE.out _ (below_drew _)).mono ?_
      rintro e w' ⟨rfl, hbC⟩
      have hq1 := (HCK.out _ hbC).1
      have hq2 := (HCK.out _ hbC).2
      go_wp2_with fail
      refine hK.out _ _ ?_ (fun hHeld => ?_)
      ·first | assumption | exact ko4 ⟨T0.out.cells, only_drew _ _ 1⟩ | exact ko4o (only_of_below hbC _) (by assumption) | exact ko4o (only_alloc _ _ _) (by assumption) | exact ko4o (only_of_grown hg5 (fun y e => .inl e)) (by assumption) | exact ko4o (only_set (.inr rfl) _) (by assumption)
      clear hK K1
      try simp only [List.getElem_toArray]
      try simp only [List.getElem_cons_succ]
      try simp only [List.getElem_cons_zero]
      try simp only [Act.put]
      try simp only [List.setIfInBounds_toArray]
      try simp only [List.set_cons_succ]
      try simp only [List.set_cons_zero]
      refine wpAnyH_ready (rs := [8]) (by kernel_rfl) (by simp) ?_
      refine AllReadyH.cons rfl (fun K1 hK => ?_) AllReadyH.nil
      go_simp
      try go_wp2_with fail
      refine hK.out _ _ ?_ (fun hHeld => ?_)
      ·first | assumption | exact ko4 ⟨T0.out.cells, only_drew _ _ 1⟩ | exact ko4o (only_of_below hbC _) (by assumption) | exact ko4o (only_alloc _ _ _) (by assumption) | exact ko4o (only_of_grown hg5 (fun y e => .inl e)) (by assumption) | exact ko4o (only_set (.inr rfl) _) (by assumption)
      clear hK K1
      try simp only [List.getElem_toArray]
      try simp only [List.getElem_cons_succ]
      try simp only [List.getElem_cons_zero]
      try simp only [Act.put]
      try simp only [List.setIfInBounds_toArray]
      try simp only [List.set_cons_succ]
      try simp only [List.set_cons_zero]
      refine wpAnyH_ready (rs := [9]) (by kernel_rfl) (by simp) ?_
      refine AllReadyH.cons rfl (fun K1 hK => ?_) AllReadyH.nil
      refine step_append_str1 rfl _ _ rfl _ nkx _ rfl (HOW.out _ _ hbC) _ (tAt ks (k' + 1)).least rfl (by simp) hkx2 w1.heap.size 1 _ (hq2 _) (HFK.out _ _ hbC) hnbx ?_
      intro a5 n5 c5 w5 hO5 hg5 ha5 hc5 hf5
      refine hK.out _ _ ?_ (fun hHeld => ?_)
      ·first | assumption | exact ko4 ⟨T0.out.cells, only_drew _ _ 1⟩ | exact ko4o (only_of_below hbC _) (by assumption) | exact ko4o (only_alloc _ _ _) (by assumption) | exact ko4o (only_of_grown hg5 (fun y e => .inl e)) (by assumption) | exact ko4o (only_set (.inr rfl) _) (by assumption)
      clear hK K1
      try simp only [List.getElem_toArray]
      try simp only [List.getElem_cons_succ]
      try simp only [List.getElem_cons_zero]
      try simp only [Act.put]
      try simp only [List.setIfInBounds_toArray]
      try simp only [List.set_cons_succ]
      try simp only [List.set_cons_zero]
      refine wpAnyH_ready (rs := [10]) (by kernel_rfl) (by simp) ?_
      refine AllReadyH.cons rfl (fun K1 hK => ?_) AllReadyH.nil
      go_simp
      try go_wp2_with fail
      refine hK.out _ _ ?_ (fun hHeld => ?_)
      ·first | assumption | exact ko4 ⟨T0.out.cells, only_drew _ _ 1⟩ | exact ko4o (only_of_below hbC _) (by assumption) | exact ko4o (only_alloc _ _ _) (by assumption) | exact ko4o (only_of_grown hg5 (fun y e => .inl e)) (by assumption) | exact ko4o (only_set (.inr rfl) _) (by assumption)
      clear hK K1
      try simp only [List.getElem_toArray]
      try simp only [List.getElem_cons_succ]
      try simp only [List.getElem_cons_zero]
      try simp only [Act.put]
      try simp only [List.setIfInBounds_toArray]
      try simp only [List.set_cons_succ]
      try simp only [List.set_cons_zero]
      refine wpAnyH_ready (rs := [11]) (by kernel_rfl) (by simp) ?_
      refine AllReadyH.cons rfl (fun K1 hK => ?_) AllReadyH.nil
      go_simp
      try go_wp2_with fail
      refine hK.out _ _ ?_ (fun hHeld => ?_)
      ·first | assumption | exact ko4 ⟨T0.out.cells, only_drew _ _ 1⟩ | exact ko4o (only_of_below hbC _) (by assumption) | exact ko4o (only_alloc _ _ _) (by assumption) | exact ko4o (only_of_grown hg5 (fun y e => .inl e)) (by assumption) | exact ko4o (only_set (.inr rfl) _) (by assumption)
      clear hK K1
      try simp only [List.getElem_toArray]
      try simp only [List.getElem_cons_succ]
      try simp only [List.getElem_cons_zero]
      try simp only [Act.put]
      try simp only [List.setIfInBounds_toArray]
      try simp only [List.set_cons_succ]
      try simp only [List.set_cons_zero]
      refine wpAnyH_done (by kernel_rfl) ?_ _
      refine NoPanic.normal ?_
      have HLX := hid (HFIN.out _ _ hbC _ _ _ _ hO5 hg5 ha5)
      clear hO5 hg5 ha5 hc5 hf5 hbC hq1 hq2 HFIN HFK HCK HOW HLE T0 hgk hpb hnbx HL2 z2 zf n1c n1f pp2 x0 x1 x2 hHeld
      -- the kid's nodes
      have HSUBX := hid (HSUB.out.to HLX.out.only (fun y hy _ e => HSV.out y hy.1 e))
      obtain ⟨gk9, ofk9, hak, _, _, hkid⟩ := HSUBX.out.kids (by omega)
      cases hak
      obtain ⟨l9, ap9, np9, cp9, ak9, nk9, ck9, x0, x1, x2, hs1⟩ := hkid (k' + 1) hlt
      have HS1 := hid hs1
      have pp2 := HLX.out.par.cell (j := 2) rfl
      have HLEN : Hid ((ns ++ ⟨[], [], []⟩ :: layL (ns.length + 1) (ks.take (k' + 1))).length = ns.length + 1 + szL (ks.take (k' + 1))) := by show _ = _; simp [layL_length]; omega
      have HEQ : Hid ((ns ++ ⟨[], [], []⟩ :: layL (ns.length + 1) (ks.take (k' + 1))) ++ lay (ns ++ ⟨[], [], []⟩ :: layL (ns.length + 1) (ks.take (k' + 1))).length (tAt ks (k' + 1)) = ns ++ ⟨[], [], []⟩ :: layL (ns.length + 1) (ks.take (k' + 1 + 1))) := by
       show _ = _
       rw [HLEN.out, layL_take ks (k' + 1) (ns.length + 1) hks]
       simp
      have HBND : Hid ((ns ++ ⟨[], [], []⟩ :: layL (ns.length + 1) (ks.take (k' + 1))).length + (tAt ks (k' + 1)).size ≤ 1048576) := by
       show _ ≤ _
       have h1 := szL_take_le ks (k' + 1 + 1)
       rw [szL_take ks (k' + 1) hks] at h1
       have h2 := HSZK.out
       rw [HLEN.out]
       omega
      have HVS : Hid (∀ y, (S y ∧ y < w.heap.size) → (Value.slice a' n' c').ownBlock ≠ some y) := by
       intro y hy e
       rcases (HLX.out.vb y e).1 with h | h
       ·exact HSV.out y hy.1 h
       ·omega
      simp only [T.ks] at HS1
      clear hkid hs1 HSUBX
      go_wp2_with fail
      refine (HIH.out (tAt ks (k' + 1)) (tAt_mem hks) (fun y => S y ∧ y < w.heap.size) l9 ap9 ak9 np9 cp9 nk9 ck9 _ Fk a' n' c' (ns ++ ⟨[], [], []⟩ :: layL (ns.length + 1) (ks.take (k' + 1))) false HS1.out HVS.out HLX.out.nodes HBND.out (HBR.out.2.2.2 _ (tAt_mem hks))).mono ?_
      rintro e w9 ⟨v9, rfl, hN9, ho9, hv9⟩
      rw [HEQ.out] at hN9
      obtain ⟨aZ, nZ, cZ, e9, _⟩ := hN9.shape
      subst e9
      have HL9 := hid (HLX.out.sub hN9 ho9 hv9)
      clear hN9 ho9 hv9 x0 x1 x2 pp2 HLX HS1
      go_wp2
      go_roundw
      case rel => exact ⟨k' + 1 + 1, aZ, nZ, cZ, _, _, _, by omega, by go_num, rfl, HL9.out⟩
      case measure => simp [intOf]; omega
     ·skip
      go_simp
      refine (HLE.out _ (below_drew _)).mono ?_
      rintro e w' ⟨rfl, hbC⟩
      have hq1 := (HCK.out _ hbC).1
      have hq2 := (HCK.out _ hbC).2
      go_wp2_with fail
      refine hK.out _ _ ?_ (fun hHeld => ?_)
      ·first | assumption | exact ko4 ⟨T0.out.cells, only_drew _ _ 1⟩ | exact ko4o (only_of_below hbC _) (by assumption) | exact ko4o (only_alloc _ _ _) (by assumption) | exact ko4o (only_of_grown hg5 (fun y e => .inl e)) (by assumption) | exact ko4o (only_set (.inr rfl) _) (by assumption)
      clear hK K1
      try simp only [List.getElem_toArray]
      try simp only [List.getElem_cons_succ]
      try simp only [List.getElem_cons_zero]
      try simp only [Act.put]
      try simp only [List.setIfInBounds_toArray]
      try simp only [List.set_cons_succ]
      try simp only [List.set_cons_zero]
      refine wpAnyH_ready (rs := [1, 8]) (by kernel_rfl) (by simp) ?_
      refine AllReadyH.cons rfl (fun K1 hK => ?_) (AllReadyH.cons rfl (fun K1 hK => ?_) AllReadyH.nil)
      ·skip
       go_simp
       try go_wp2_with fail
       refine hK.out _ _ ?_ (fun hHeld => ?_)
       ·first | assumption | exact ko4 ⟨T0.out.cells, only_drew _ _ 1⟩ | exact ko4o (only_of_below hbC _) (by assumption) | exact ko4o (only_alloc _ _ _) (by assumption) | exact ko4o (only_of_grown hg5 (fun y e => .inl e)) (by assumption) | exact ko4o (only_set (.inr rfl) _) (by assumption)
       clear hK K1
       try simp only [List.getElem_toArray]
       try simp only [List.getElem_cons_succ]
       try simp only [List.getElem_cons_zero]
       try simp only [Act.put]
       try simp only [List.setIfInBounds_toArray]
       try simp only [List.set_cons_succ]
       try simp only [List.set_cons_zero]
       refine wpAnyH_ready (rs := [8]) (by kernel_rfl) (by simp) ?_
       refine AllReadyH.cons rfl (fun K1 hK => ?_) AllReadyH.nil
       go_simp
       try go_wp2_with fail
       refine hK.out _ _ ?_ (fun hHeld => ?_)
       ·first | assumption | exact ko4 ⟨T0.out.cells, only_drew _ _ 1⟩ | exact ko4o (only_of_below hbC _) (by assumption) | exact ko4o (only_alloc _ _ _) (by assumption) | exact ko4o (only_of_grown hg5 (fun y e => .inl e)) (by assumption) | exact ko4o (only_set (.inr rfl) _) (by assumption)
       clear hK K1
       try simp only [List.getElem_toArray]
       try simp only [List.getElem_cons_succ]
       try simp only [List.getElem_cons_zero]
       try simp only [Act.put]
       try simp only [List.setIfInBounds_toArray]
       try simp only [List.set_cons_succ]
       try simp only [List.set_cons_zero]
       refine wpAnyH_ready (rs := [9]) (by kernel_rfl) (by simp) ?_
       refine AllReadyH.cons rfl (fun K1 hK => ?_) AllReadyH.nil
       refine step_append_str1 rfl _ _ rfl _ nkx _ rfl (HOW.out _ _ hbC) _ (tAt ks (k' + 1)).least rfl (by simp) hkx2 w1.heap.size 1 _ (hq2 _) (HFK.out _ _ hbC) hnbx ?_
       intro a5 n5 c5 w5 hO5 hg5 ha5 hc5 hf5
       refine hK.out _ _ ?_ (fun hHeld => ?_)
       ·first | assumption | exact ko4 ⟨T0.out.cells, only_drew _ _ 1⟩ | exact ko4o (only_of_below hbC _) (by assumption) | exact ko4o (only_alloc _ _ _) (by assumption) | exact ko4o (only_of_grown hg5 (fun y e => .inl e)) (by assumption) | exact ko4o (only_set (.inr rfl) _) (by assumption)
       clear hK K1
       try simp only [List.getElem_toArray]
       try simp only [List.getElem_cons_succ]
       try simp only [List.getElem_cons_zero]
       try simp only [Act.put]
       try simp only [List.setIfInBounds_toArray]
       try simp only [List.set_cons_succ]
       try simp only [List.set_cons_zero]
       refine wpAnyH_ready (rs := [10]) (by kernel_rfl) (by simp) ?_
       refine AllReadyH.cons rfl (fun K1 hK => ?_) AllReadyH.nil
       go_simp
       try go_wp2_with fail
       refine hK.out _ _ ?_ (fun hHeld => ?_)
       ·first | assumption | exact ko4 ⟨T0.out.cells, only_drew _ _ 1⟩ | exact ko4o (only_of_below hbC _) (by assumption) | exact ko4o (only_alloc _ _ _) (by assumption) | exact ko4o (only_of_grown hg5 (fun y e => .inl e)) (by assumption) | exact ko4o (only_set (.inr rfl) _) (by assumption)
       clear hK K1
       try simp only [List.getElem_toArray]
       try simp only [List.getElem_cons_succ]
       try simp only [List.getElem_cons_zero]
       try simp only [Act.put]
       try simp only [List.setIfInBounds_toArray]
       try simp only [List.set_cons_succ]
       try simp only [List.set_cons_zero]
       refine wpAnyH_ready (rs := [11]) (by kernel_rfl) (by simp) ?_
       refine AllReadyH.cons rfl (fun K1 hK => ?_) AllReadyH.nil
       go_simp
       try go_wp2_with fail
       refine hK.out _ _ ?_ (fun hHeld => ?_)
       ·first | assumption | exact ko4 ⟨T0.out.cells, only_drew _ _ 1⟩ | exact ko4o (only_of_below hbC _) (by assumption) | exact ko4o (only_alloc _ _ _) (by assumption) | exact ko4o (only_of_grown hg5 (fun y e => .inl e)) (by assumption) | exact ko4o (only_set (.inr rfl) _) (by assumption)
       clear hK K1
       try simp only [List.getElem_toArray]
       try simp only [List.getElem_cons_succ]
       try simp only [List.getElem_cons_zero]
       try simp only [Act.put]
       try simp only [List.setIfInBounds_toArray]
       try simp only [List.set_cons_succ]
       try simp only [List.set_cons_zero]
       refine wpAnyH_done (by kernel_rfl) ?_ _
       refine NoPanic.normal ?_
       have HLX := hid (HFIN.out _ _ hbC _ _ _ _ hO5 hg5 ha5)
       clear hO5 hg5 ha5 hc5 hf5 hbC hq1 hq2 HFIN HFK HCK HOW HLE T0 hgk hpb hnbx HL2 z2 zf n1c n1f pp2 x0 x1 x2 hHeld
       -- the kid's nodes
       have HSUBX := hid (HSUB.out.to HLX.out.only (fun y hy _ e => HSV.out y hy.1 e))
       obtain ⟨gk9, ofk9, hak, _, _, hkid⟩ := HSUBX.out.kids (by omega)
       cases hak
       obtain ⟨l9, ap9, np9, cp9, ak9, nk9, ck9, x0, x1, x2, hs1⟩ := hkid (k' + 1) hlt
       have HS1 := hid hs1
       have pp2 := HLX.out.par.cell (j := 2) rfl
       have HLEN : Hid ((ns ++ ⟨[], [], []⟩ :: layL (ns.length + 1) (ks.take (k' + 1))).length = ns.length + 1 + szL (ks.take (k' + 1))) := by show _ = _; simp [layL_length]; omega
       have HEQ : Hid ((ns ++ ⟨[], [], []⟩ :: layL (ns.length + 1) (ks.take (k' + 1))) ++ lay (ns ++ ⟨[], [], []⟩ :: layL (ns.length + 1) (ks.take (k' + 1))).length (tAt ks (k' + 1)) = ns ++ ⟨[], [], []⟩ :: layL (ns.length + 1) (ks.take (k' + 1 + 1))) := by
        show _ = _
        rw [HLEN.out, layL_take ks (k' + 1) (ns.length + 1) hks]
        simp
       have HBND : Hid ((ns ++ ⟨[], [], []⟩ :: layL (ns.length + 1) (ks.take (k' + 1))).length + (tAt ks (k' + 1)).size ≤ 1048576) := by
        show _ ≤ _
        have h1 := szL_take_le ks (k' + 1 + 1)
        rw [szL_take ks (k' + 1) hks] at h1
        have h2 := HSZK.out
        rw [HLEN.out]
        omega
       have HVS : Hid (∀ y, (S y ∧ y < w.heap.size) → (Value.slice a' n' c').ownBlock ≠ some y) := by
        intro y hy e
        rcases (HLX.out.vb y e).1 with h | h
        ·exact HSV.out y hy.1 h
        ·omega
       simp only [T.ks] at HS1
       clear hkid hs1 HSUBX
       go_wp2_with fail
       refine (HIH.out (tAt ks (k' + 1)) (tAt_mem hks) (fun y => S y ∧ y < w.heap.size) l9 ap9 ak9 np9 cp9 nk9 ck9 _ Fk a' n' c' (ns ++ ⟨[], [], []⟩ :: layL (ns.length + 1) (ks.take (k' + 1))) false HS1.out HVS.out HLX.out.nodes HBND.out (HBR.out.2.2.2 _ (tAt_mem hks))).mono ?_
       rintro e w9 ⟨v9, rfl, hN9, ho9, hv9⟩
       rw [HEQ.out] at hN9
       obtain ⟨aZ, nZ, cZ, e9, _⟩ := hN9.shape
       subst e9
       have HL9 := hid (HLX.out.sub hN9 ho9 hv9)
       clear hN9 ho9 hv9 x0 x1 x2 pp2 HLX HS1
       go_wp2
       go_roundw
       case rel => exact ⟨k' + 1 + 1, aZ, nZ, cZ, _, _, _, by omega, by go_num, rfl, HL9.out⟩
       case measure => simp [intOf]; omega
      ·skip
       go_simp
       try go_wp2_with fail
       refine hK.out _ _ ?_ (fun hHeld => ?_)
       ·first | assumption | exact ko4 ⟨T0.out.cells, only_drew _ _ 1⟩ | exact ko4o (only_of_below hbC _) (by assumption) | exact ko4o (only_alloc _ _ _) (by assumption) | exact ko4o (only_of_grown hg5 (fun y e => .inl e)) (by assumption) | exact ko4o (only_set (.inr rfl) _) (by assumption)
       clear hK K1
       try simp only [List.getElem_toArray]
       try simp only [List.getElem_cons_succ]
       try simp only [List.getElem_cons_zero]
       try simp only [Act.put]
       try simp only [List.setIfInBounds_toArray]
       try simp only [List.set_cons_succ]
       try simp only [List.set_cons_zero]
       refine wpAnyH_ready (rs := [1]) (by kernel_rfl) (by simp) ?_
       refine AllReadyH.cons rfl (fun K1 hK => ?_) AllReadyH.nil
       go_simp
       try go_wp2_with fail
       refine hK.out _ _ ?_ (fun hHeld => ?_)
       ·first | assumption | exact ko4 ⟨T0.out.cells, only_drew _ _ 1⟩ | exact ko4o (only_of_below hbC _) (by assumption) | exact ko4o (only_alloc _ _ _) (by assumption) | exact ko4o (only_of_grown hg5 (fun y e => .inl e)) (by assumption) | exact ko4o (only_set (.inr rfl) _) (by assumption)
       clear hK K1
       try simp only [List.getElem_toArray]
       try simp only [List.getElem_cons_succ]
       try simp only [List.getElem_cons_zero]
       try simp only [Act.put]
       try simp only [List.setIfInBounds_toArray]
       try simp only [List.set_cons_succ]
       try simp only [List.set_cons_zero]
       refine wpAnyH_ready (rs := [9]) (by kernel_rfl) (by simp) ?_
       refine AllReadyH.cons rfl (fun K1 hK => ?_) AllReadyH.nil
       refine step_append_str1 rfl _ _ rfl _ nkx _ rfl (HOW.out _ _ hbC) _ (tAt ks (k' + 1)).least rfl (by simp) hkx2 w1.heap.size 1 _ (hq2 _) (HFK.out _ _ hbC) hnbx ?_
       intro a5 n5 c5 w5 hO5 hg5 ha5 hc5 hf5
       refine hK.out _ _ ?_ (fun hHeld => ?_)
       ·first | assumption | exact ko4 ⟨T0.out.cells, only_drew _ _ 1⟩ | exact ko4o (only_of_below hbC _) (by assumption) | exact ko4o (only_alloc _ _ _) (by assumption) | exact ko4o (only_of_grown hg5 (fun y e => .inl e)) (by assumption) | exact ko4o (only_set (.inr rfl) _) (by assumption)
       clear hK K1
       try simp only [List.getElem_toArray]
       try simp only [List.getElem_cons_succ]
       try simp only [List.getElem_cons_zero]
       try simp only [Act.put]
       try simp only [List.setIfInBounds_toArray]
       try simp only [List.set_cons_succ]
       try simp only [List.set_cons_zero]
       refine wpAnyH_ready (rs := [10]) (by kernel_rfl) (by simp) ?_
       refine AllReadyH.cons rfl (fun K1 hK => ?_) AllReadyH.nil
       go_simp
       try go_wp2_with fail
       refine hK.out _ _ ?_ (fun hHeld => ?_)
       ·first | assumption | exact ko4 ⟨T0.out.cells, only_drew _ _ 1⟩ | exact ko4o (only_of_below hbC _) (by assumption) | exact ko4o (only_alloc _ _ _) (by assumption) | exact ko4o (only_of_grown hg5 (fun y e => .inl e)) (by assumption) | exact ko4o (only_set (.inr rfl) _) (by assumption)
       clear hK K1
       try simp only [List.getElem_toArray]
       try simp only [List.getElem_cons_succ]
       try simp only [List.getElem_cons_zero]
       try simp only [Act.put]
       try simp only [List.setIfInBounds_toArray]
       try simp only [List.set_cons_succ]
       try simp only [List.set_cons_zero]
       refine wpAnyH_ready (rs := [11]) (by kernel_rfl) (by simp) ?_
       refine AllReadyH.cons rfl (fun K1 hK => ?_) AllReadyH.nil
       go_simp
       try go_wp2_with fail
       refine hK.out _ _ ?_ (fun hHeld => ?_)
       ·first | assumption | exact ko4 ⟨T0.out.cells, only_drew _ _ 1⟩ | exact ko4o (only_of_below hbC _) (by assumption) | exact ko4o (only_alloc _ _ _) (by assumption) | exact ko4o (only_of_grown hg5 (fun y e => .inl e)) (by assumption) | exact ko4o (only_set (.inr rfl) _) (by assumption)
       clear hK K1
       try simp only [List.getElem_toArray]
       try simp only [List.getElem_cons_succ]
       try simp only [List.getElem_cons_zero]
       try simp only [Act.put]
       try simp only [List.setIfInBounds_toArray]
       try simp only [List.set_cons_succ]
       try simp only [List.set_cons_zero]
       refine wpAnyH_done (by kernel_rfl) ?_ _
       refine NoPanic.normal ?_
       have HLX := hid (HFIN.out _ _ hbC _ _ _ _ hO5 hg5 ha5)
       clear hO5 hg5 ha5 hc5 hf5 hbC hq1 hq2 HFIN HFK HCK HOW HLE T0 hgk hpb hnbx HL2 z2 zf n1c n1f pp2 x0 x1 x2 hHeld
       -- the kid's nodes
       have HSUBX := hid (HSUB.out.to HLX.out.only (fun y hy _ e => HSV.out y hy.1 e))
       obtain ⟨gk9, ofk9, hak, _, _, hkid⟩ := HSUBX.out.kids (by omega)
       cases hak
       obtain ⟨l9, ap9, np9, cp9, ak9, nk9, ck9, x0, x1, x2, hs1⟩ := hkid (k' + 1) hlt
       have HS1 := hid hs1
       have pp2 := HLX.out.par.cell (j := 2) rfl
       have HLEN : Hid ((ns ++ ⟨[], [], []⟩ :: layL (ns.length + 1) (ks.take (k' + 1))).length = ns.length + 1 + szL (ks.take (k' + 1))) := by show _ = _; simp [layL_length]; omega
       have HEQ : Hid ((ns ++ ⟨[], [], []⟩ :: layL (ns.length + 1) (ks.take (k' + 1))) ++ lay (ns ++ ⟨[], [], []⟩ :: layL (ns.length + 1) (ks.take (k' + 1))).length (tAt ks (k' + 1)) = ns ++ ⟨[], [], []⟩ :: layL (ns.length + 1) (ks.take (k' + 1 + 1))) := by
        show _ = _
        rw [HLEN.out, layL_take ks (k' + 1) (ns.length + 1) hks]
        simp
       have HBND : Hid ((ns ++ ⟨[], [], []⟩ :: layL (ns.length + 1) (ks.take (k' + 1))).length + (tAt ks (k' + 1)).size ≤ 1048576) := by
        show _ ≤ _
        have h1 := szL_take_le ks (k' + 1 + 1)
        rw [szL_take ks (k' + 1) hks] at h1
        have h2 := HSZK.out
        rw [HLEN.out]
        omega
       have HVS : Hid (∀ y, (S y ∧ y < w.heap.size) → (Value.slice a' n' c').ownBlock ≠ some y) := by
        intro y hy e
        rcases (HLX.out.vb y e).1 with h | h
        ·exact HSV.out y hy.1 h
        ·omega
       simp only [T.ks] at HS1
       clear hkid hs1 HSUBX
       go_wp2_with fail
       refine (HIH.out (tAt ks (k' + 1)) (tAt_mem hks) (fun y => S y ∧ y < w.heap.size) l9 ap9 ak9 np9 cp9 nk9 ck9 _ Fk a' n' c' (ns ++ ⟨[], [], []⟩ :: layL (ns.length + 1) (ks.take (k' + 1))) false HS1.out HVS.out HLX.out.nodes HBND.out (HBR.out.2.2.2 _ (tAt_mem hks))).mono ?_
       rintro e w9 ⟨v9, rfl, hN9, ho9, hv9⟩
       rw [HEQ.out] at hN9
       obtain ⟨aZ, nZ, cZ, e9, _⟩ := hN9.shape
       subst e9
       have HL9 := hid (HLX.out.sub hN9 ho9 hv9)
       clear hN9 ho9 hv9 x0 x1 x2 pp2 HLX HS1
       go_wp2
       go_roundw
       case rel => exact ⟨k' + 1 + 1, aZ, nZ, cZ, _, _, _, by omega, by go_num, rfl, HL9.out⟩
       case measure => simp [intOf]; omega
   ·have hk' : k = nk := by omega
    have HTK : Hid (ks.take k = ks) := by show _ = _; rw [hk', HNK.out, List.take_length]
    rw [HTK.out] at HL
    obtain ⟨g', ha', HNn⟩ := HL.out.nodes.rowAt (by simp; omega)
    subst ha'
    obtain ⟨akx, ckx, hkx⟩ := own_shape HL.out.rx
    generalize (ks.tail.map T.least).length = nkx at hkx
    subst hkx
    obtain ⟨aki, cki, hki⟩ := own_shape HL.out.ri
    generalize (places (ns.length + 1) ks).length = nki at hki
    subst hki
    have n0 := HL.out.nod.cell (j := 0) rfl
    have n1c := HL.out.nod.cell (j := 1) rfl
    have n2c := HL.out.nod.cell (j := 2) rfl
    obtain ⟨⟨x0, x1, x2, m0, m1, m2⟩, mf⟩ := HL.out.nodes.cells ns.length (by simp)
    rw [← HNV.out] at m0 m1 m2
    have mf0 := mf (nv * 3)
    have mf1 := mf (nv * 3 + 1)
    have mf2 := mf (nv * 3 + 2)
    have hltn : (nv : Int) < (n' : Int) := by
     have h1 := HNn.out
     simp at h1
     have h2 := HNV.out
     omega
    have HFIN : Hid (NO (((wr.setCell ⟨g', nv * 3, none⟩ (.slice none 0 0)).setCell ⟨g', nv * 3 + 1, none⟩ (.slice akx nkx ckx)).setCell ⟨g', nv * 3 + 2, none⟩ (.slice aki nki cki)) (fun y => F y ∨ (w.heap.size ≤ y ∧ y < (((wr.setCell ⟨g', nv * 3, none⟩ (.slice none 0 0)).setCell ⟨g', nv * 3 + 1, none⟩ (.slice akx nkx ckx)).setCell ⟨g', nv * 3 + 2, none⟩ (.slice aki nki cki)).heap.size ∧ (Value.slice (some ⟨g', 0, none⟩) n' c').ownBlock ≠ some y)) (.slice (some ⟨g', 0, none⟩) n' c') (ns ++ ⟨[], ks.tail.map T.least, places (ns.length + 1) ks⟩ :: layL (ns.length + 1) ks)) := by
     have hz : (((wr.setCell ⟨g', nv * 3, none⟩ (.slice none 0 0)).setCell ⟨g', nv * 3 + 1, none⟩ (.slice akx nkx ckx)).setCell ⟨g', nv * 3 + 2, none⟩ (.slice aki nki cki)).heap.size = wr.heap.size := by simp [World.setCell]
     rw [hz]
     have hG : ∀ y, (fun y => F y ∨ (w.heap.size ≤ y ∧ y < wr.heap.size ∧ (Value.slice (some ⟨g', 0, none⟩) n' c').ownBlock ≠ some y)) y → y < wr.heap.size ∧ (Value.slice (some ⟨g', 0, none⟩) n' c').ownBlock ≠ some y := by
      rintro y (hy | hy)
      ·obtain ⟨V, _, _, _, n4, _⟩ := HL.out.nodes
       exact n4 y (HL.out.ff y hy)
      ·exact hy.2
     have hbl : ∀ y, bl (.slice none 0 0, .slice akx nkx ckx, .slice aki nki cki) y → (w.heap.size ≤ y ∧ y < wr.heap.size ∧ (Value.slice (some ⟨g', 0, none⟩) n' c').ownBlock ≠ some y) := by
      rintro y (e | e | e)
      ·cases e
      ·exact ⟨by have := (HL.out.xb y e).1; omega, (World.ownsRow.lt HL.out.rx y e).2, fun d => (HL.out.vb y d).2.2.1 e⟩
      ·exact ⟨by have := (HL.out.ib y e).1; omega, (World.ownsRow.lt HL.out.ri y e).2, fun d => (HL.out.vb y d).2.2.2 e⟩
     have hown : OwN wr (.slice none 0 0, .slice akx nkx ckx, .slice aki nki cki) ⟨[], ks.tail.map T.least, places (ns.length + 1) ks⟩ := ⟨World.ownsRow_nil _ _ _ _, HL.out.rx, HL.out.ri⟩
     have hp : N1K wr (fun y => F y ∨ (w.heap.size ≤ y ∧ y < wr.heap.size ∧ (Value.slice (some ⟨g', 0, none⟩) n' c').ownBlock ≠ some y)) (.slice none 0 0, .slice akx nkx ckx, .slice aki nki cki) ⟨[], ks.tail.map T.least, places (ns.length + 1) ks⟩ :=
      ⟨hown.n1 (fun y hy => .inr (hbl y hy)), hown, fun y => ⟨fun e => by (cases e), fun e => (HL.out.xb y e).2.2⟩, fun y hy => .inr (hbl y hy)⟩
     have := NO.put (ms := ns) (l := layL (ns.length + 1) ks) (z := ⟨[], [], []⟩) rfl HL.out.nodes (fun y hy => ?_) hG _ hp (fun y hy hf => ?_)
     ·rw [← HNV.out] at this
      rw [← HNV.out]
      exact this
     ·obtain ⟨V, _, _, _, n4, _⟩ := HL.out.nodes
      rcases (HL.out.fk y hy).1 with h | h
      ·exact .inl h
      ·exact .inr ⟨by omega, n4 y hy⟩
     ·rcases hy with e | e | e
      ·cases e
      ·exact (HL.out.fk y hf).2.2.1 e
      ·exact (HL.out.fk y hf).2.2.2 e
    have HOF : Hid (Only (fun y => (Value.slice av nv cv).ownBlock = some y) w (((wr.setCell ⟨g', nv * 3, none⟩ (.slice none 0 0)).setCell ⟨g', nv * 3 + 1, none⟩ (.slice akx nkx ckx)).setCell ⟨g', nv * 3 + 2, none⟩ (.slice aki nki cki))) := by
     refine HL.out.only.then (((only_set (R := fun y => y = g') rfl _).trans (only_set (R := fun y => y = g') rfl _)).trans (only_set (R := fun y => y = g') rfl _)) (fun y hy e => ?_)
     subst e
     rcases (HL.out.vb y rfl).1 with h | h
     ·exact h
     ·omega
    have HVB : Hid (∀ y, (Value.slice (some ⟨g', 0, none⟩) n' c').ownBlock = some y → (Value.slice av nv cv).ownBlock = some y ∨ w.heap.size ≤ y) := fun y hy => (HL.out.vb y hy).1.imp id (fun h => by omega)
    clear hk' HL mf HNn
    go_wp2
    go_ret
    refine ⟨_, rfl, ?_, HOF.out, HVB.out⟩
    rw [HLY.out]
    exact HFIN.out
open Go.RowKit
theorem neq_pair (a b c d : ByteArray) (w : World) : (binOp .neq 112 (.agg #[.string a, .string b]) (.agg #[.string c, .string d])).run Tryz.prog w = .ok (.bool (!decide ((a, b) = (c, d)))) w := by
 have u9 := Tryz.underlying9
 have hS : Tryz.prog.underlying 112 = some (.struct (Tryz.prog.fieldsOf 112)) := by kernel_rfl
 have hp : Tryz.prog.stoodInHeld 112 = false := by kernel_rfl
 rw [run_neq_struct, show (10000 : Nat) = 9999 + 1 from rfl, run_equalIn_agg w 9999 112 _ _ hS hp]
 simp only [Program.fieldsOf, Tryz.underlying112]
 by_cases h1 : a = c
 ·subst h1
  by_cases h2 : b = d
  ·subst h2
   rw [decide_eq_true rfl]
   go_simp
  ·have t2 := str_beq h2
   rw [decide_eq_false (by simp [h2])]
   clear h2
   go_simp
 ·have t1 := str_beq h1
  rw [decide_eq_false (by simp [h1])]
  clear h1
  go_simp
set_option maxHeartbeats 8000000 in
theorem sameNode_any (S S' : Nat → Prop) (ap ax ai ap' ax' ai' : Option Addr) (np cp nx cx ni ci np' cp' nx' cx' ni' ci' : Nat) (x y : NB) (w : World)
  (hP : Pr w S (.slice ap np cp) x.ps) (hS : Sr w S (.slice ax nx cx) x.keys) (hI : Ir w S (.slice ai ni ci) x.kids) (hP' : Pr w S' (.slice ap' np' cp') y.ps) (hS' : Sr w S' (.slice ax' nx' cx') y.keys) (hI' : Ir w S' (.slice ai' ni' ci') y.kids) :
  Calls Tryz.prog 71 #[.agg #[.slice ap np cp, .slice ax nx cx, .slice ai ni ci], .agg #[.slice ap' np' cp', .slice ax' nx' cx', .slice ai' ni' ci']] w fun e w' => e = .returned (.bool (decide (x = y))) ∧ Below w.heap.size w w' := by
 have HP := hid hP
 have HS := hid hS
 have HI := hid hI
 have HP' := hid hP'
 have HS' := hid hS'
 have HI' := hid hI'
 have lp := hid (Rw.len hP).1
 have ls := hid (Rw.len hS).1
 have li := hid (Rw.len hI).1
 have lp' := hid (Rw.len hP').1
 have ls' := hid (Rw.len hS').1
 have li' := hid (Rw.len hI').1
 have b1 := (Rw.len hP).2
 have b2 := (Rw.len hS).2
 have b3 := (Rw.len hI).2
 have b1' := (Rw.len hP').2
 have b2' := (Rw.len hS').2
 have b3' := (Rw.len hI').2
 clear hP hS hI hP' hS' hI'
 have HB0 : Hid (Below w.heap.size w ((w.alloc (.cells #[.slice ap np cp, .slice ax nx cx, .slice ai ni ci] 85)).alloc (.cells #[.slice ap' np' cp', .slice ax' nx' cx', .slice ai' ni' ci'] 85))) := below_new (below_new (Below.refl _ _))
 have KA : Hid (Bk ((w.alloc (.cells #[.slice ap np cp, .slice ax nx cx, .slice ai ni ci] 85)).alloc (.cells #[.slice ap' np' cp', .slice ax' nx' cx', .slice ai' ni' ci'] 85)) w.heap.size 85 [.slice ap np cp, .slice ax nx cx, .slice ai ni ci]) := (Bk.new w 85 [.slice ap np cp, .slice ax nx cx, .slice ai ni ci]).alloc _
 have KB : Hid (Bk ((w.alloc (.cells #[.slice ap np cp, .slice ax nx cx, .slice ai ni ci] 85)).alloc (.cells #[.slice ap' np' cp', .slice ax' nx' cx', .slice ai' ni' ci'] 85)) (w.heap.size + 1) 85 [.slice ap' np' cp', .slice ax' nx' cx', .slice ai' ni' ci']) := by
  have := Bk.new (w.alloc (.cells #[.slice ap np cp, .slice ax nx cx, .slice ai ni ci] 85)) 85 [.slice ap' np' cp', .slice ax' nx' cx', .slice ai' ni' ci']
  show Bk _ _ _ _
  simpa using this
 by_cases h1 : np = np'
 ·have e1 : ((np : Int) != (np' : Int)) = false := by simp [h1]
  by_cases h2 : nx = nx'
  ·have e2 : ((nx : Int) != (nx' : Int)) = false := by simp [h2]
   by_cases h3 : ni = ni'
   ·have e3 : ((ni : Int) != (ni' : Int)) = false := by simp [h3]
    subst h1 h2 h3
    have HXY : Hid (x.ps = y.ps → x.keys = y.keys → x.kids = y.kids → decide (x = y) = true) := by
     intro q1 q2 q3
     rw [decide_eq_true_eq]
     cases x; cases y; simp_all
    have HNE : Hid (∀ (P : Prop), (x = y → P) → ¬ P → decide (x = y) = false) := fun P q1 q2 => decide_eq_false (fun e => q2 (q1 e))
    go_enter Tryz.func71, Tryz.ntmps71
    go_wp2_with fail
    generalize (w.alloc (.cells #[.slice ap np cp, .slice ax nx cx, .slice ai ni ci] 85)).alloc (.cells #[.slice ap' np cp', .slice ax' nx cx', .slice ai' ni ci'] 85) = u at *
    have a0 := KA.out.cell (j := 0) rfl
    have a1 := KA.out.cell (j := 1) rfl
    have a2 := KA.out.cell (j := 2) rfl
    have d0 := KB.out.cell (j := 0) rfl
    have d1 := KB.out.cell (j := 1) rfl
    have d2 := KB.out.cell (j := 2) rfl
    have HPu := hid (HP.out.below HB0.out)
    have HPu' := hid (HP'.out.below HB0.out)
    have HSu := hid (HS.out.below HB0.out)
    have HSu' := hid (HS'.out.below HB0.out)
    have HIu := hid (HI.out.below HB0.out)
    have HIu' := hid (HI'.out.below HB0.out)
    clear KA KB HP HP' HS HS' HI HI'
    go_loopw [36] (fun i wr => ∃ k q : Nat, k ≤ np ∧ i = .int .i64 k ∧ wr = u.drewN q ∧ Hid (x.ps.take k = y.ps.take k)) (fun i _ => np - (intOf i).toNat)
    case atStart => exact ⟨0, 0, Nat.zero_le _, rfl, rfl, rfl⟩
    case round =>
     obtain ⟨k, q, hk, rfl, rfl, HT⟩ := hrel
     by_cases hlt : k < np
     ·have hlt' : (k : Int) < (np : Int) := by omega
      obtain ⟨g, off, hap, _, _, hc⟩ := HPu.out.at (by omega)
      obtain ⟨g', off', hap', _, _, hc'⟩ := HPu'.out.at (by omega)
      subst hap hap'
      have m0 := (hc k hlt).1
      have m1 := (hc k hlt).2
      have m0' := (hc' k hlt).1
      have m1' := (hc' k hlt).2
      have HSS : Hid (pAtB x.ps k = pAtB y.ps k → x.ps.take (k + 1) = y.ps.take (k + 1)) := by
       intro e
       have hl : k < x.ps.length := by rw [← lp.out]; exact hlt
       have hl' : k < y.ps.length := by rw [← lp'.out]; exact hlt
       rw [List.take_succ_eq_append_getElem hl, List.take_succ_eq_append_getElem hl', HT.out]
       simp [pAtB, hl, hl'] at e
       rw [e]
      have HFF : Hid (pAtB x.ps k ≠ pAtB y.ps k → decide (x = y) = false) := fun e => HNE.out _ (fun q => by rw [q]) e
      clear hc hc'
      generalize pAtB x.ps k = cx1 at *
      generalize pAtB y.ps k = cx2 at *
      obtain ⟨k1, v1⟩ := cx1
      obtain ⟨k2, v2⟩ := cx2
      have hnq := neq_pair k1 v1 k2 v2
      by_cases he : (k1, v1) = (k2, v2)
      ·have HS1 := hid (HSS.out he)
       rw [decide_eq_true he] at hnq
       clear he HSS HFF
       go_wp2_with fail
       go_quiet (fail)
       go_wp2
       go_roundw
       case rel => exact ⟨k + 1, q + nq, by omega, by go_num, rfl, HS1.out⟩
       case measure => simp [intOf]; omega
      ·have HF1 := hid (HFF.out he)
       rw [decide_eq_false he] at hnq
       clear he HSS HFF
       go_wp2_with fail
       go_quiet (fail)
       go_wp2
       go_ret
       exact ⟨by rw [HF1.out]; rfl, Below.drewN' (Below.drewN' HB0.out _) _⟩
     ·have HQ1 : Hid (x.ps = y.ps) := by
       show _ = _
       have e := HT.out
       rwa [List.take_of_length_le (by rw [← lp.out]; omega), List.take_of_length_le (by rw [← lp'.out]; omega)] at e
      clear HT
      go_wp2_with fail
      go_loopw [54] (fun i wr => ∃ k q : Nat, k ≤ nx ∧ i = .int .i64 k ∧ wr = u.drewN q ∧ Hid (x.keys.take k = y.keys.take k)) (fun i _ => nx - (intOf i).toNat)
      case atStart => exact ⟨0, q, Nat.zero_le _, rfl, rfl, rfl⟩
      case round =>
       clear hk hlt
       obtain ⟨k, q, hk, rfl, rfl, HT⟩ := hrel
       by_cases hlt : k < nx
       ·have hlt' : (k : Int) < (nx : Int) := by omega
        obtain ⟨g, off, hap, _, _, hc⟩ := HSu.out.at (by omega)
        obtain ⟨g', off', hap', _, _, hc'⟩ := HSu'.out.at (by omega)
        subst hap hap'
        have m0 := hc k hlt
        have m0' := hc' k hlt
        have HSS : Hid (sAt x.keys k = sAt y.keys k → x.keys.take (k + 1) = y.keys.take (k + 1)) := by
         intro e
         have hl : k < x.keys.length := by rw [← ls.out]; exact hlt
         have hl' : k < y.keys.length := by rw [← ls'.out]; exact hlt
         rw [List.take_succ_eq_append_getElem hl, List.take_succ_eq_append_getElem hl', HT.out]
         simp [sAt, hl, hl'] at e
         rw [e]
        have HFF : Hid (sAt x.keys k ≠ sAt y.keys k → decide (x = y) = false) := fun e => HNE.out _ (fun q => by rw [q]) e
        clear hc hc'
        generalize sAt x.keys k = k1 at *
        generalize sAt y.keys k = k2 at *
        by_cases he : k1 = k2
        ·have HS1 := hid (HSS.out he)
         subst he
         skip
         clear HSS HFF
         go_wp2_with fail
         go_quiet (fail)
         go_wp2
         go_roundw
         case rel => exact ⟨k + 1, q + nq, by omega, by go_num, rfl, HS1.out⟩
         case measure => simp [intOf]; omega
        ·have HF1 := hid (HFF.out he)
         have t := str_beq he
         clear he HSS HFF
         go_wp2_with fail
         go_quiet (fail)
         go_wp2
         go_ret
         exact ⟨by rw [HF1.out]; rfl, Below.drewN' (Below.drewN' HB0.out _) _⟩
       ·have HQ2 : Hid (x.keys = y.keys) := by
         show _ = _
         have e := HT.out
         rwa [List.take_of_length_le (by rw [← ls.out]; omega), List.take_of_length_le (by rw [← ls'.out]; omega)] at e
        clear HT
        go_wp2_with fail
        go_loopw [72] (fun i wr => ∃ k q : Nat, k ≤ ni ∧ i = .int .i64 k ∧ wr = u.drewN q ∧ Hid (x.kids.take k = y.kids.take k)) (fun i _ => ni - (intOf i).toNat)
        case atStart => exact ⟨0, q, Nat.zero_le _, rfl, rfl, rfl⟩
        case round =>
         clear hk hlt
         obtain ⟨k, q, hk, rfl, rfl, HT⟩ := hrel
         by_cases hlt : k < ni
         ·have hlt' : (k : Int) < (ni : Int) := by omega
          obtain ⟨g, off, hap, _, _, hc⟩ := HIu.out.at (by omega)
          obtain ⟨g', off', hap', _, _, hc'⟩ := HIu'.out.at (by omega)
          subst hap hap'
          have m0 := hc k hlt
          have m0' := hc' k hlt
          have HSS : Hid (iAt x.kids k = iAt y.kids k → x.kids.take (k + 1) = y.kids.take (k + 1)) := by
           intro e
           have hl : k < x.kids.length := by rw [← li.out]; exact hlt
           have hl' : k < y.kids.length := by rw [← li'.out]; exact hlt
           rw [List.take_succ_eq_append_getElem hl, List.take_succ_eq_append_getElem hl', HT.out]
           simp [iAt, hl, hl'] at e
           rw [e]
          have HFF : Hid (iAt x.kids k ≠ iAt y.kids k → decide (x = y) = false) := fun e => HNE.out _ (fun q => by rw [q]) e
          clear hc hc'
          generalize iAt x.kids k = k1 at *
          generalize iAt y.kids k = k2 at *
          by_cases he : k1 = k2
          ·have HS1 := hid (HSS.out he)
           subst he
           have t : (k1 != k1) = false := by simp
           clear HSS HFF
           go_wp2_with fail
           go_quiet (fail)
           go_wp2
           go_roundw
           case rel => exact ⟨k + 1, q + nq, by omega, by go_num, rfl, HS1.out⟩
           case measure => simp [intOf]; omega
          ·have HF1 := hid (HFF.out he)
           have t : (k1 != k2) = true := by simp [he]
           clear he HSS HFF
           go_wp2_with fail
           go_quiet (fail)
           go_wp2
           go_ret
           exact ⟨by rw [HF1.out]; rfl, Below.drewN' (Below.drewN' HB0.out _) _⟩
         ·have HQ3 : Hid (x.kids = y.kids) := by
           show _ = _
           have e := HT.out
           rwa [List.take_of_length_le (by rw [← li.out]; omega), List.take_of_length_le (by rw [← li'.out]; omega)] at e
          clear HT
          have HF := hid (HXY.out HQ1.out HQ2.out HQ3.out)
          go_wp2
          go_ret
          exact ⟨by rw [HF.out]; rfl, Below.drewN' HB0.out _⟩
   ·have HF : Hid (decide (x = y) = false) := by
     show _ = _
     rw [decide_eq_false_iff_not]
     rintro rfl
     exact h3 (by rw [li.out, li'.out])
    have e3 : ((ni : Int) != (ni' : Int)) = true := by simp; omega
    clear h3
    go_enter Tryz.func71, Tryz.ntmps71
    go_wp2
    go_ret
    exact ⟨by rw [HF.out]; rfl, below_new (below_new (Below.refl _ _))⟩
  ·have HF : Hid (decide (x = y) = false) := by
    show _ = _
    rw [decide_eq_false_iff_not]
    rintro rfl
    exact h2 (by rw [ls.out, ls'.out])
   have e2 : ((nx : Int) != (nx' : Int)) = true := by simp; omega
   clear h2
   go_enter Tryz.func71, Tryz.ntmps71
   go_wp2
   go_ret
   exact ⟨by rw [HF.out]; rfl, below_new (below_new (Below.refl _ _))⟩
 ·have HF : Hid (decide (x = y) = false) := by
   show _ = _
   rw [decide_eq_false_iff_not]
   rintro rfl
   exact h1 (by rw [lp.out, lp'.out])
  have e1 : ((np : Int) != (np' : Int)) = true := by simp; omega
  clear h1
  go_enter Tryz.func71, Tryz.ntmps71
  go_wp2
  go_ret
  exact ⟨by rw [HF.out]; rfl, below_new (below_new (Below.refl _ _))⟩
open Go.RowKit
theorem rdSL_info (f : Nat) (rd : Int → Option (T × Nat)) (hrd : ∀ a t n, rd a = some (t, n) → 0 ≤ a ∧ (n : Int) = a + t.size ∧ t.ht ≤ f) : ∀ (kids : List Int) (nx : Nat) (ts : List T) (n : Nat), rdSL rd kids nx = some (ts, n) → n = nx + szL ts ∧ htL ts ≤ f
 | [], nx, ts, n, h => by
  simp only [rdSL, Option.some.injEq, Prod.mk.injEq] at h
  obtain ⟨rfl, rfl⟩ := h
  simp [szL, htL]
 | k :: kids, nx, ts, n, h => by
  simp only [rdSL] at h
  split at h
  ·cases h
  ·rename_i he
   cases hr : rd k with
   | none => simp [hr] at h
   | some x =>
    obtain ⟨t, n1⟩ := x
    simp only [hr] at h
    cases hs : rdSL rd kids n1 with
    | none => simp [hs] at h
    | some y =>
     obtain ⟨ts', n2⟩ := y
     simp only [hs, Option.some.injEq, Prod.mk.injEq] at h
     obtain ⟨rfl, rfl⟩ := h
     have h1 := hrd k t n1 hr
     have h2 := rdSL_info f rd hrd kids n1 ts' n2 hs
     have he' : k = (nx : Int) := by
      by_cases q : k = (nx : Int)
      ·exact q
      ·exact absurd q he
     simp only [szL, htL]
     omega
theorem rdS_info (ns : List NB) : ∀ (f : Nat) (a : Int) (t : T) (n : Nat), rdS ns f a = some (t, n) → 0 ≤ a ∧ (n : Int) = a + t.size ∧ t.ht ≤ f
 | 0, a, t, n, h => by simp [rdS] at h
 | f + 1, a, t, n, h => by
  rw [rdS] at h
  split at h
  ·cases h
  ·rename_i hc
   cases hs : rdSL (rdS ns f) (nAt ns a.toNat).kids (a.toNat + 1) with
   | none => simp [hs] at h
   | some x =>
    obtain ⟨ts, n1⟩ := x
    simp only [hs, Option.some.injEq, Prod.mk.injEq] at h
    obtain ⟨rfl, rfl⟩ := h
    have := rdSL_info f (rdS ns f) (rdS_info ns f) _ _ _ _ hs
    simp only [T.size, T.ht]
    omega
theorem kc7 {u v : World} {a0 a1 a2 a3 a4 a5 a6 : Addr} {x0 x1 x2 x3 x4 x5 x6 : Value} (h : KC u v [(a0, x0), (a1, x1), (a2, x2), (a3, x3), (a4, x4), (a5, x5), (a6, x6)]) : v.cell? a0 = some x0 ∧ v.cell? a1 = some x1 ∧ v.cell? a2 = some x2 ∧ v.cell? a3 = some x3 ∧ v.cell? a4 = some x4 ∧ v.cell? a5 = some x5 ∧ v.cell? a6 = some x6 ∧ KC u v [(a0, x0), (a1, x1), (a2, x2), (a3, x3), (a4, x4), (a5, x5), (a6, x6)] := ⟨h.at (by simp), h.at (by simp), h.at (by simp), h.at (by simp), h.at (by simp), h.at (by simp), h.at (by simp), h⟩
theorem kc7c {u v v' : World} {a0 a1 a2 a3 a4 a5 a6 : Addr} {x0 x1 x2 x3 x4 x5 x6 : Value} (k : Below v.heap.size v v') (h : v.cell? a0 = some x0 ∧ v.cell? a1 = some x1 ∧ v.cell? a2 = some x2 ∧ v.cell? a3 = some x3 ∧ v.cell? a4 = some x4 ∧ v.cell? a5 = some x5 ∧ v.cell? a6 = some x6 ∧ KC u v [(a0, x0), (a1, x1), (a2, x2), (a3, x3), (a4, x4), (a5, x5), (a6, x6)]) : v'.cell? a0 = some x0 ∧ v'.cell? a1 = some x1 ∧ v'.cell? a2 = some x2 ∧ v'.cell? a3 = some x3 ∧ v'.cell? a4 = some x4 ∧ v'.cell? a5 = some x5 ∧ v'.cell? a6 = some x6 ∧ KC u v' [(a0, x0), (a1, x1), (a2, x2), (a3, x3), (a4, x4), (a5, x5), (a6, x6)] := kc7 (KC.call h.2.2.2.2.2.2.2 k)
set_option maxHeartbeats 8000000 in
theorem specTreeOk_any (ns : List NB) (hlen : ns.length ≤ 1048576) (hsm : smallN ns) (S : Nat → Prop) (an : Option Addr) (nn cn : Nat) (w : World) (hN : Nr w S (.slice an nn cn) ns) :
  Calls Tryz.prog 27 #[.agg #[.slice an nn cn]] w fun e w' => e = .returned (.bool (spOk ns)) ∧ Below w.heap.size w w' := by
 have hnn := hid hN.len.1
 have hnn2 := hN.len.2.1
 have hnn3 := hN.len.2.2
 have HN := hid hN
 clear hN
 have HB0 := hid (below_new (o := .cells #[.slice an nn cn] 33) (w := w) (Below.refl _ _))
 have KT := hid (Bk.new w 33 [.slice an nn cn])
 by_cases h0 : nn = 0
 ·have HR : Hid (spOk ns = true) := by show _ = _; rw [spOk, if_pos]; rw [← hnn.out]; exact h0
  clear HN hnn
  subst h0
  go_enter Tryz.func27, Tryz.ntmps27
  go_wp2
  go_ret
  exact ⟨by rw [HR.out]; rfl, HB0.out⟩
 ·have e1 : ((nn : Int) == 0) = false := by simp; omega
  by_cases h4 : 400 < nn
  ·have e2 : (400 : Int) < (nn : Int) := by omega
   have HR : Hid (spOk ns = false) := by show _ = _; rw [spOk, if_neg, if_pos] <;> rw [← hnn.out] <;> assumption
   clear h0 h4
   go_enter Tryz.func27, Tryz.ntmps27
   go_wp2
   go_ret
   exact ⟨by rw [HR.out]; rfl, HB0.out⟩
  ·have e2 : ¬ (400 : Int) < (nn : Int) := by omega
   have HRS : Hid (spOk ns = match rdS ns 13 0 with
     | none => false
     | some (t, n) => decide (n = ns.length) && t.full true && decide (0 ≤ t.dp) && pOk t.all && decide (lay 0 t = ns)) := by
    show _ = _
    rw [spOk, if_neg (by rw [← hnn.out]; exact h0), if_neg (by rw [← hnn.out]; exact h4)]
    try (cases rdS ns 13 0 <;> rfl)
   have HRT : Hid (rootS ns = match rdS ns 13 0 with
     | none => none
     | some (t, n) => if n = ns.length then some t else none) := by
    show _ = _
    rw [rootS, if_neg (by rw [← hnn.out]; exact h0)]
    try (cases rdS ns 13 0 <;> rfl)
   have hnl : nn ≤ 400 := by omega
   clear h0 h4
   go_enter Tryz.func27, Tryz.ntmps27
   go_wp2_with fail
   refine (specRoot_any ns hlen hsm S an nn cn _ (HN.out.below HB0.out)).mono ?_
   generalize w.alloc (.cells #[.slice an nn cn] 33) = U at *
   rintro e w1 ⟨hpost, hb1⟩
   have HB1 := hid (HB0.out.trans (hb1.mono HB0.out.size))
   have KT1 := hid (KT.out.below hb1)
   cases hr : rootS ns with
   | none =>
    rw [hr] at hpost
    obtain ⟨lf, ap, np, cp, ak, nk, ck, he⟩ := hpost
    subst he
    have HR : Hid (spOk ns = false) := by
     show _ = _
     rw [HRS.out]
     have h1 := HRT.out
     rw [hr] at h1
     cases hx : rdS ns 13 0 with
     | none => rfl
     | some x =>
      obtain ⟨t, n⟩ := x
      rw [hx] at h1
      simp only at h1 ⊢
      split at h1
      ·cases h1
      ·rename_i hn
       simp [hn]
    clear hb1 hr
    go_wp2
    go_ret
    exact ⟨by rw [HR.out]; rfl, HB1.out.alloc HB1.out.size _⟩
   | some t =>
    rw [hr] at hpost
    obtain ⟨lf, ap, np, cp, ak, nk, ck, he, hsub⟩ := hpost
    subst he
    have HRD : Hid (rdS ns 13 0 = some (t, ns.length)) := by
     show _ = _
     have h1 := HRT.out
     rw [hr] at h1
     cases hx : rdS ns 13 0 with
     | none => rw [hx] at h1; cases h1
     | some x =>
      obtain ⟨t', n⟩ := x
      rw [hx] at h1
      simp only at h1
      split at h1
      ·rename_i hn; cases h1; rw [hn]
      ·cases h1
    have HSP : Hid (spOk ns = (t.full true && decide (0 ≤ t.dp) && pOk t.all && decide (lay 0 t = ns))) := by
     show _ = _
     rw [HRS.out, HRD.out]
     simp
    have HTI := hid (rdS_info ns 13 0 t ns.length HRD.out)
    have HB2 := hid (HB1.out.alloc HB1.out.size (.cells #[.bool lf, .slice ap np cp, .slice ak nk ck] 115))
    have KT2 := hid (KT1.out.alloc (.cells #[.bool lf, .slice ap np cp, .slice ak nk ck] 115))
    have KS2 := hid (Bk.new w1 115 [.bool lf, .slice ap np cp, .slice ak nk ck])
    have HS2 : Hid (Sub (w1.alloc (.cells #[.bool lf, .slice ap np cp, .slice ak nk ck] 115)) (fun y => U.heap.size ≤ y ∧ y < w1.heap.size) lf (.slice ap np cp) (.slice ak nk ck) t) := hsub.kept (below_new (Below.refl _ _))
    clear hb1 hr hsub KT KT1 HB0 HB1 HRS HRT
    go_wp2_with fail
    refine (specFull_any t _ true lf ap ak np cp nk ck _ HS2.out).mono ?_
    generalize hgw : w1.heap.size = sb at *
    clear hgw
    generalize w1.alloc (.cells #[.bool lf, .slice ap np cp, .slice ak nk ck] 115) = w2 at *
    rintro e w3 ⟨rfl, hb3⟩
    have HB3 := hid (HB2.out.trans (hb3.mono HB2.out.size))
    have KT3 := hid (KT2.out.below hb3)
    have KS3 := hid (KS2.out.below hb3)
    have HS3 := hid (HS2.out.kept hb3)
    clear hb3 HB2 KT2 KS2 HS2
    cases hfu : t.full true
    ·have HR : Hid (spOk ns = false) := by show _ = _; rw [HSP.out, hfu]; rfl
     clear hfu
     go_wp2
     go_ret
     exact ⟨by rw [HR.out]; rfl, HB3.out⟩
    ·have HFU := hid hfu
     clear hfu
     have s0 := KS3.out.cell (j := 0) rfl
     have s1 := KS3.out.cell (j := 1) rfl
     have s2 := KS3.out.cell (j := 2) rfl
     go_wp2_with fail
     refine (specDeep_any t _ lf ap ak np cp nk ck w3 HS3.out (by have := HTI.out.2.2; omega)).mono ?_
     rintro e w4 ⟨rfl, hb4⟩
     have HB4 := hid (HB3.out.trans (hb4.mono HB3.out.size))
     have KT4 := hid (KT3.out.below hb4)
     have KS4 := hid (KS3.out.below hb4)
     have HS4 := hid (HS3.out.kept hb4)
     clear hb4 HB3 KT3 KS3 HS3 s0 s1 s2
     by_cases hdp : t.dp < 0
     ·have HR : Hid (spOk ns = false) := by show _ = _; rw [HSP.out, decide_eq_false (by omega : ¬ 0 ≤ t.dp)]; simp
      generalize t.dp = dd at *
      go_wp2
      go_ret
      exact ⟨by rw [HR.out]; rfl, HB4.out⟩
     ·have HDP := hid hdp
      have hal : t.all.length ≤ 1048576 := by
       have h1 := full_all_le t true HFU.out
       have h2 := HTI.out.2.1
       have h3 := hnn.out
       omega
      have s0 := KS4.out.cell (j := 0) rfl
      have s1 := KS4.out.cell (j := 1) rfl
      have s2 := KS4.out.cell (j := 2) rfl
      have HAL := hid hal
      clear hal
      generalize hdd : t.dp = dd at hdp
      clear hdd
      go_wp2_with fail
      refine (specPairs_any t _ lf ap ak np cp nk ck w4 HS4.out HAL.out).mono ?_
      rintro e w5 ⟨v5, rfl, hO5, hb5⟩
      obtain ⟨a5, n5, c5, hv5, HN5⟩ := hO5.shape'
      subst hv5
      have HO5 := hid hO5
      have HB5 := hid (HB4.out.trans (hb5.mono HB4.out.size))
      have KT5 := hid (KT4.out.below hb5)
      have KS5 := hid (KS4.out.below hb5)
      have HS5 := hid (HS4.out.kept hb5)
      clear hb5 hO5 HB4 KT4 KS4 HS4 s0 s1 s2
      go_wp2_with fail
      refine (specPairsOk_any (fun _ => True) _ t.all w5 (HO5.out.pr (fun _ _ _ _ => trivial))).mono ?_
      rintro e w6 ⟨rfl, hb6⟩
      have HB6 := hid (HB5.out.trans (hb6.mono HB5.out.size))
      have KT6 := hid (KT5.out.below hb6)
      have KS6 := hid (KS5.out.below hb6)
      have HS6 := hid (HS5.out.kept hb6)
      clear hb6 HB5 KT5 KS5 HS5 HO5 HN5
      cases hpk : pOk t.all
      ·have HR : Hid (spOk ns = false) := by show _ = _; rw [HSP.out, hpk]; simp
       clear hpk
       go_wp2
       go_ret
       exact ⟨by rw [HR.out]; rfl, HB6.out⟩
      ·have HRV : Hid (spOk ns = decide (lay 0 t = ns)) := by show _ = _; rw [HSP.out, hpk, HFU.out, decide_eq_true (by have := HDP.out; omega : 0 ≤ t.dp)]; simp
       have s0 := KS6.out.cell (j := 0) rfl
       have s1 := KS6.out.cell (j := 1) rfl
       have s2 := KS6.out.cell (j := 2) rfl
       clear hpk HSP
       go_wp2_with fail
       refine (specLay_any t _ lf ap ak np cp nk ck w6 (fun _ => False) none 0 0 [] true HS6.out (fun y _ => by simp [Value.ownBlock]) (no_nil w6) (by have h2 := HTI.out.2.1; have h3 := hnn.out; simp; omega) HFU.out).mono ?_
       rintro e w7 ⟨v7, rfl, hN7, ho7, _⟩
       have hb7 : Below w6.heap.size w6 w7 := ho7.below (Nat.le_refl _) (fun b _ => by simp [Value.ownBlock])
       obtain ⟨a7, n7, c7, hv7, HN7L⟩ := hN7.shape
       subst hv7
       have HNR : Hid (Nr w7 (fun _ => True) (.slice a7 n7 c7) (lay 0 t)) := hN7.nr (fun _ _ => trivial)
       have HB7 := hid (HB6.out.trans (hb7.mono HB6.out.size))
       have KT7 := hid (KT6.out.below hb7)
       have HLL : Hid (n7 = nn) := by
        have h1 := HN7L.out
        have h2 := HTI.out.2.1
        have h3 := hnn.out
        simp [lay_length] at h1
        show _ = _
        omega
       have hn7 : n7 = nn := HLL.out
       clear hN7 ho7 hb7 HB6 KT6 KS6 HS6 HN7L s0 s1 s2
       subst hn7
       have t0 := KT7.out.cell (j := 0) rfl
       have hz : ((n7 : Int) != (n7 : Int)) = false := by simp
       have HTN : Hid (n7 = (lay 0 t).length) := HNR.out.len.1
       go_wp2_with fail
       go_loopw [48] (fun i wr => ∃ k : Nat, k ≤ n7 ∧ i = .int .i64 k ∧ Hid (Below w7.heap.size w7 wr) ∧ Hid ((lay 0 t).take k = ns.take k)) (fun i _ => n7 - (intOf i).toNat)
       case atStart => exact ⟨0, Nat.zero_le _, rfl, Below.refl _ _, rfl⟩
       case round =>
        obtain ⟨k, hk, rfl, HB, HT⟩ := hrel
        have HBB := hid (HB7.out.trans (HB.out.mono HB7.out.size))
        by_cases hlt : k < n7
        ·have hlt' : (k : Int) < (n7 : Int) := by omega
         have HP := hid (HNR.out.below HB.out)
         have HP' := hid (HN.out.below HBB.out)
         obtain ⟨bA, oA, hA, _, _, hcell⟩ := HP.out.at (by omega)
         obtain ⟨bT, oT, hT, _, _, hcell'⟩ := HP'.out.at (by omega)
         subst hA hT
         obtain ⟨ap1, np1, cp1, ax1, nx1, cx1, ai1, ni1, ci1, x0, x1, x2, hp, hx, hi⟩ := hcell k hlt
         obtain ⟨ap2, np2, cp2, ax2, nx2, cx2, ai2, ni2, ci2, y0, y1, y2, hp', hx', hi'⟩ := hcell' k hlt
         have tt := (KT7.out.below HB.out).cell (j := 0) rfl
         have HC : Hid (∀ v, Below wr.heap.size wr v → Calls Tryz.prog 71 #[.agg #[.slice ap1 np1 cp1, .slice ax1 nx1 cx1, .slice ai1 ni1 ci1], .agg #[.slice ap2 np2 cp2, .slice ax2 nx2 cx2, .slice ai2 ni2 ci2]] v fun e w' => e = .returned (.bool (decide (nAt (lay 0 t) k = nAt ns k))) ∧ Below v.heap.size v w') := fun v hv =>
          sameNode_any _ _ ap1 ax1 ai1 ap2 ax2 ai2 np1 cp1 nx1 cx1 ni1 ci1 np2 cp2 nx2 cx2 ni2 ci2 (nAt (lay 0 t) k) (nAt ns k) v (hp.below hv) (hx.below hv) (hi.below hv) (hp'.below hv) (hx'.below hv) (hi'.below hv)
         have HSS : Hid (nAt (lay 0 t) k = nAt ns k → (lay 0 t).take (k + 1) = ns.take (k + 1)) := by
          intro e
          have hl : k < (lay 0 t).length := by rw [← HTN.out]; exact hlt
          have hl' : k < ns.length := by rw [← hnn.out]; exact hlt
          rw [List.take_succ_eq_append_getElem hl, List.take_succ_eq_append_getElem hl', HT.out]
          simp [nAt, hl, hl'] at e
          rw [e]
         have HFF : Hid (nAt (lay 0 t) k ≠ nAt ns k → spOk ns = false) := by
          intro e
          rw [HRV.out, decide_eq_false_iff_not]
          intro e'
          exact e (by rw [e'])
         have T0 : Hid (KC wr wr [(⟨bA, oA + k * 3, none⟩, .slice ap1 np1 cp1), (⟨bA, oA + k * 3 + 1, none⟩, .slice ax1 nx1 cx1), (⟨bA, oA + k * 3 + 2, none⟩, .slice ai1 ni1 ci1), (⟨bT, oT + k * 3, none⟩, .slice ap2 np2 cp2), (⟨bT, oT + k * 3 + 1, none⟩, .slice ax2 nx2 cx2), (⟨bT, oT + k * 3 + 2, none⟩, .slice ai2 ni2 ci2), (⟨w.heap.size, 0, none⟩, .slice (some ⟨bT, oT, none⟩) n7 cn)]) := ⟨fun p hp => by simp at hp; rcases hp with rfl | rfl | rfl | rfl | rfl | rfl | rfl <;> assumption, Below.refl _ _⟩
         clear hcell hcell' HP HP' HT hp hx hi hp' hx' hi' x0 x1 x2 y0 y1 y2 tt t0
         generalize nAt (lay 0 t) k = cx1' at *
         generalize nAt ns k = cx2' at *
         by_cases he : cx1' = cx2'
         ·have HS1 := hid (HSS.out he)
          rw [decide_eq_true he] at HC
          clear he HSS HFF
          go_wp2_with fail
          go_region_held3 (fun v => v.cell? ⟨bA, oA + k * 3, none⟩ = some (.slice ap1 np1 cp1) ∧ v.cell? ⟨bA, oA + k * 3 + 1, none⟩ = some (.slice ax1 nx1 cx1) ∧ v.cell? ⟨bA, oA + k * 3 + 2, none⟩ = some (.slice ai1 ni1 ci1) ∧ v.cell? ⟨bT, oT + k * 3, none⟩ = some (.slice ap2 np2 cp2) ∧ v.cell? ⟨bT, oT + k * 3 + 1, none⟩ = some (.slice ax2 nx2 cx2) ∧ v.cell? ⟨bT, oT + k * 3 + 2, none⟩ = some (.slice ai2 ni2 ci2) ∧ v.cell? ⟨w.heap.size, 0, none⟩ = some (.slice (some ⟨bT, oT, none⟩) n7 cn) ∧ KC wr v [(⟨bA, oA + k * 3, none⟩, .slice ap1 np1 cp1), (⟨bA, oA + k * 3 + 1, none⟩, .slice ax1 nx1 cx1), (⟨bA, oA + k * 3 + 2, none⟩, .slice ai1 ni1 ci1), (⟨bT, oT + k * 3, none⟩, .slice ap2 np2 cp2), (⟨bT, oT + k * 3 + 1, none⟩, .slice ax2 nx2 cx2), (⟨bT, oT + k * 3 + 2, none⟩, .slice ai2 ni2 ci2), (⟨w.heap.size, 0, none⟩, .slice (some ⟨bT, oT, none⟩) n7 cn)])
           (first | assumption | exact kc7 (T0.out.call (below_drew _)) | exact kc7c hbC (by assumption))
           (first | (go_at_call 71; refine (HC.out _ (KC.bel (by first | exact (by assumption : _ ∧ _ ∧ _ ∧ _ ∧ _ ∧ _ ∧ _ ∧ _).2.2.2.2.2.2.2))).mono ?_; rintro e w' ⟨rfl, hbC⟩))
          all_goals (rename_i hS; have HB8 := hid (Below.then' HB.out hS.2.2.2.2.2.2.2.bel (Nat.le_refl _)); clear hS; go_wp2)
          go_roundw
          case rel => exact ⟨k + 1, by omega, by go_num, HB8.out, HS1.out⟩
          case measure => simp [intOf]; omega
         ·have HF1 := hid (HFF.out he)
          rw [decide_eq_false he] at HC
          clear he HSS HFF
          go_wp2_with fail
          go_region_held3 (fun v => v.cell? ⟨bA, oA + k * 3, none⟩ = some (.slice ap1 np1 cp1) ∧ v.cell? ⟨bA, oA + k * 3 + 1, none⟩ = some (.slice ax1 nx1 cx1) ∧ v.cell? ⟨bA, oA + k * 3 + 2, none⟩ = some (.slice ai1 ni1 ci1) ∧ v.cell? ⟨bT, oT + k * 3, none⟩ = some (.slice ap2 np2 cp2) ∧ v.cell? ⟨bT, oT + k * 3 + 1, none⟩ = some (.slice ax2 nx2 cx2) ∧ v.cell? ⟨bT, oT + k * 3 + 2, none⟩ = some (.slice ai2 ni2 ci2) ∧ v.cell? ⟨w.heap.size, 0, none⟩ = some (.slice (some ⟨bT, oT, none⟩) n7 cn) ∧ KC wr v [(⟨bA, oA + k * 3, none⟩, .slice ap1 np1 cp1), (⟨bA, oA + k * 3 + 1, none⟩, .slice ax1 nx1 cx1), (⟨bA, oA + k * 3 + 2, none⟩, .slice ai1 ni1 ci1), (⟨bT, oT + k * 3, none⟩, .slice ap2 np2 cp2), (⟨bT, oT + k * 3 + 1, none⟩, .slice ax2 nx2 cx2), (⟨bT, oT + k * 3 + 2, none⟩, .slice ai2 ni2 ci2), (⟨w.heap.size, 0, none⟩, .slice (some ⟨bT, oT, none⟩) n7 cn)])
           (first | assumption | exact kc7 (T0.out.call (below_drew _)) | exact kc7c hbC (by assumption))
           (first | (go_at_call 71; refine (HC.out _ (KC.bel (by first | exact (by assumption : _ ∧ _ ∧ _ ∧ _ ∧ _ ∧ _ ∧ _ ∧ _).2.2.2.2.2.2.2))).mono ?_; rintro e w' ⟨rfl, hbC⟩))
          all_goals (rename_i hS; have HB8 := hid (Below.then' HBB.out hS.2.2.2.2.2.2.2.bel (Nat.le_refl _)); clear hS; go_wp2)
          go_ret
          exact ⟨by rw [HF1.out]; rfl, HB8.out⟩
        ·have HF : Hid (spOk ns = true) := by
          show _ = _
          rw [HRV.out, decide_eq_true_eq]
          have e := HT.out
          rwa [List.take_of_length_le (by rw [← HTN.out]; omega), List.take_of_length_le (by rw [← hnn.out]; omega)] at e
         clear HT
         go_wp2
         go_ret
         exact ⟨by rw [HF.out]; rfl, HBB.out⟩
open Go.RowKit
set_option linter.unusedVariables false
theorem mrd_root {zs : List Int} {g r : Int} (h : mrd zs = some (g, r)) : 0 ≤ r := by
 have := (mrd_iff zs g r).1 h
 unfold mtBytes at this
 by_cases e : mtOk g r = true
 ·simp only [mtOk, Bool.and_eq_true, Bool.or_eq_true, decide_eq_true_eq] at e
  omega
 ·rw [if_neg e] at this; cases this
theorem bestM_root (d : DK) : ∀ k, 0 ≤ (bestM d k).2
 | 0 => by simp [bestM]
 | k + 1 => by
  rw [bestM]
  unfold stepM
  have h := bestM_root d k
  cases e : shMeta d k with
  | none => exact h
  | some m =>
   simp only
   split
   ·exact mrd_root (g := m.1) (r := m.2) e
   ·exact h
def stR (d : DK) : Option LS := if (bestM d 2).2 = 0 then some ([], []) else ldV d.sh 400 (bestM d 2).2 ([], [])
def stC (d : DK) : Int := if dkOk d = false ∨ 0 < d.dw.length then 1 else if 0 < (bestM d 2).1 then (match stR d with
 | none => 3
 | some s => if (okT s.1).isSome = true then 0 else 3) else 2
theorem okT_nil : (okT []).isSome = true := rfl
def zeroS : Value := .agg #[.slice none 0 0, .slice none 0 0, .int .i64 0, .slice none 0 0, .slice none 0 0]
def SoPost (sa : Option Addr) (sn sc : Nat) (da : Option Addr) (dn dc : Nat) (d : DK) (w : World) (e : Ending) (w' : World) : Prop :=
 Below w.heap.size w w' ∧ ((stC d ≠ 0 ∧ e = .returned (.tuple #[zeroS, .int .i64 (stC d)])) ∨ ∃ s na nn nc pa pn pc V, stC d = 0 ∧ stR d = some s ∧ s.2.length = s.1.length ∧ e = .returned (.tuple #[.agg #[.slice sa sn sc, .slice da dn dc, .int .i64 (bestM d 2).1, .slice na nn nc, .slice pa pn pc], .int .i64 0]) ∧
  NA w' (.slice na nn nc) V s.1 ∧ w'.ownsRow 0 3 1 (.slice pa pn pc) s.2.length (s.2.map (Value.int .i64)) ∧ (∀ y, (Value.slice na nn nc).ownBlock = some y → w.heap.size ≤ y) ∧ (∀ i, i < s.1.length → ∀ y, bl (vAt V i) y → w.heap.size ≤ y) ∧ ∀ y, (Value.slice pa pn pc).ownBlock = some y → w.heap.size ≤ y ∧ (Value.slice na nn nc).ownBlock ≠ some y ∧ ∀ i, i < s.1.length → ¬ bl (vAt V i) y)
theorem load_sto {w : World} {g : Nat} {a b c x y : Value} (c0 : w.cell? ⟨g, 0, none⟩ = some a) (c1 : w.cell? ⟨g, 1, none⟩ = some b) (c2 : w.cell? ⟨g, 2, none⟩ = some c) (c3 : w.cell? ⟨g, 3, none⟩ = some x) (c4 : w.cell? ⟨g, 4, none⟩ = some y) :
  (loadVar 36 ⟨g, 0, none⟩).run Tryz.prog w = .ok (.agg #[a, b, c, x, y]) w := by go_simp
theorem results_sto {fn : Func} {p q : Tmp} (h : fn.results = #[.cell p 36, .tmp q]) (tmps : Array Value) (w : World) (g : Nat) {a b c x y z : Value} (hp : tmps.getD p undef = .pointer (some ⟨g, 0, none⟩)) (hq : tmps.getD q undef = z)
  (c0 : w.cell? ⟨g, 0, none⟩ = some a) (c1 : w.cell? ⟨g, 1, none⟩ = some b) (c2 : w.cell? ⟨g, 2, none⟩ = some c) (c3 : w.cell? ⟨g, 3, none⟩ = some x) (c4 : w.cell? ⟨g, 4, none⟩ = some y) : (results fn tmps).run Tryz.prog w = .ok (.tuple #[.agg #[a, b, c, x, y], z]) w := by
 have hp' : tmps[p]?.getD undef = .pointer (some ⟨g, 0, none⟩) := by simpa using hp
 have hq' : tmps[q]?.getD undef = z := by simpa using hq
 simp [results, h, hp', hq', asAddr, load_sto c0 c1 c2 c3 c4, Result.andThen]
theorem so_fin {w v : World} {G rb : Nat} {sl : Value} {na : Option Addr} {nn nc : Nat} {pa : Option Addr} {pn pc : Nat} {V : List V3} {s : LS} (sa : Option Addr) (sn sc : Nat) (da : Option Addr) (dn dc : Nat) (d : DK) (hb : Below w.heap.size w v) (hG : w.heap.size + 2 ≤ G) (hR : RS v (fun y => y = rb ∨ G ≤ y) rb sl na nn nc pa pn pc V s) (hc : stC d = 0) (hs : stR d = some s) (hl : s.2.length = s.1.length) (x0 x1 x2 x3 x4 : Value) :
  SoPost sa sn sc da dn dc d w (.returned (.tuple #[.agg #[.slice sa sn sc, .slice da dn dc, .int .i64 (bestM d 2).1, .slice na nn nc, .slice pa pn pc], .int .i64 0])) (((((v.setCell ⟨w.heap.size + 1, 0, none⟩ x0).setCell ⟨w.heap.size + 1, 1, none⟩ x1).setCell ⟨w.heap.size + 1, 2, none⟩ x2).setCell ⟨w.heap.size + 1, 3, none⟩ x3).setCell ⟨w.heap.size + 1, 4, none⟩ x4) := by
 have o : Only (fun y => y = w.heap.size + 1) v (((((v.setCell ⟨w.heap.size + 1, 0, none⟩ x0).setCell ⟨w.heap.size + 1, 1, none⟩ x1).setCell ⟨w.heap.size + 1, 2, none⟩ x2).setCell ⟨w.heap.size + 1, 3, none⟩ x3).setCell ⟨w.heap.size + 1, 4, none⟩ x4) := ((((only_set (R := fun y => y = w.heap.size + 1) rfl _).trans (only_set (R := fun y => y = w.heap.size + 1) rfl _)).trans (only_set (R := fun y => y = w.heap.size + 1) rfl _)).trans (only_set (R := fun y => y = w.heap.size + 1) rfl _)).trans (only_set (R := fun y => y = w.heap.size + 1) rfl _)
 have h1 : ∀ y, (Value.slice na nn nc).ownBlock = some y → G ≤ y := fun y e => (hR.pn' y e).1.elim (fun h => absurd h (hR.pn' y e).2) id
 have h2 : ∀ i, i < s.1.length → ∀ y, bl (vAt V i) y → G ≤ y := fun i hi y e => (hR.pb i hi y e).1.elim (fun h => absurd h (hR.pb i hi y e).2) id
 have h3 : ∀ y, (Value.slice pa pn pc).ownBlock = some y → G ≤ y := fun y e => (hR.pp y e).1.elim (fun h => absurd h (hR.pp y e).2.1) id
 refine ⟨hb.trans (o.below hb.size (fun y hy e => by omega)), .inr ⟨s, na, nn, nc, pa, pn, pc, V, hc, hs, hl, rfl, hR.nod.to o (fun y e e2 => by have := h1 y e; omega) (fun i hi y e e2 => by have := h2 i hi y e; omega), own_kept hR.pla o (fun y e e2 => by have := h3 y e; omega), fun y e => by have := h1 y e; omega, fun i hi y e => by have := h2 i hi y e; omega, fun y e => ⟨by have := h3 y e; omega, (hR.pp y e).2.2.1, (hR.pp y e).2.2.2⟩⟩⟩
set_option maxHeartbeats 8000000 in
set_option maxRecDepth 100000 in
theorem storeOn_any (S : Nat → Prop) (sa : Option Addr) (sn sc : Nat) (da : Option Addr) (dn dc : Nat) (d : DK) (w : World) (h : Dk w S sa sn sc da dn dc d) (hsm : smallD d) (he : Err w 0) (he2 : Err w 1) (he3 : Err w 2) :
  Calls Tryz.prog 30 #[.agg #[.slice sa sn sc, .slice da dn dc]] w fun e w' => SoPost sa sn sc da dn dc d w e w' := by
 have HD := hid h
 have HSM := hid hsm
 have HE := hid (And.intro he (And.intro he2 he3))
 have HDN := hid h.hd.len.1
 have hdc := h.hd.len.2.1
 have hdc' := h.hd.len.2.2
 have hsc := h.hs.len.2.1
 have hsc' := h.hs.len.2.2
 have HB0 : Hid (Below w.heap.size w ((w.alloc (.cells #[.slice sa sn sc, .slice da dn dc] 30)).alloc (.cells #[.slice none 0 0, .slice none 0 0, .int .i64 0, .slice none 0 0, .slice none 0 0] 36))) := below_new (below_new (Below.refl _ _))
 have KD := hid ((Bk.new w 30 [.slice sa sn sc, .slice da dn dc]).alloc (.cells #[.slice none 0 0, .slice none 0 0, .int .i64 0, .slice none 0 0, .slice none 0 0] 36))
 have KR : Hid (Bk ((w.alloc (.cells #[.slice sa sn sc, .slice da dn dc] 30)).alloc (.cells #[.slice none 0 0, .slice none 0 0, .int .i64 0, .slice none 0 0, .slice none 0 0] 36)) (w.heap.size + 1) 36 [.slice none 0 0, .slice none 0 0, .int .i64 0, .slice none 0 0, .slice none 0 0]) := by
  have h := Bk.new (w.alloc (.cells #[.slice sa sn sc, .slice da dn dc] 30)) 36 [.slice none 0 0, .slice none 0 0, .int .i64 0, .slice none 0 0, .slice none 0 0]
  show Bk _ _ _ _
  simpa using h
 have HOK := hid (fun v (hv : Below w.heap.size w v) => implDiskOk_any S sa sn sc da dn dc d v (HD.out.below hv))
 have HME := hid (fun v (hv : Below w.heap.size w v) => implDiskMeta_any S sa sn sc da dn dc d v (HD.out.below hv) hsm (he.below hv he.lt) (he2.below hv he2.lt))
 clear h hsm he he2 he3
 by_cases q1 : dkOk d = true
 ·by_cases q2 : dn = 0
  ·subst q2
   have HDW : Hid (d.dw.length = 0) := HDN.out.symm
   have HS1 : Hid (stC d = if 0 < (bestM d 2).1 then (match stR d with | none => 3 | some s => if (okT s.1).isSome = true then 0 else 3) else 2) := by show _ = _; rw [stC, if_neg (by rw [q1, HDW.out]; simp)]
   have HRT : Hid (stR d = if (bestM d 2).2 = 0 then some ([], []) else ldV d.sh 400 (bestM d 2).2 ([], [])) := rfl
   have HR0 := hid (bestM_root d 2)
   have HGG : Hid (∃ gg, gg = (bestM d 2).1) := ⟨_, rfl⟩
   have HRR : Hid (∃ rr, rr = (bestM d 2).2) := ⟨_, rfl⟩
   obtain ⟨gg, hgg⟩ := HGG.out
   obtain ⟨rr, hrr⟩ := HRR.out
   rw [← hgg] at HS1
   rw [← hrr] at HRT HR0
   rw [← hgg, ← hrr] at HME
   have HGG := hid hgg
   clear hgg hrr HRR
   by_cases q3 : 0 < gg
   ·have q3' : decide (0 < gg) = true := decide_eq_true q3
    rw [if_pos q3] at HS1
    have HSZ : Hid (∀ v, Below w.heap.size w v → w.heap.size + 1 < v.heap.size → True) := fun _ _ _ => trivial
    by_cases q4 : rr = 0
    ·rw [if_pos q4] at HRT
     have HC : Hid (stC d = 0) := by show _ = _; rw [HS1.out, HRT.out]; rfl
     subst q4
     go_enter Tryz.func30, Tryz.ntmps30
     go_wp2_with fail
     refine (HOK.out _ HB0.out).mono ?_
     rintro e w1 ⟨rfl, hb1⟩
     rw [q1]
     have B1 := hid (bt7 HB0.out hb1)
     have KD1 := hid (KD.out.below hb1)
     have KR1 := hid (KR.out.below hb1)
     have d0 := KD1.out.cell (j := 0) rfl
     have d1 := KD1.out.cell (j := 1) rfl
     clear hb1
     go_wp2_with fail
     refine (HME.out _ B1.out).mono ?_
     rintro e w2 ⟨rfl, hb2⟩
     have B2 := hid (bt7 B1.out hb2)
     have KD2 := hid (KD1.out.below hb2)
     have KR2 := hid (KR1.out.below hb2)
     clear hb2 d0 d1 B1 KD1 KR1
     rw [q3']
     have B3 : Hid (Below w.heap.size w ((w2.alloc (.cells #[.int .i64 gg, .int .i64 0] 61)).alloc (.cells #[.slice sa sn sc, .slice none 0 0, .slice none 0 0] 126))) := bt7 B2.out (below_new (below_new (Below.refl _ _)))
     have KD3 := hid ((KD2.out.alloc (.cells #[.int .i64 gg, .int .i64 0] 61)).alloc (.cells #[.slice sa sn sc, .slice none 0 0, .slice none 0 0] 126))
     have KR3 := hid ((KR2.out.alloc (.cells #[.int .i64 gg, .int .i64 0] 61)).alloc (.cells #[.slice sa sn sc, .slice none 0 0, .slice none 0 0] 126))
     have KM := hid ((Bk.new w2 61 [.int .i64 gg, .int .i64 0]).alloc (.cells #[.slice sa sn sc, .slice none 0 0, .slice none 0 0] 126))
     have KT : Hid (Bk ((w2.alloc (.cells #[.int .i64 gg, .int .i64 0] 61)).alloc (.cells #[.slice sa sn sc, .slice none 0 0, .slice none 0 0] 126)) (w2.heap.size + 1) 126 [.slice sa sn sc, .slice none 0 0, .slice none 0 0]) := by
      have h := Bk.new (w2.alloc (.cells #[.int .i64 gg, .int .i64 0] 61)) 126 [.slice sa sn sc, .slice none 0 0, .slice none 0 0]
      show Bk _ _ _ _
      simpa using h
     have HW2 : Hid (w.heap.size + 1 < w2.heap.size) := KR2.out.lt
     have R3 : Hid (RS ((w2.alloc (.cells #[.int .i64 gg, .int .i64 0] 61)).alloc (.cells #[.slice sa sn sc, .slice none 0 0, .slice none 0 0] 126)) (fun y => y = w2.heap.size + 1) (w2.heap.size + 1) (.slice sa sn sc) none 0 0 none 0 0 [] ([], [])) := ⟨KT.out, na_nil _, World.ownsRow_nil _ _ _ _, rfl, fun y e => (by cases e), fun i hi => (by simp at hi), fun y e => (by cases e)⟩
     have d0 := (KD2.out.alloc (.cells #[.int .i64 gg, .int .i64 0] 61)).cell (j := 0) rfl
     have t1 := KT.out.cell (j := 1) rfl
     have m1 := KM.out.cell (j := 1) rfl
     go_wp2_with fail
     refine (implTreeOk_any (fun _ => True) none 0 0 [] _ ((na_nil _).nr (fun _ _ => trivial))).mono ?_
     rintro e w4 ⟨rfl, hb4⟩
     rw [okT_nil]
     have B5 := hid (bt7 B3.out hb4)
     have KD5 := hid (KD3.out.below hb4)
     have KR5 := hid (KR3.out.below hb4)
     have KM5 := hid (KM.out.below hb4)
     have R5 := hid ((R3.out.below hb4).mono (Q := fun y => y = w2.heap.size + 1 ∨ w2.heap.size ≤ y) (fun y _ h => .inl h))
     have HSS := HRT
     have HLL : Hid ((([] : List Int)).length = (([] : List NB)).length) := rfl
     clear hb4 d0 t1 m1 B3 KD3 KR3 KM KT R3
     have d0 := KD5.out.cell (j := 0) rfl
     have d1 := KD5.out.cell (j := 1) rfl
     have r0 := KR5.out.cell (j := 0) rfl
     have r1 := KR5.out.cell (j := 1) rfl
     have r2 := KR5.out.cell (j := 2) rfl
     have r3 := KR5.out.cell (j := 3) rfl
     have r4 := KR5.out.cell (j := 4) rfl
     have f0 := KR5.out.free 0
     have f1 := KR5.out.free 1
     have f2 := KR5.out.free 2
     have f3 := KR5.out.free 3
     have f4 := KR5.out.free 4
     have m0 := KM5.out.cell (j := 0) rfl
     have m1 := KM5.out.cell (j := 1) rfl
     have t0 := R5.out.box.cell (j := 0) rfl
     have t1 := R5.out.box.cell (j := 1) rfl
     have t2 := R5.out.box.cell (j := 2) rfl
     go_wp2
     try simp only [Exit.inBlock, Exit.then]
     refine bodyPost_ret (v := .tuple #[.agg #[.slice sa sn sc, .slice da 0 dc, .int .i64 gg, .slice none 0 0, .slice none 0 0], .int .i64 0]) ?_ rfl ?_
     ·exact results_sto rfl _ _ (w.heap.size + 1) rfl rfl (by go_simp) (by go_simp) (by go_simp) (by go_simp) (by go_simp)
     ·have h := so_fin sa sn sc da 0 dc d B5.out (by have := HW2.out; omega) R5.out HC.out HSS.out HLL.out
      rw [← HGG.out] at h
      exact h _ _ _ _ _
    ·rw [if_neg q4] at HRT
     have q4' : (rr == 0) = false := by simp [q4]
     go_enter Tryz.func30, Tryz.ntmps30
     go_wp2_with fail
     refine (HOK.out _ HB0.out).mono ?_
     rintro e w1 ⟨rfl, hb1⟩
     rw [q1]
     have B1 := hid (bt7 HB0.out hb1)
     have KD1 := hid (KD.out.below hb1)
     have KR1 := hid (KR.out.below hb1)
     have d0 := KD1.out.cell (j := 0) rfl
     have d1 := KD1.out.cell (j := 1) rfl
     clear hb1
     go_wp2_with fail
     refine (HME.out _ B1.out).mono ?_
     rintro e w2 ⟨rfl, hb2⟩
     have B2 := hid (bt7 B1.out hb2)
     have KD2 := hid (KD1.out.below hb2)
     have KR2 := hid (KR1.out.below hb2)
     clear hb2 d0 d1 B1 KD1 KR1
     rw [q3']
     have B3 : Hid (Below w.heap.size w ((w2.alloc (.cells #[.int .i64 gg, .int .i64 rr] 61)).alloc (.cells #[.slice sa sn sc, .slice none 0 0, .slice none 0 0] 126))) := bt7 B2.out (below_new (below_new (Below.refl _ _)))
     have KD3 := hid ((KD2.out.alloc (.cells #[.int .i64 gg, .int .i64 rr] 61)).alloc (.cells #[.slice sa sn sc, .slice none 0 0, .slice none 0 0] 126))
     have KR3 := hid ((KR2.out.alloc (.cells #[.int .i64 gg, .int .i64 rr] 61)).alloc (.cells #[.slice sa sn sc, .slice none 0 0, .slice none 0 0] 126))
     have KM := hid ((Bk.new w2 61 [.int .i64 gg, .int .i64 rr]).alloc (.cells #[.slice sa sn sc, .slice none 0 0, .slice none 0 0] 126))
     have KT : Hid (Bk ((w2.alloc (.cells #[.int .i64 gg, .int .i64 rr] 61)).alloc (.cells #[.slice sa sn sc, .slice none 0 0, .slice none 0 0] 126)) (w2.heap.size + 1) 126 [.slice sa sn sc, .slice none 0 0, .slice none 0 0]) := by
      have h := Bk.new (w2.alloc (.cells #[.int .i64 gg, .int .i64 rr] 61)) 126 [.slice sa sn sc, .slice none 0 0, .slice none 0 0]
      show Bk _ _ _ _
      simpa using h
     have HW2 : Hid (w.heap.size + 1 < w2.heap.size) := KR2.out.lt
     have R3 : Hid (RS ((w2.alloc (.cells #[.int .i64 gg, .int .i64 rr] 61)).alloc (.cells #[.slice sa sn sc, .slice none 0 0, .slice none 0 0] 126)) (fun y => y = w2.heap.size + 1) (w2.heap.size + 1) (.slice sa sn sc) none 0 0 none 0 0 [] ([], [])) := ⟨KT.out, na_nil _, World.ownsRow_nil _ _ _ _, rfl, fun y e => (by cases e), fun i hi => (by simp at hi), fun y e => (by cases e)⟩
     have d0 := (KD2.out.alloc (.cells #[.int .i64 gg, .int .i64 rr] 61)).cell (j := 0) rfl
     have t1 := KT.out.cell (j := 1) rfl
     have m1 := KM.out.cell (j := 1) rfl
     have HZ3 : Hid (w2.heap.size + 1 < ((w2.alloc (.cells #[.int .i64 gg, .int .i64 rr] 61)).alloc (.cells #[.slice sa sn sc, .slice none 0 0, .slice none 0 0] 126)).heap.size) := KT.out.lt
     have RH3 : Hid (RH ((w2.alloc (.cells #[.int .i64 gg, .int .i64 rr] 61)).alloc (.cells #[.slice sa sn sc, .slice none 0 0, .slice none 0 0] 126)) (fun y => y < w.heap.size) (.slice sa sn sc) d.sh) := ⟨(HD.out.hs.mono (R := fun y => y < w.heap.size) (fun y _ h => h)).below B3.out, ⟨HE.out.1.below B3.out HE.out.1.lt, HE.out.1.lt⟩, ⟨HE.out.2.1.below B3.out HE.out.2.1.lt, HE.out.2.1.lt⟩, ⟨HE.out.2.2.below B3.out HE.out.2.2.lt, HE.out.2.2.lt⟩, HSM.out.1⟩
     have HRE := hid (treeRead_any d.sh sa sn sc (w2.heap.size + 1) 400 (fun y => y < w.heap.size) (fun y => y = w2.heap.size + 1) none 0 0 none 0 0 [] ([], []) rr _ RH3.out (fun y hy => ⟨Nat.lt_of_lt_of_le hy B3.out.size, fun e => by have := HW2.out; omega⟩) (fun y e => by rw [e]; exact HZ3.out) R3.out rfl (Nat.zero_le _) (Nat.le_refl _) HR0.out)
     go_wp2_with fail
     refine HRE.out.mono ?_
     clear HRE RH3 R3 d0 t1 m1
     rintro e w3 ⟨ho, ⟨hn, rfl⟩ | ⟨s', na, nn, nc, pa, pn, pc, V, hs', hl', rfl, hR'⟩⟩
     ·have HC : Hid (stC d = 3) := by show _ = _; rw [HS1.out, HRT.out, hn]
      have B4 : Hid (Below w.heap.size w w3) := B3.out.trans (ho.below B3.out.size (fun y hy e => by have := HW2.out; omega))
      have KR4 := hid (KR3.out.to ho (fun e => by have := HW2.out; omega))
      clear ho hn
      have r0 := KR4.out.cell (j := 0) rfl
      have r1 := KR4.out.cell (j := 1) rfl
      have r2 := KR4.out.cell (j := 2) rfl
      have r3 := KR4.out.cell (j := 3) rfl
      have r4 := KR4.out.cell (j := 4) rfl
      have f0 := KR4.out.free 0
      have f1 := KR4.out.free 1
      have f2 := KR4.out.free 2
      have f3 := KR4.out.free 3
      have f4 := KR4.out.free 4
      go_wp2
      try simp only [Exit.inBlock, Exit.then]
      refine bodyPost_ret (v := .tuple #[zeroS, .int .i64 3]) ?_ rfl ?_
      ·exact results_sto rfl _ _ (w.heap.size + 1) rfl rfl (by go_simp) (by go_simp) (by go_simp) (by go_simp) (by go_simp)
      ·refine ⟨?_, .inl ⟨by rw [HC.out]; decide, by rw [HC.out]⟩⟩
       exact (((((B4.out).setCell (p := ⟨w.heap.size + 1, 0, none⟩) (Nat.le_succ _) _).setCell (p := ⟨w.heap.size + 1, 1, none⟩) (Nat.le_succ _) _).setCell (p := ⟨w.heap.size + 1, 2, none⟩) (Nat.le_succ _) _).setCell (p := ⟨w.heap.size + 1, 3, none⟩) (Nat.le_succ _) _).setCell (p := ⟨w.heap.size + 1, 4, none⟩) (Nat.le_succ _) _
     ·have HSS : Hid (stR d = some s') := by show _ = _; rw [HRT.out, hs']
      have HLL := hid hl'
      have B4 : Hid (Below w.heap.size w w3) := B3.out.trans (ho.below B3.out.size (fun y hy e => by have := HW2.out; omega))
      have KR4 := hid (KR3.out.to ho (fun e => by have := HW2.out; omega))
      have KD4 := hid (KD3.out.to ho (fun e => by have := HW2.out; omega))
      have KM4 := hid (KM.out.to ho (fun e => by omega))
      have R4 := hid hR'
      have HNR := hid (hR'.nod.nr (S := fun _ => True) (fun _ _ => trivial))
      have HSC : Hid (stC d = if (okT s'.1).isSome = true then 0 else 3) := by show _ = _; rw [HS1.out, HSS.out]
      have t1 := R4.out.box.cell (j := 1) rfl
      clear hs' hl' ho hR' KR3 KD3 KM KT B3
      go_wp2_with fail
      refine (implTreeOk_any (fun _ => True) na nn nc s'.1 _ HNR.out).mono ?_
      rintro e w4 ⟨rfl, hb4⟩
      have B5 := hid (bt7 B4.out hb4)
      have KD5 := hid (KD4.out.below hb4)
      have KR5 := hid (KR4.out.below hb4)
      have KM5 := hid (KM4.out.below hb4)
      have R5 := hid (R4.out.below hb4)
      clear hb4 t1 HNR B4 KD4 KR4 KM4 R4
      by_cases q5 : (okT s'.1).isSome = true
      ·rw [q5]
       have HC : Hid (stC d = 0) := by show _ = _; rw [HSC.out, if_pos q5]
       have d0 := KD5.out.cell (j := 0) rfl
       have d1 := KD5.out.cell (j := 1) rfl
       have r0 := KR5.out.cell (j := 0) rfl
       have r1 := KR5.out.cell (j := 1) rfl
       have r2 := KR5.out.cell (j := 2) rfl
       have r3 := KR5.out.cell (j := 3) rfl
       have r4 := KR5.out.cell (j := 4) rfl
       have f0 := KR5.out.free 0
       have f1 := KR5.out.free 1
       have f2 := KR5.out.free 2
       have f3 := KR5.out.free 3
       have f4 := KR5.out.free 4
       have m0 := KM5.out.cell (j := 0) rfl
       have m1 := KM5.out.cell (j := 1) rfl
       have t0 := R5.out.box.cell (j := 0) rfl
       have t1 := R5.out.box.cell (j := 1) rfl
       have t2 := R5.out.box.cell (j := 2) rfl
       go_wp2
       try simp only [Exit.inBlock, Exit.then]
       refine bodyPost_ret (v := .tuple #[.agg #[.slice sa sn sc, .slice da 0 dc, .int .i64 gg, .slice na nn nc, .slice pa pn pc], .int .i64 0]) ?_ rfl ?_
       ·exact results_sto rfl _ _ (w.heap.size + 1) rfl rfl (by go_simp) (by go_simp) (by go_simp) (by go_simp) (by go_simp)
       ·have h := so_fin sa sn sc da 0 dc d B5.out (by have h1 := HW2.out; have h2 := HZ3.out; omega) R5.out HC.out HSS.out HLL.out
        rw [← HGG.out] at h
        exact h _ _ _ _ _
      ·have q5' : (okT s'.1).isSome = false := by simpa using q5
       rw [q5']
       have HC : Hid (stC d = 3) := by show _ = _; rw [HSC.out, if_neg q5]
       have r0 := KR5.out.cell (j := 0) rfl
       have r1 := KR5.out.cell (j := 1) rfl
       have r2 := KR5.out.cell (j := 2) rfl
       have r3 := KR5.out.cell (j := 3) rfl
       have r4 := KR5.out.cell (j := 4) rfl
       have f0 := KR5.out.free 0
       have f1 := KR5.out.free 1
       have f2 := KR5.out.free 2
       have f3 := KR5.out.free 3
       have f4 := KR5.out.free 4
       go_wp2
       try simp only [Exit.inBlock, Exit.then]
       refine bodyPost_ret (v := .tuple #[zeroS, .int .i64 3]) ?_ rfl ?_
       ·exact results_sto rfl _ _ (w.heap.size + 1) rfl rfl (by go_simp) (by go_simp) (by go_simp) (by go_simp) (by go_simp)
       ·refine ⟨?_, .inl ⟨by rw [HC.out]; decide, by rw [HC.out]⟩⟩
        exact (((((B5.out).setCell (p := ⟨w.heap.size + 1, 0, none⟩) (Nat.le_succ _) _).setCell (p := ⟨w.heap.size + 1, 1, none⟩) (Nat.le_succ _) _).setCell (p := ⟨w.heap.size + 1, 2, none⟩) (Nat.le_succ _) _).setCell (p := ⟨w.heap.size + 1, 3, none⟩) (Nat.le_succ _) _).setCell (p := ⟨w.heap.size + 1, 4, none⟩) (Nat.le_succ _) _
   ·have q3' : decide (0 < gg) = false := decide_eq_false q3
    rw [if_neg q3] at HS1
    have HC : Hid (stC d = 2) := HS1.out
    go_enter Tryz.func30, Tryz.ntmps30
    go_wp2_with fail
    refine (HOK.out _ HB0.out).mono ?_
    rintro e w1 ⟨rfl, hb1⟩
    rw [q1]
    have B1 := hid (bt7 HB0.out hb1)
    have KD1 := hid (KD.out.below hb1)
    have KR1 := hid (KR.out.below hb1)
    have d0 := KD1.out.cell (j := 0) rfl
    have d1 := KD1.out.cell (j := 1) rfl
    clear hb1
    go_wp2_with fail
    refine (HME.out _ B1.out).mono ?_
    rintro e w2 ⟨rfl, hb2⟩
    have B2 := hid (bt7 B1.out hb2)
    have KD2 := hid (KD1.out.below hb2)
    have KR2 := hid (KR1.out.below hb2)
    clear hb2 d0 d1 B1 KD1 KR1
    rw [q3']
    have KR3 := hid (KR2.out.alloc (.cells #[.int .i64 gg, .int .i64 rr] 61))
    have r0 := KR3.out.cell (j := 0) rfl
    have r1 := KR3.out.cell (j := 1) rfl
    have r2 := KR3.out.cell (j := 2) rfl
    have r3 := KR3.out.cell (j := 3) rfl
    have r4 := KR3.out.cell (j := 4) rfl
    have f0 := KR3.out.free 0
    have f1 := KR3.out.free 1
    have f2 := KR3.out.free 2
    have f3 := KR3.out.free 3
    have f4 := KR3.out.free 4
    go_wp2
    try simp only [Exit.inBlock, Exit.then]
    refine bodyPost_ret (v := .tuple #[zeroS, .int .i64 2]) ?_ rfl ?_
    ·exact results_sto rfl _ _ (w.heap.size + 1) rfl rfl (by go_simp) (by go_simp) (by go_simp) (by go_simp) (by go_simp)
    ·refine ⟨?_, .inl ⟨by rw [HC.out]; decide, by rw [HC.out]⟩⟩
     exact (((((bt7 B2.out (below_new (Below.refl _ _))).setCell (p := ⟨w.heap.size + 1, 0, none⟩) (Nat.le_succ _) _).setCell (p := ⟨w.heap.size + 1, 1, none⟩) (Nat.le_succ _) _).setCell (p := ⟨w.heap.size + 1, 2, none⟩) (Nat.le_succ _) _).setCell (p := ⟨w.heap.size + 1, 3, none⟩) (Nat.le_succ _) _).setCell (p := ⟨w.heap.size + 1, 4, none⟩) (Nat.le_succ _) _
  ·have HC : Hid (stC d = 1) := by show _ = _; rw [stC, if_pos (.inr (by have := HDN.out; omega))]
   have q2' : (0 : Int) < (dn : Int) := by omega
   go_enter Tryz.func30, Tryz.ntmps30
   go_wp2_with fail
   refine (HOK.out _ HB0.out).mono ?_
   rintro e w1 ⟨rfl, hb1⟩
   rw [q1]
   have B1 := hid (bt7 HB0.out hb1)
   have KD1 := hid (KD.out.below hb1)
   have KR1 := hid (KR.out.below hb1)
   have d0 := KD1.out.cell (j := 0) rfl
   have d1 := KD1.out.cell (j := 1) rfl
   clear hb1
   have r0 := KR1.out.cell (j := 0) rfl
   have r1 := KR1.out.cell (j := 1) rfl
   have r2 := KR1.out.cell (j := 2) rfl
   have r3 := KR1.out.cell (j := 3) rfl
   have r4 := KR1.out.cell (j := 4) rfl
   have f0 := KR1.out.free 0
   have f1 := KR1.out.free 1
   have f2 := KR1.out.free 2
   have f3 := KR1.out.free 3
   have f4 := KR1.out.free 4
   go_wp2
   try simp only [Exit.inBlock, Exit.then]
   refine bodyPost_ret (v := .tuple #[zeroS, .int .i64 1]) ?_ rfl ?_
   ·exact results_sto rfl _ _ (w.heap.size + 1) rfl rfl (by go_simp) (by go_simp) (by go_simp) (by go_simp) (by go_simp)
   ·refine ⟨?_, .inl ⟨by rw [HC.out]; decide, by rw [HC.out]⟩⟩
    exact (((((B1.out).setCell (p := ⟨w.heap.size + 1, 0, none⟩) (Nat.le_succ _) _).setCell (p := ⟨w.heap.size + 1, 1, none⟩) (Nat.le_succ _) _).setCell (p := ⟨w.heap.size + 1, 2, none⟩) (Nat.le_succ _) _).setCell (p := ⟨w.heap.size + 1, 3, none⟩) (Nat.le_succ _) _).setCell (p := ⟨w.heap.size + 1, 4, none⟩) (Nat.le_succ _) _
 ·have HC : Hid (stC d = 1) := by show _ = _; rw [stC, if_pos (.inl (by simpa using q1))]
  have q1' : dkOk d = false := by simpa using q1
  go_enter Tryz.func30, Tryz.ntmps30
  go_wp2_with fail
  refine (HOK.out _ HB0.out).mono ?_
  rintro e w1 ⟨rfl, hb1⟩
  rw [q1']
  have B1 := hid (bt7 HB0.out hb1)
  have K1 := hid (KR.out.below hb1)
  clear hb1
  have r0 := K1.out.cell (j := 0) rfl
  have r1 := K1.out.cell (j := 1) rfl
  have r2 := K1.out.cell (j := 2) rfl
  have r3 := K1.out.cell (j := 3) rfl
  have r4 := K1.out.cell (j := 4) rfl
  have f0 := K1.out.free 0
  have f1 := K1.out.free 1
  have f2 := K1.out.free 2
  have f3 := K1.out.free 3
  have f4 := K1.out.free 4
  go_wp2
  try simp only [Exit.inBlock, Exit.then]
  refine bodyPost_ret (v := .tuple #[zeroS, .int .i64 1]) ?_ rfl ?_
  ·exact results_sto rfl _ _ (w.heap.size + 1) rfl rfl (by go_simp) (by go_simp) (by go_simp) (by go_simp) (by go_simp)
  ·refine ⟨?_, .inl ⟨by rw [HC.out]; decide, by rw [HC.out]⟩⟩
   exact (((((B1.out).setCell (p := ⟨w.heap.size + 1, 0, none⟩) (Nat.le_succ _) _).setCell (p := ⟨w.heap.size + 1, 1, none⟩) (Nat.le_succ _) _).setCell (p := ⟨w.heap.size + 1, 2, none⟩) (Nat.le_succ _) _).setCell (p := ⟨w.heap.size + 1, 3, none⟩) (Nat.le_succ _) _).setCell (p := ⟨w.heap.size + 1, 4, none⟩) (Nat.le_succ _) _
open Go.RowKit
set_option linter.unusedVariables false
open Go.RowKit
set_option linter.unusedVariables false
def stD (d : DK) : DK := if stC d = 0 then d else ⟨[], []⟩
def stG (d : DK) : Int := if stC d = 0 then (bestM d 2).1 else 0
def stL (d : DK) : LS := if stC d = 0 then (stR d).getD ([], []) else ([], [])
structure SN (w : World) (B : Nat) (na : Option Addr) (nn nc : Nat) (pa : Option Addr) (pn pc : Nat) (V : List V3) (s : LS) : Prop where
 nod : NA w (.slice na nn nc) V s.1
 pla : w.ownsRow 0 3 1 (.slice pa pn pc) s.2.length (s.2.map (Value.int .i64))
 len : s.2.length = s.1.length
 bn : ∀ y, (Value.slice na nn nc).ownBlock = some y → B ≤ y
 bb : ∀ i, i < s.1.length → ∀ y, bl (vAt V i) y → B ≤ y
 bp : ∀ y, (Value.slice pa pn pc).ownBlock = some y → B ≤ y ∧ (Value.slice na nn nc).ownBlock ≠ some y ∧ ∀ i, i < s.1.length → ¬ bl (vAt V i) y
def snb (na : Option Addr) (nn nc : Nat) (pa : Option Addr) (pn pc : Nat) (V : List V3) (s : LS) (y : Nat) : Prop := (Value.slice na nn nc).ownBlock = some y ∨ (Value.slice pa pn pc).ownBlock = some y ∨ ∃ i, i < s.1.length ∧ bl (vAt V i) y
theorem so_uni {S : Nat → Prop} {sa : Option Addr} {sn sc : Nat} {da : Option Addr} {dn dc : Nat} {d : DK} {w w' : World} {e : Ending} (h : SoPost sa sn sc da dn dc d w e w') (hD : Dk w S sa sn sc da dn dc d) : Below w.heap.size w w' ∧ ∃ xa xn xc ya yn yc na nn nc pa pn pc V, e = .returned (.tuple #[.agg #[.slice xa xn xc, .slice ya yn yc, .int .i64 (stG d), .slice na nn nc, .slice pa pn pc], .int .i64 (stC d)]) ∧ Dk w' (fun y => y < w.heap.size) xa xn xc ya yn yc (stD d) ∧ SN w' w.heap.size na nn nc pa pn pc V (stL d) := by
 obtain ⟨hb, ⟨hc, rfl⟩ | ⟨s, na, nn, nc, pa, pn, pc, V, hc, hs, hl, rfl, h1, h2, h3, h4, h5⟩⟩ := h
 ·refine ⟨hb, none, 0, 0, none, 0, 0, none, 0, 0, none, 0, 0, [], ?_, ?_, ?_⟩
  ·rw [stG, if_neg hc]; rfl
  ·rw [stD, if_neg hc]
   exact ⟨⟨[], rfl, rw_nil _ _, fun i hi => by simp at hi⟩, ⟨[], rfl, rw_nil _ _, fun i hi => by simp at hi⟩⟩
  ·rw [stL, if_neg hc]
   exact ⟨na_nil _, World.ownsRow_nil _ _ _ _, rfl, fun y e => (by cases e), fun i hi => (by simp at hi), fun y e => (by cases e)⟩
 ·refine ⟨hb, sa, sn, sc, da, dn, dc, na, nn, nc, pa, pn, pc, V, ?_, ?_, ?_⟩
  ·rw [stG, if_pos hc, hc]
  ·rw [stD, if_pos hc]
   exact (hD.mono (fun y _ h => h)).below hb
  ·rw [stL, if_pos hc, hs]
   exact ⟨h1, h2, hl, h3, h4, h5⟩
open Go.RowKit
set_option linter.unusedVariables false
theorem pcs_str (ps : List PB) : ∀ u ∈ pcs ps, isStr u := by
 induction ps with
 | nil => intro u hu; cases hu
 | cons p ps ih =>
  intro u hu
  simp only [pcs, List.mem_cons] at hu
  rcases hu with rfl | rfl | hu
  ·exact ⟨_, rfl⟩
  ·exact ⟨_, rfl⟩
  ·exact ih u hu
open Go.RowKit
open Go.RowKit
open Go.RowKit
open Go.RowKit
open Go.RowKit
open Go.RowKit
open Go.RowKit
open Go.RowKit
def klt (a b : ByteArray) : Bool := Op.bytesLess a.toList b.toList
def Asc (l : List PB) : Prop := l.Pairwise fun p q => klt p.1 q.1 = true
theorem tAt_lt {ks : List T} {i : Nat} (h : i < ks.length) : tAt ks i = ks[i] := by simp [tAt, h]
def pos : List PB → ByteArray → Nat
 | [], _ => 0
 | p :: l, k => if klt p.1 k = true then pos l k + 1 else 0
open Go.RowKit
open Go.RowKit
open Go.RowKit
open Go.RowKit
def there (l : List PB) (k : ByteArray) : Bool := decide (pos l k < l.length ∧ (pAtB l (pos l k)).1 = k)
open Go.RowKit
open Go.RowKit
open Go.RowKit
structure GetOk (t : T) : Prop where
 asc : Asc t.all
 br : t.ks ≠ [] → t.ps = [] ∧ ∀ x ∈ t.ks, x.full false = true
 few : t.ps.length ≤ 8 ∧ t.ks.length ≤ 8
open Go.RowKit
def bareT : T := .mk [] []
structure LB (w : World) (S : Nat → Prop) (b : Nat) (pv kv : Value) (ps : List PB) (ks : List T) (A : Nat → Nat) (SS : Nat → Nat → Prop) : Prop where
 hb : S b
 hB : Bk w b 195 [pv, kv]
 hP : w.ownsRow 0 112 2 pv ps.length (pcs ps)
 hK : w.ownsRow 0 165 1 kv ks.length (ptrs A ks.length)
 hPS : ∀ x, pv.ownBlock = some x → S x ∧ x ≠ b
 hKS : ∀ x, kv.ownBlock = some x → S x ∧ x ≠ b ∧ pv.ownBlock ≠ some x
 hSS : ∀ i, i < ks.length → ∀ x, SS i x → S x ∧ x ≠ b ∧ pv.ownBlock ≠ some x ∧ kv.ownBlock ≠ some x
 hD : ∀ i j, i < ks.length → j < ks.length → i ≠ j → ∀ x, SS i x → ¬ SS j x
 hk : ∀ i, i < ks.length → Limb w (SS i) (A i) (tAt ks i)
open Go.RowKit
def two (r : T × T) : List T := if r.2.bare = true then [r.1] else [r.1, r.2]
structure PutIn (h : Nat) (r : Bool) (t : T) : Prop where
 ev : Ev h t
 full : t.full r = true ∨ (r = true ∧ t = bareT)
 asc : Asc t.all
structure PutOut (h : Nat) (r : Bool) (l : List PB) (x : T × T) : Prop where
 ev : ∀ y ∈ two x, Ev h y
 one : x.2.bare = true → x.1.full r = true
 both : x.2.bare = false → x.1.full false = true ∧ x.2.full false = true
 all : allL (two x) = l
open Go.RowKit
open Go.RowKit
end Go.Proofs.YtidjehapeanpbaaGreatDoor
