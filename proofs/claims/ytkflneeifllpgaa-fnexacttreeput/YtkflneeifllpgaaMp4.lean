/-
  l03Lay of the specification: the nodes of a sub in the walk's order, behind others.
-/
import Derived.Test.YtkflneeifllpgaaMp2
import Derived.Deep.DeepCutAuto
import Derived.Test.YtkflneeifllpgaaMp1
import Derived.Laws.StructEq
import Derived.Test.YtkflneeifllpgaaMp3
import Derived.Laws.IdiomStrings
namespace Go.Proofs.Ytkflneeifllpgaa
open Go.RowKit
/-- What comes of laying. -/
def LayPost (w : World) (F : Nat → Prop) (v : Value) (ms : List NB) (e : Ending) (w' : World) : Prop :=
  ∃ v', e = .returned v' ∧ NO w' (fun y => F y ∨ (w.heap.size ≤ y ∧ y < w'.heap.size ∧ v'.ownBlock ≠ some y)) v' ms ∧ Only (fun y => v.ownBlock = some y) w w' ∧ ∀ y, v'.ownBlock = some y → v.ownBlock = some y ∨ w.heap.size ≤ y
set_option maxHeartbeats 8000000 in
set_option maxRecDepth 20000 in
theorem specLay_any (t : T) : ∀ (S : Nat → Prop) (lf : Bool) (ap ak : Option Addr) (np cp nk ck : Nat) (w : World) (F : Nat → Prop) (av : Option Addr) (nv cv : Nat) (ns : List NB) (r : Bool), Sub w S lf (.slice ap np cp) (.slice ak nk ck) t → (∀ y, S y → (Value.slice av nv cv).ownBlock ≠ some y) →
    NO w F (.slice av nv cv) ns → ns.length + t.size ≤ 1048576 → t.full r = true →
    Calls Try.prog 82 #[.slice av nv cv, .agg #[.bool lf, .slice ap np cp, .slice ak nk ck]] w fun e w' => LayPost w F (.slice av nv cv) (ns ++ lay ns.length t) e w' := by
  induction t using T.ind
  rename_i ps ks ih
  intro S lf ap ak np cp nk ck w F av nv cv ns r h hSv hN hsz hfu
  obtain ⟨ap', np', cp', ak', nk', ck', e1, e2, HNP, HNK, b1, b2, hlf, hP⟩ := h.shape
  cases e1
  cases e2
  obtain ⟨av', nv', cv', e3, HNV⟩ := hN.shape
  cases e3
  have H0 := hid h
  have HP := hid hP
  have HIH := hid ih
  have HSV := hid hSv
  have HN := hid hN
  have HSZ := hid hsz
  have HFU := hid hfu
  simp only [T.ks, T.ps] at HNK HNP HP
  have hnl : nv ≤ 1048576 := by have := HNV.out; have := HSZ.out; omega
  have HLF := hid hlf
  clear h ih hP hSv hN hsz hfu hlf
  have HB0 : Hid (Below w.heap.size w ((w.alloc (.cells #[.bool lf, .slice ap np cp, .slice ak nk ck] 74)).alloc (.cells #[.slice none 0 0, .slice none 0 0, .slice none 0 0] 106))) := below_new (below_new (Below.refl _ _))
  have KP : Hid (Bk ((w.alloc (.cells #[.bool lf, .slice ap np cp, .slice ak nk ck] 74)).alloc (.cells #[.slice none 0 0, .slice none 0 0, .slice none 0 0] 106)) w.heap.size 74 [.bool lf, .slice ap np cp, .slice ak nk ck]) := (Bk.new w 74 [.bool lf, .slice ap np cp, .slice ak nk ck]).alloc _
  have KZ : Hid (Bk ((w.alloc (.cells #[.bool lf, .slice ap np cp, .slice ak nk ck] 74)).alloc (.cells #[.slice none 0 0, .slice none 0 0, .slice none 0 0] 106)) (w.heap.size + 1) 106 [.slice none 0 0, .slice none 0 0, .slice none 0 0]) := by
    have := Bk.new (w.alloc (.cells #[.bool lf, .slice ap np cp, .slice ak nk ck] 74)) 106 [.slice none 0 0, .slice none 0 0, .slice none 0 0]
    show Bk _ _ _ _
    simpa using this
  have HN0 := hid (HN.out.kept HB0.out)
  have HVW := hid HN.out.lt
  go_enter Try.func82, Try.ntmps82
  go_wp2_with (at_builtin; refine wpList_append_zero rfl _ _ rfl F _ ns rfl HN0.out (w.heap.size + 1) rfl KZ.out ?q1 ?_)
  case q1 => have := HSZ.out; omega
  intro g1 n1 c1 w1 hN1 HN1L hg1 ha1
  have HO1 : Hid (Only (fun y => (Value.slice av nv cv).ownBlock = some y) w w1) := (only_of_below HB0.out _).trans (only_of_grown hg1 (fun k e => e))
  have HV1 : Hid (∀ y, (Value.slice (some ⟨g1, 0, none⟩) n1 c1).ownBlock = some y → (Value.slice av nv cv).ownBlock = some y ∨ w.heap.size + 2 ≤ y) := by
    intro y e
    rcases ha1 with ha | ha
    · exact .inl (ha ▸ e)
    · rw [ha] at e; cases e; right; simp
  have KP1 : Hid (Bk w1 w.heap.size 74 [.bool lf, .slice ap np cp, .slice ak nk ck]) := KP.out.to (only_of_grown (R := fun y => y < w.heap.size) hg1 (fun y e => HVW.out y e)) (by omega)
  have HN1 := hid hN1
  have HWS : Hid (w.heap.size + 2 ≤ w1.heap.size) := by have := hg1.size; simp at this; exact this
  have HSW : Hid (Sub w1 S lf (.slice ap np cp) (.slice ak nk ck) (.mk ps ks)) := H0.out.to HO1.out (fun y hy _ e => HSV.out y hy e)
  have HPW : Hid (Pr w1 S (.slice ap np cp) ps) := HP.out.to HO1.out (fun y hy _ e => HSV.out y hy e)
  have p0 := KP1.out.cell (j := 0) rfl
  have p1 := KP1.out.cell (j := 1) rfl
  have p2 := KP1.out.cell (j := 2) rfl
  have HSUB : Hid (Sub w (fun y => S y ∧ y < w.heap.size) lf (.slice ap np cp) (.slice ak nk ck) (.mk ps ks)) := H0.out.mono (fun y hy h => ⟨hy, h⟩)
  clear hN1 hg1 ha1 KP KZ HN0 HB0 H0 HP
  have hn1 : Hid (n1 = nv + 1) := by show _ = _; rw [HN1L.out, HNV.out]
  have hlt1 : (nv : Int) < (n1 : Int) := by have := hn1.out; omega
  by_cases hk : nk = 0
  · have hlf' : lf = true := by rw [HLF.out, hk]; rfl
    have hks : ks = [] := List.eq_nil_of_length_eq_zero (by have := HNK.out; omega)
    subst hlf' hks
    have hps : ps.length ≤ 4 := (full_lf HFU.out).1
    have HO := hid (ow_new w1 w1.heap.size (Nat.le_refl _))
    have HB1 := hid (below_new (o := .cells #[] 35) (w := w1) (Below.refl _ _))
    have p1' := (KP1.out.alloc (.cells #[] 35)).cell (j := 1) rfl
    clear hk HLF
    go_wp2_with (at_builtin; refine wpList_append_pairs rfl _ _ rfl w1.heap.size _ [] rfl HO.out S _ ps rfl (HPW.out.below HB1.out) ?q1 ?q2 ?_)
    case q1 => simp; omega
    case q2 => simp
    intro v2 w2 hO2 hg2
    obtain ⟨a2, n2, c2, hv2, HN2⟩ := hO2.shape'
    subst hv2
    have HO2 : Hid (Ow w2 w1.heap.size (.slice a2 n2 c2) ps) := hO2
    have HWB : Hid (Below w1.heap.size w1 w2) := HB1.out.trans (grown_belowB HO.out hg2 (by simp))
    have HN2' := hid (HN1.out.kept HWB.out)
    have HG1 : Hid (g1 < w1.heap.size) := HN1.out.lt g1 rfl
    have HF1 : Hid (∀ y, F y → y < w1.heap.size ∧ g1 ≠ y) := by
      intro y hy
      obtain ⟨V, _, _, _, n4, _⟩ := HN1.out
      exact ⟨(n4 y hy).1, fun e => (n4 y hy).2 (by rw [← e]; rfl)⟩
    obtain ⟨⟨x0, x1, x2, m0, _, _⟩, mf⟩ := HN2'.out.cells ns.length (by simp)
    have mf0 := mf (nv * 3)
    rw [← HNV.out] at m0
    have HFIN : Hid (NO (w2.setCell ⟨g1, nv * 3, none⟩ (.slice a2 n2 c2)) (fun y => F y ∨ (w.heap.size ≤ y ∧ y < (w2.setCell ⟨g1, nv * 3, none⟩ (.slice a2 n2 c2)).heap.size ∧ (Value.slice (some ⟨g1, 0, none⟩) n1 c1).ownBlock ≠ some y)) (.slice (some ⟨g1, 0, none⟩) n1 c1) (ns ++ lay ns.length (.mk ps []))) := by
      have hz : (w2.setCell ⟨g1, nv * 3, none⟩ (.slice a2 n2 c2)).heap.size = w2.heap.size := by simp [World.setCell]
      have hsz2 := HWB.out.size
      have e : lay ns.length (.mk ps []) = [⟨ps, [], []⟩] := by simp [lay]
      rw [hz, e]
      have hO0 : w2.ownsRow 0 35 2 (.slice a2 n2 c2) ps.length (pcs ps) := own_lower HO2.out
      have := NO.put0 (F := fun y => F y ∨ (w.heap.size ≤ y ∧ y < w2.heap.size ∧ (Value.slice (some ⟨g1, 0, none⟩) n1 c1).ownBlock ≠ some y)) (ms := ns) (l := []) (z := ⟨[], [], []⟩) HN2'.out (fun y hy => .inl hy) (by
        rintro y (hy | hy)
        · exact ⟨by have := HF1.out y hy; omega, fun e => (HF1.out y hy).2 (by cases e; rfl)⟩
        · exact hy.2) hO0 (fun y hy => by
          have h1 := own_ge HO2.out y hy
          have h2 := (World.ownsRow.lt HO2.out y hy).2
          exact ⟨.inr ⟨by have := HWS.out; omega, h2, fun e => by simp [Value.ownBlock] at e; have := HG1.out; omega⟩, fun hf => by have := HF1.out y hf; omega⟩)
      rw [← HNV.out] at this
      exact this
    have HOF : Hid (Only (fun y => (Value.slice av nv cv).ownBlock = some y) w (w2.setCell ⟨g1, nv * 3, none⟩ (.slice a2 n2 c2))) := by
      refine (HO1.out.trans (only_of_below HWB.out _)).then (only_set (R := fun y => y = g1) rfl _) (fun y hy e => ?_)
      subst e
      rcases HV1.out y rfl with h | h
      · exact h
      · omega
    clear hO2 hg2 mf HN2' HO2
    go_wp2
    go_ret
    exact ⟨_, rfl, HFIN.out, HOF.out, fun y hy => (HV1.out y hy).imp id (fun h => by omega)⟩
  · have hlf' : lf = false := by rw [HLF.out]; simp [hk]
    subst hlf'
    have hkne : ks ≠ [] := by rintro rfl; have := HNK.out; simp at this; omega
    have HBR := hid (full_br HFU.out hkne)
    have HLY : Hid (ns ++ lay ns.length (T.mk ps ks) = ns ++ ⟨[], ks.tail.map T.least, places (ns.length + 1) ks⟩ :: layL (ns.length + 1) ks) := by show _ = _; simp [lay, hkne]
    have HSZK : Hid (ns.length + 1 + szL ks ≤ 1048576) := by have := HSZ.out; simp only [T.size] at this; show _ ≤ _; omega
    have HI0 : Hid (LyI w (w1.alloc (.cells #[.slice none 0 0, .slice none 0 0, .slice none 0 0] 106)) F (.slice av nv cv) (.slice (some ⟨g1, 0, none⟩) n1 c1) (.bool false) (.slice ap np cp) (.slice ak nk ck) w1.heap.size (.slice none 0 0) (.slice none 0 0) F (ns ++ [⟨[], [], []⟩]) [] []) := by
      have hF := fun y hy => (show y < w.heap.size from by obtain ⟨V, _, _, _, n4, _⟩ := HN.out; exact (n4 y hy).1)
      have hws := HWS.out
      refine ⟨hF, HVW.out, by omega, HN1.out.kept (below_new (Below.refl _ _)), KP1.out.alloc _, Bk.new w1 106 [.slice none 0 0, .slice none 0 0, .slice none 0 0], World.ownsRow_nil _ _ _ _, World.ownsRow_nil _ _ _ _, fun y hy => ⟨.inl hy, by have := hF y hy; omega, by simp [Value.ownBlock], by simp [Value.ownBlock]⟩, fun y hy => hy, fun y hy => ⟨(HV1.out y hy).imp id (fun h => by omega), ?_, by simp [Value.ownBlock], by simp [Value.ownBlock]⟩, fun y hy => (by cases hy), fun y hy => (by cases hy), HO1.out.trans (only_alloc _ _ _)⟩
      have := HN1.out.lt y hy
      omega
    have p2' := HI0.out.par.cell (j := 2) rfl
    clear hk HLF HN1 KP1 HN
    go_wp2_with fail
    go_loopw [0, 29] (fun x i wr => ∃ (k : Nat) (a' : Option Addr) (n' c' : Nat) (kx ki : Value) (Fk : Nat → Prop), k ≤ nk ∧ i = .int .i64 k ∧ x = .slice a' n' c' ∧ Hid (LyI w wr F (.slice av nv cv) (.slice a' n' c') (.bool false) (.slice ap np cp) (.slice ak nk ck) w1.heap.size kx ki Fk (ns ++ ⟨[], [], []⟩ :: layL (ns.length + 1) (ks.take k)) ((ks.take k).tail.map T.least) (places (ns.length + 1) (ks.take k)))) (fun _ i _ => nk - (intOf i).toNat)
    case atStart => exact ⟨0, _, _, _, _, _, F, Nat.zero_le _, rfl, rfl, by show LyI _ _ _ _ _ _ _ _ _ _ _ _ _ _ _; simpa [layL, places] using HI0.out⟩
    case round =>
      obtain ⟨k, a', n', c', kx, ki, Fk, hkn, rfl, rfl, HL⟩ := hrel
      by_cases hlt : k < nk
      · have hlt' : (k : Int) < (nk : Int) := by omega
        have hks : k < ks.length := by rw [← HNK.out]; exact hlt
        obtain ⟨aki, cki, hki⟩ := own_shape HL.out.ri
        generalize hnki : (places (ns.length + 1) (ks.take k)).length = nki at hki
        have HNKI := hid hnki
        clear hnki
        subst hki
        have HLu := hid (HL.out.keep (below_new (o := .cells #[.int .i64 (n' : Int)] 3) (Below.refl _ _)))
        have y2 := HL.out.nod.cell (j := 2) rfl
        obtain ⟨aq, nq', cq, eq, HNQ⟩ := HL.out.nodes.shape
        cases eq
        have HLN : Hid (n' = ns.length + 1 + szL (ks.take k)) := by show _ = _; rw [HNQ.out]; simp [layL_length]; omega
        have hkk : nki ≤ 1048576 := by
          have h1 := HNKI.out
          rw [places_length, List.length_take] at h1
          have h2 := HBR.out.2.1
          omega
        have HRI : Hid (World.ownsRow (wr.alloc (.cells #[.int .i64 (n' : Int)] 3)) 0 3 1 (.slice aki nki cki) (places (ns.length + 1) (ks.take k)).length ((places (ns.length + 1) (ks.take k)).map (Value.int .i64))) := HLu.out.ri
        rw [HNKI.out] at HRI
        go_wp2_with (at_builtin; refine wpList_append_int1 rfl _ _ rfl _ nki _ rfl HRI.out wr.heap.size (n' : Int) rfl (Bk.new wr 3 [.int .i64 (n' : Int)]) hkk ?_)
        intro ai2 ni2 ci2 w2 hO2 hg2 ha2
        have HL2 : Hid (LyI w (w2.setCell ⟨w1.heap.size, 2, none⟩ (.slice ai2 ni2 ci2)) F (.slice av nv cv) (.slice a' n' c') (.bool false) (.slice ap np cp) (.slice ak nk ck) w1.heap.size kx (.slice ai2 ni2 ci2) Fk (ns ++ ⟨[], [], []⟩ :: layL (ns.length + 1) (ks.take k)) ((ks.take k).tail.map T.least) (places (ns.length + 1) (ks.take (k + 1)))) := by
          have h1 := HLu.out.addKid (n' : Int) (by rw [HNKI.out]; exact hO2) hg2 (by simpa using ha2)
          have h2 : places (ns.length + 1) (ks.take (k + 1)) = places (ns.length + 1) (ks.take k) ++ [(n' : Int)] := by rw [places_take ks k _ hks, HLN.out]
          show LyI _ _ _ _ _ _ _ _ _ _ _ _ _ _ _
          rw [h2]
          exact h1
        have K2 := HLu.out.nod.to (only_of_grown (R := fun y => (Value.slice aki nki cki).ownBlock = some y) hg2 (fun y e => e)) (fun e => (HLu.out.ib _ e).2 rfl)
        have z2 := K2.cell (j := 2) rfl
        have zf := K2.free 2
        clear hO2 hg2 ha2 K2 HRI HLu HL y2
        cases k with
        | zero =>
          have HLX := HL2
          -- the kid's nodes
          have HSUBX := hid (HSUB.out.to HLX.out.only (fun y hy _ e => HSV.out y hy.1 e))
          obtain ⟨gk, ofk, hak, _, _, hkid⟩ := HSUBX.out.kids (by omega)
          try subst hak
          obtain ⟨l1, ap1, np1, cp1, ak1, nk1, ck1, x0, x1, x2, hs1⟩ := hkid 0 hlt
          simp only [Nat.zero_mul, Nat.add_zero] at x0 x1 x2
          have HS1 := hid hs1
          have pp2 := HLX.out.par.cell (j := 2) rfl
          have HLEN : Hid ((ns ++ ⟨[], [], []⟩ :: layL (ns.length + 1) (ks.take (0))).length = ns.length + 1 + szL (ks.take (0))) := by show _ = _; simp [layL_length]; omega
          have HEQ : Hid ((ns ++ ⟨[], [], []⟩ :: layL (ns.length + 1) (ks.take (0))) ++ lay (ns ++ ⟨[], [], []⟩ :: layL (ns.length + 1) (ks.take (0))).length (tAt ks (0)) = ns ++ ⟨[], [], []⟩ :: layL (ns.length + 1) (ks.take (0 + 1))) := by
            show _ = _
            rw [HLEN.out, layL_take ks (0) (ns.length + 1) hks]
            simp
          have HBND : Hid ((ns ++ ⟨[], [], []⟩ :: layL (ns.length + 1) (ks.take (0))).length + (tAt ks (0)).size ≤ 1048576) := by
            show _ ≤ _
            have h1 := szL_take_le ks (0 + 1)
            rw [szL_take ks (0) hks] at h1
            have h2 := HSZK.out
            rw [HLEN.out]
            omega
          have HVS : Hid (∀ y, (S y ∧ y < w.heap.size) → (Value.slice a' n' c').ownBlock ≠ some y) := by
            intro y hy e
            rcases (HLX.out.vb y e).1 with h | h
            · exact HSV.out y hy.1 h
            · omega
          simp only [T.ks] at HS1
          clear hkid hs1 HSUBX
          go_wp2_with fail
          refine (HIH.out (tAt ks (0)) (tAt_mem hks) (fun y => S y ∧ y < w.heap.size) l1 ap1 ak1 np1 cp1 nk1 ck1 _ Fk a' n' c' (ns ++ ⟨[], [], []⟩ :: layL (ns.length + 1) (ks.take (0))) false HS1.out HVS.out HLX.out.nodes HBND.out (HBR.out.2.2.2 _ (tAt_mem hks))).mono ?_
          rintro e w9 ⟨v9, rfl, hN9, ho9, hv9⟩
          rw [HEQ.out] at hN9
          obtain ⟨a9, n9, c9, e9, _⟩ := hN9.shape
          subst e9
          have HL9 := hid (HLX.out.sub hN9 ho9 hv9)
          clear hN9 ho9 hv9 x0 x1 x2 pp2 HLX HS1
          go_wp2
          go_roundw
          case rel => exact ⟨0 + 1, a9, n9, c9, _, _, _, by omega, by go_num, rfl, by show LyI _ _ _ _ _ _ _ _ _ _ _ _ _ _ _; have e : (ks.take (0 + 1)).tail.map T.least = (ks.take 0).tail.map T.least := (by cases ks <;> simp); rw [e]; exact HL9.out⟩
          case measure => simp [intOf]; omega
        | succ k' =>
          have hk1 : (0 : Int) < (k' : Int) + 1 := by omega
          have hk2 : (k' : Int) + 1 < (nk : Int) := by omega
          have hk3 : 0 ≤ (k' : Int) + 1 := by omega
          have hk4 : ((k' : Int) + 1).toNat = k' + 1 := by omega
          generalize hU2 : w2.setCell ⟨w1.heap.size, 2, none⟩ (.slice ai2 ni2 ci2) = u2 at HL2
          obtain ⟨akx, ckx, hkx⟩ := own_shape HL2.out.rx
          generalize hnkx : ((ks.take (k' + 1)).tail.map T.least).length = nkx at hkx
          have HNKX := hid hnkx
          clear hnkx
          subst hkx
          have HSUB2 := hid (HSUB.out.to HL2.out.only (fun y hy _ e => HSV.out y hy.1 e))
          obtain ⟨gk, ofk, hak, hgs, _, hkid⟩ := HSUB2.out.kids (by omega)
          subst hak
          obtain ⟨l1, ap1, np1, cp1, ak1, nk1, ck1, x0, x1, x2, hs1⟩ := hkid (k' + 1) hlt
          have n1c := HL2.out.nod.cell (j := 1) rfl
          have n1f := HL2.out.nod.free 1
          have pp2 := HL2.out.par.cell (j := 2) rfl
          have hnbx : (Value.slice akx nkx ckx).ownBlock ≠ some w1.heap.size := fun e => (HL2.out.xb _ e).2.1 rfl
          have hgk : ¬ ((Value.slice akx nkx ckx).ownBlock = some gk ∨ gk = w1.heap.size) := by
            have h1 : gk < w.heap.size := hgs.2
            have h2 := HL2.out.lo
            rintro (e | e)
            · have := (HL2.out.xb _ e).1; omega
            · omega
          have hpb : ¬ ((Value.slice akx nkx ckx).ownBlock = some w.heap.size ∨ w.heap.size = w1.heap.size) := by
            have h2 := HL2.out.lo
            rintro (e | e)
            · have := (HL2.out.xb _ e).1; omega
            · omega
          have T0 : Hid (KO (fun y => (Value.slice akx nkx ckx).ownBlock = some y ∨ y = w1.heap.size) u2 u2 [(⟨w.heap.size, 2, none⟩, .slice (some ⟨gk, ofk, none⟩) nk ck), (⟨gk, ofk + (k' + 1) * 3, none⟩, .bool l1), (⟨gk, ofk + (k' + 1) * 3 + 1, none⟩, .slice ap1 np1 cp1), (⟨gk, ofk + (k' + 1) * 3 + 2, none⟩, .slice ak1 nk1 ck1)]) := ⟨fun p hp => by simp at hp; rcases hp with rfl | rfl | rfl | rfl <;> exact ⟨by assumption, by assumption⟩, Only.refl _ _⟩
          have HLE : Hid (∀ z, Below u2.heap.size u2 z → Calls Try.prog 122 #[.agg #[.bool l1, .slice ap1 np1 cp1, .slice ak1 nk1 ck1]] z fun e w' => e = .returned (.string (tAt ks (k' + 1)).least) ∧ Below z.heap.size z w') := fun z hz => specLeast_any (tAt ks (k' + 1)) _ l1 ap1 ak1 np1 cp1 nk1 ck1 z (by simp only [T.ks] at hs1; exact hs1.kept hz)
          have HOW : Hid (∀ z o, Below u2.drew.heap.size u2.drew z → World.ownsRow (z.alloc o) 0 9 1 (.slice akx nkx ckx) nkx (((ks.take (k' + 1)).tail.map T.least).map Value.string)) := fun z o hz => by
            have h1 := ((HL2.out.keep (below_drew _)).keep hz).keep (below_new (o := o) (Below.refl _ _))
            have h2 := h1.rx
            rw [HNKX.out] at h2
            exact h2
          have HCK : Hid (∀ z, Below u2.drew.heap.size u2.drew z → z.cell? ⟨w1.heap.size, 1, none⟩ = some (.slice akx nkx ckx) ∧ ∀ o, (z.alloc o).cell? ⟨w1.heap.size, 1, none⟩ = some (.slice akx nkx ckx)) := fun z hz =>
            ⟨((HL2.out.keep (below_drew _)).keep hz).nod.cell (j := 1) rfl, fun o => (((HL2.out.keep (below_drew _)).keep hz).keep (below_new (o := o) (Below.refl _ _))).nod.cell (j := 1) rfl⟩
          have HFK : Hid (∀ z o, Below u2.drew.heap.size u2.drew z → (z.alloc o).frozen? ⟨w1.heap.size, 1, none⟩ = false) := fun z o hz => (((HL2.out.keep (below_drew _)).keep hz).keep (below_new (o := o) (Below.refl _ _))).nod.free 1
          have hkx2 : nkx ≤ 1048576 := by
            have h1 := HNKX.out
            simp at h1
            have h2 := HBR.out.2.1
            omega
          have HFIN : Hid (∀ z o, Below u2.drew.heap.size u2.drew z → ∀ a5 n5 c5 w5, w5.ownsRow 0 9 1 (.slice a5 n5 c5) (nkx + 1) (((ks.take (k' + 1)).tail.map T.least).map Value.string ++ [.string (tAt ks (k' + 1)).least]) → (z.alloc o).grownBy w5 (Value.slice akx nkx ckx).ownBlock → ((Value.slice a5 n5 c5).ownBlock = (Value.slice akx nkx ckx).ownBlock ∨ (Value.slice a5 n5 c5).ownBlock = some (z.alloc o).heap.size) →
              LyI w (w5.setCell ⟨w1.heap.size, 1, none⟩ (.slice a5 n5 c5)) F (.slice av nv cv) (.slice a' n' c') (.bool false) (.slice ap np cp) (.slice (some ⟨gk, ofk, none⟩) nk ck) w1.heap.size (.slice a5 n5 c5) (.slice ai2 ni2 ci2) Fk (ns ++ ⟨[], [], []⟩ :: layL (ns.length + 1) (ks.take (k' + 1))) ((ks.take (k' + 1 + 1)).tail.map T.least) (places (ns.length + 1) (ks.take (k' + 1 + 1)))) := fun z o hz a5 n5 c5 w5 hO hg ha => by
            have h1 := (((HL2.out.keep (below_drew _)).keep hz).keep (below_new (o := o) (Below.refl _ _))).addKey (tAt ks (k' + 1)).least (by rw [HNKX.out]; exact hO) hg ha
            rw [keys_take ks k' hks]
            exact h1
          clear hkid hs1 HSUB2
          go_wp2_with fail
          clear hU2
          refine wp_region_noPanic ?_
          refine wp_region_held_drew (S := (fun z => z.cell? ⟨w.heap.size, 2, none⟩ = some (.slice (some ⟨gk, ofk, none⟩) nk ck) ∧ z.cell? ⟨gk, ofk + (k' + 1) * 3, none⟩ = some (.bool l1) ∧ z.cell? ⟨gk, ofk + (k' + 1) * 3 + 1, none⟩ = some (.slice ap1 np1 cp1) ∧ z.cell? ⟨gk, ofk + (k' + 1) * 3 + 2, none⟩ = some (.slice ak1 nk1 ck1) ∧ KO (fun y => (Value.slice akx nkx ckx).ownBlock = some y ∨ y = w1.heap.size) u2 z [(⟨w.heap.size, 2, none⟩, .slice (some ⟨gk, ofk, none⟩) nk ck), (⟨gk, ofk + (k' + 1) * 3, none⟩, .bool l1), (⟨gk, ofk + (k' + 1) * 3 + 1, none⟩, .slice ap1 np1 cp1), (⟨gk, ofk + (k' + 1) * 3 + 2, none⟩, .slice ak1 nk1 ck1)])) (by kernel_rfl) ?_ (fun hHeld => ?_)
          · exact ko4 ⟨T0.out.cells, only_drew _ _ 1⟩
          simp only [List.size_toArray, List.length_cons, List.length_nil, Array.replicate_succ, Array.replicate_zero, Nat.reduceAdd, List.push_toArray, List.nil_append, List.cons_append]
          refine wpAnyH_take (i := 0) (v := .pointer (some ⟨w1.heap.size, 1, none⟩)) rfl (by kernel_rfl) (by kernel_rfl) (by kernel_rfl) (fun _ _ _ h => h) (Or.inl ⟨by rfl, ?_⟩) (by assumption) ?_
          · intro w hSw
            obtain ⟨g1', g2', g3', g4', _⟩ := hSw
            go_simp
          try simp only [List.getElem_toArray]
          try simp only [List.getElem_cons_succ]
          try simp only [List.getElem_cons_zero]
          try simp only [Act.put]
          try simp only [List.setIfInBounds_toArray]
          try simp only [List.set_cons_succ]
          try simp only [List.set_cons_zero]
          refine wpAnyH_take (i := 2) (v := .pointer (some ⟨w.heap.size, 2, none⟩)) rfl (by kernel_rfl) (by kernel_rfl) (by kernel_rfl) (fun _ _ _ h => h) (Or.inl ⟨by rfl, ?_⟩) (by assumption) ?_
          · intro w hSw
            obtain ⟨g1', g2', g3', g4', _⟩ := hSw
            go_simp
          try simp only [List.getElem_toArray]
          try simp only [List.getElem_cons_succ]
          try simp only [List.getElem_cons_zero]
          try simp only [Act.put]
          try simp only [List.setIfInBounds_toArray]
          try simp only [List.set_cons_succ]
          try simp only [List.set_cons_zero]
          refine wpAnyH_take (i := 3) (v := .slice (some ⟨gk, ofk, none⟩) nk ck) rfl (by kernel_rfl) (by kernel_rfl) (by kernel_rfl) (fun _ _ _ h => h) (Or.inl ⟨by rfl, ?_⟩) (by assumption) ?_
          · intro w hSw
            obtain ⟨g1', g2', g3', g4', _⟩ := hSw
            go_simp
          try simp only [List.getElem_toArray]
          try simp only [List.getElem_cons_succ]
          try simp only [List.getElem_cons_zero]
          try simp only [Act.put]
          try simp only [List.setIfInBounds_toArray]
          try simp only [List.set_cons_succ]
          try simp only [List.set_cons_zero]
          refine wpAnyH_take (i := 4) (v := .int .i64 ((k' + 1 : Nat) : Int)) rfl (by kernel_rfl) (by kernel_rfl) (by kernel_rfl) (fun _ _ _ h => h) (Or.inl ⟨by rfl, ?_⟩) (by assumption) ?_
          · intro w hSw
            obtain ⟨g1', g2', g3', g4', _⟩ := hSw
            go_simp
          try simp only [List.getElem_toArray]
          try simp only [List.getElem_cons_succ]
          try simp only [List.getElem_cons_zero]
          try simp only [Act.put]
          try simp only [List.setIfInBounds_toArray]
          try simp only [List.set_cons_succ]
          try simp only [List.set_cons_zero]
          refine wpAnyH_take (i := 5) (v := .pointer (some ⟨gk, ofk + (k' + 1) * 3, none⟩)) rfl (by kernel_rfl) (by kernel_rfl) (by kernel_rfl) (fun _ _ _ h => h) (Or.inl ⟨by rfl, ?_⟩) (by assumption) ?_
          · intro w hSw
            obtain ⟨g1', g2', g3', g4', _⟩ := hSw
            go_simp
          try simp only [List.getElem_toArray]
          try simp only [List.getElem_cons_succ]
          try simp only [List.getElem_cons_zero]
          try simp only [Act.put]
          try simp only [List.setIfInBounds_toArray]
          try simp only [List.set_cons_succ]
          try simp only [List.set_cons_zero]
          refine wpAnyH_take (i := 6) (v := .agg #[.bool l1, .slice ap1 np1 cp1, .slice ak1 nk1 ck1]) rfl (by kernel_rfl) (by kernel_rfl) (by kernel_rfl) (fun _ _ _ h => h) (Or.inl ⟨by rfl, ?_⟩) (by assumption) ?_
          · intro w hSw
            obtain ⟨g1', g2', g3', g4', _⟩ := hSw
            go_simp
          try simp only [List.getElem_toArray]
          try simp only [List.getElem_cons_succ]
          try simp only [List.getElem_cons_zero]
          try simp only [Act.put]
          try simp only [List.setIfInBounds_toArray]
          try simp only [List.set_cons_succ]
          try simp only [List.set_cons_zero]
          refine wpAnyH_ready (rs := [1, 7]) (by kernel_rfl) (by simp) ?_
          refine AllReadyH.cons rfl (fun K1 hK => ?_) (AllReadyH.cons rfl (fun K1 hK => ?_) AllReadyH.nil)
          · skip
            go_simp
            try go_wp2_with fail
            refine hK.out _ _ ?_ (fun hHeld => ?_)
            · first | assumption | exact ko4 ⟨T0.out.cells, only_drew _ _ 1⟩ | exact ko4o (only_of_below hbC _) (by assumption) | exact ko4o (only_alloc _ _ _) (by assumption) | exact ko4o (only_of_grown hg5 (fun y e => .inl e)) (by assumption) | exact ko4o (only_set (.inr rfl) _) (by assumption)
            clear hK K1
            try simp only [List.getElem_toArray]
            try simp only [List.getElem_cons_succ]
            try simp only [List.getElem_cons_zero]
            try simp only [Act.put]
            try simp only [List.setIfInBounds_toArray]
            try simp only [List.set_cons_succ]
            try simp only [List.set_cons_zero]
            refine wpAnyH_ready (rs := [7]) (by kernel_rfl) (by simp) ?_
            refine AllReadyH.cons rfl (fun K1 hK => ?_) AllReadyH.nil
            go_simp
            refine (HLE.out _ (below_drew _)).mono ?_
            rintro e w' ⟨rfl, hbC⟩
            have hq1 := (HCK.out _ hbC).1
            have hq2 := (HCK.out _ hbC).2
            go_wp2_with fail
            refine hK.out _ _ ?_ (fun hHeld => ?_)
            · first | assumption | exact ko4 ⟨T0.out.cells, only_drew _ _ 1⟩ | exact ko4o (only_of_below hbC _) (by assumption) | exact ko4o (only_alloc _ _ _) (by assumption) | exact ko4o (only_of_grown hg5 (fun y e => .inl e)) (by assumption) | exact ko4o (only_set (.inr rfl) _) (by assumption)
            clear hK K1
            try simp only [List.getElem_toArray]
            try simp only [List.getElem_cons_succ]
            try simp only [List.getElem_cons_zero]
            try simp only [Act.put]
            try simp only [List.setIfInBounds_toArray]
            try simp only [List.set_cons_succ]
            try simp only [List.set_cons_zero]
            refine wpAnyH_ready (rs := [8]) (by kernel_rfl) (by simp) ?_
            refine AllReadyH.cons rfl (fun K1 hK => ?_) AllReadyH.nil
            go_simp
            try go_wp2_with fail
            refine hK.out _ _ ?_ (fun hHeld => ?_)
            · first | assumption | exact ko4 ⟨T0.out.cells, only_drew _ _ 1⟩ | exact ko4o (only_of_below hbC _) (by assumption) | exact ko4o (only_alloc _ _ _) (by assumption) | exact ko4o (only_of_grown hg5 (fun y e => .inl e)) (by assumption) | exact ko4o (only_set (.inr rfl) _) (by assumption)
            clear hK K1
            try simp only [List.getElem_toArray]
            try simp only [List.getElem_cons_succ]
            try simp only [List.getElem_cons_zero]
            try simp only [Act.put]
            try simp only [List.setIfInBounds_toArray]
            try simp only [List.set_cons_succ]
            try simp only [List.set_cons_zero]
            refine wpAnyH_ready (rs := [9]) (by kernel_rfl) (by simp) ?_
            refine AllReadyH.cons rfl (fun K1 hK => ?_) AllReadyH.nil
            refine step_append_str1 rfl _ _ rfl _ nkx _ rfl (HOW.out _ _ hbC) _ (tAt ks (k' + 1)).least rfl (by simp) hkx2 w1.heap.size 1 _ (hq2 _) (HFK.out _ _ hbC) hnbx ?_
            intro a5 n5 c5 w5 hO5 hg5 ha5 hc5 hf5
            refine hK.out _ _ ?_ (fun hHeld => ?_)
            · first | assumption | exact ko4 ⟨T0.out.cells, only_drew _ _ 1⟩ | exact ko4o (only_of_below hbC _) (by assumption) | exact ko4o (only_alloc _ _ _) (by assumption) | exact ko4o (only_of_grown hg5 (fun y e => .inl e)) (by assumption) | exact ko4o (only_set (.inr rfl) _) (by assumption)
            clear hK K1
            try simp only [List.getElem_toArray]
            try simp only [List.getElem_cons_succ]
            try simp only [List.getElem_cons_zero]
            try simp only [Act.put]
            try simp only [List.setIfInBounds_toArray]
            try simp only [List.set_cons_succ]
            try simp only [List.set_cons_zero]
            refine wpAnyH_ready (rs := [10]) (by kernel_rfl) (by simp) ?_
            refine AllReadyH.cons rfl (fun K1 hK => ?_) AllReadyH.nil
            go_simp
            try go_wp2_with fail
            refine hK.out _ _ ?_ (fun hHeld => ?_)
            · first | assumption | exact ko4 ⟨T0.out.cells, only_drew _ _ 1⟩ | exact ko4o (only_of_below hbC _) (by assumption) | exact ko4o (only_alloc _ _ _) (by assumption) | exact ko4o (only_of_grown hg5 (fun y e => .inl e)) (by assumption) | exact ko4o (only_set (.inr rfl) _) (by assumption)
            clear hK K1
            try simp only [List.getElem_toArray]
            try simp only [List.getElem_cons_succ]
            try simp only [List.getElem_cons_zero]
            try simp only [Act.put]
            try simp only [List.setIfInBounds_toArray]
            try simp only [List.set_cons_succ]
            try simp only [List.set_cons_zero]
            refine wpAnyH_ready (rs := [11]) (by kernel_rfl) (by simp) ?_
            refine AllReadyH.cons rfl (fun K1 hK => ?_) AllReadyH.nil
            go_simp
            try go_wp2_with fail
            refine hK.out _ _ ?_ (fun hHeld => ?_)
            · first | assumption | exact ko4 ⟨T0.out.cells, only_drew _ _ 1⟩ | exact ko4o (only_of_below hbC _) (by assumption) | exact ko4o (only_alloc _ _ _) (by assumption) | exact ko4o (only_of_grown hg5 (fun y e => .inl e)) (by assumption) | exact ko4o (only_set (.inr rfl) _) (by assumption)
            clear hK K1
            try simp only [List.getElem_toArray]
            try simp only [List.getElem_cons_succ]
            try simp only [List.getElem_cons_zero]
            try simp only [Act.put]
            try simp only [List.setIfInBounds_toArray]
            try simp only [List.set_cons_succ]
            try simp only [List.set_cons_zero]
            refine wpAnyH_done (by kernel_rfl) ?_ _
            refine NoPanic.normal ?_
            have HLX := hid (HFIN.out _ _ hbC _ _ _ _ hO5 hg5 ha5)
            clear hO5 hg5 ha5 hc5 hf5 hbC hq1 hq2 HFIN HFK HCK HOW HLE T0 hgk hpb hnbx HL2 z2 zf n1c n1f pp2 x0 x1 x2 hHeld
            -- the kid's nodes
            have HSUBX := hid (HSUB.out.to HLX.out.only (fun y hy _ e => HSV.out y hy.1 e))
            obtain ⟨gk9, ofk9, hak, _, _, hkid⟩ := HSUBX.out.kids (by omega)
            cases hak
            obtain ⟨l9, ap9, np9, cp9, ak9, nk9, ck9, x0, x1, x2, hs1⟩ := hkid (k' + 1) hlt
            have HS1 := hid hs1
            have pp2 := HLX.out.par.cell (j := 2) rfl
            have HLEN : Hid ((ns ++ ⟨[], [], []⟩ :: layL (ns.length + 1) (ks.take (k' + 1))).length = ns.length + 1 + szL (ks.take (k' + 1))) := by show _ = _; simp [layL_length]; omega
            have HEQ : Hid ((ns ++ ⟨[], [], []⟩ :: layL (ns.length + 1) (ks.take (k' + 1))) ++ lay (ns ++ ⟨[], [], []⟩ :: layL (ns.length + 1) (ks.take (k' + 1))).length (tAt ks (k' + 1)) = ns ++ ⟨[], [], []⟩ :: layL (ns.length + 1) (ks.take (k' + 1 + 1))) := by
              show _ = _
              rw [HLEN.out, layL_take ks (k' + 1) (ns.length + 1) hks]
              simp
            have HBND : Hid ((ns ++ ⟨[], [], []⟩ :: layL (ns.length + 1) (ks.take (k' + 1))).length + (tAt ks (k' + 1)).size ≤ 1048576) := by
              show _ ≤ _
              have h1 := szL_take_le ks (k' + 1 + 1)
              rw [szL_take ks (k' + 1) hks] at h1
              have h2 := HSZK.out
              rw [HLEN.out]
              omega
            have HVS : Hid (∀ y, (S y ∧ y < w.heap.size) → (Value.slice a' n' c').ownBlock ≠ some y) := by
              intro y hy e
              rcases (HLX.out.vb y e).1 with h | h
              · exact HSV.out y hy.1 h
              · omega
            simp only [T.ks] at HS1
            clear hkid hs1 HSUBX
            go_wp2_with fail
            refine (HIH.out (tAt ks (k' + 1)) (tAt_mem hks) (fun y => S y ∧ y < w.heap.size) l9 ap9 ak9 np9 cp9 nk9 ck9 _ Fk a' n' c' (ns ++ ⟨[], [], []⟩ :: layL (ns.length + 1) (ks.take (k' + 1))) false HS1.out HVS.out HLX.out.nodes HBND.out (HBR.out.2.2.2 _ (tAt_mem hks))).mono ?_
            rintro e w9 ⟨v9, rfl, hN9, ho9, hv9⟩
            rw [HEQ.out] at hN9
            obtain ⟨aZ, nZ, cZ, e9, _⟩ := hN9.shape
            subst e9
            have HL9 := hid (HLX.out.sub hN9 ho9 hv9)
            clear hN9 ho9 hv9 x0 x1 x2 pp2 HLX HS1
            go_wp2
            go_roundw
            case rel => exact ⟨k' + 1 + 1, aZ, nZ, cZ, _, _, _, by omega, by go_num, rfl, HL9.out⟩
            case measure => simp [intOf]; omega
          · skip
            go_simp
            refine (HLE.out _ (below_drew _)).mono ?_
            rintro e w' ⟨rfl, hbC⟩
            have hq1 := (HCK.out _ hbC).1
            have hq2 := (HCK.out _ hbC).2
            go_wp2_with fail
            refine hK.out _ _ ?_ (fun hHeld => ?_)
            · first | assumption | exact ko4 ⟨T0.out.cells, only_drew _ _ 1⟩ | exact ko4o (only_of_below hbC _) (by assumption) | exact ko4o (only_alloc _ _ _) (by assumption) | exact ko4o (only_of_grown hg5 (fun y e => .inl e)) (by assumption) | exact ko4o (only_set (.inr rfl) _) (by assumption)
            clear hK K1
            try simp only [List.getElem_toArray]
            try simp only [List.getElem_cons_succ]
            try simp only [List.getElem_cons_zero]
            try simp only [Act.put]
            try simp only [List.setIfInBounds_toArray]
            try simp only [List.set_cons_succ]
            try simp only [List.set_cons_zero]
            refine wpAnyH_ready (rs := [1, 8]) (by kernel_rfl) (by simp) ?_
            refine AllReadyH.cons rfl (fun K1 hK => ?_) (AllReadyH.cons rfl (fun K1 hK => ?_) AllReadyH.nil)
            · skip
              go_simp
              try go_wp2_with fail
              refine hK.out _ _ ?_ (fun hHeld => ?_)
              · first | assumption | exact ko4 ⟨T0.out.cells, only_drew _ _ 1⟩ | exact ko4o (only_of_below hbC _) (by assumption) | exact ko4o (only_alloc _ _ _) (by assumption) | exact ko4o (only_of_grown hg5 (fun y e => .inl e)) (by assumption) | exact ko4o (only_set (.inr rfl) _) (by assumption)
              clear hK K1
              try simp only [List.getElem_toArray]
              try simp only [List.getElem_cons_succ]
              try simp only [List.getElem_cons_zero]
              try simp only [Act.put]
              try simp only [List.setIfInBounds_toArray]
              try simp only [List.set_cons_succ]
              try simp only [List.set_cons_zero]
              refine wpAnyH_ready (rs := [8]) (by kernel_rfl) (by simp) ?_
              refine AllReadyH.cons rfl (fun K1 hK => ?_) AllReadyH.nil
              go_simp
              try go_wp2_with fail
              refine hK.out _ _ ?_ (fun hHeld => ?_)
              · first | assumption | exact ko4 ⟨T0.out.cells, only_drew _ _ 1⟩ | exact ko4o (only_of_below hbC _) (by assumption) | exact ko4o (only_alloc _ _ _) (by assumption) | exact ko4o (only_of_grown hg5 (fun y e => .inl e)) (by assumption) | exact ko4o (only_set (.inr rfl) _) (by assumption)
              clear hK K1
              try simp only [List.getElem_toArray]
              try simp only [List.getElem_cons_succ]
              try simp only [List.getElem_cons_zero]
              try simp only [Act.put]
              try simp only [List.setIfInBounds_toArray]
              try simp only [List.set_cons_succ]
              try simp only [List.set_cons_zero]
              refine wpAnyH_ready (rs := [9]) (by kernel_rfl) (by simp) ?_
              refine AllReadyH.cons rfl (fun K1 hK => ?_) AllReadyH.nil
              refine step_append_str1 rfl _ _ rfl _ nkx _ rfl (HOW.out _ _ hbC) _ (tAt ks (k' + 1)).least rfl (by simp) hkx2 w1.heap.size 1 _ (hq2 _) (HFK.out _ _ hbC) hnbx ?_
              intro a5 n5 c5 w5 hO5 hg5 ha5 hc5 hf5
              refine hK.out _ _ ?_ (fun hHeld => ?_)
              · first | assumption | exact ko4 ⟨T0.out.cells, only_drew _ _ 1⟩ | exact ko4o (only_of_below hbC _) (by assumption) | exact ko4o (only_alloc _ _ _) (by assumption) | exact ko4o (only_of_grown hg5 (fun y e => .inl e)) (by assumption) | exact ko4o (only_set (.inr rfl) _) (by assumption)
              clear hK K1
              try simp only [List.getElem_toArray]
              try simp only [List.getElem_cons_succ]
              try simp only [List.getElem_cons_zero]
              try simp only [Act.put]
              try simp only [List.setIfInBounds_toArray]
              try simp only [List.set_cons_succ]
              try simp only [List.set_cons_zero]
              refine wpAnyH_ready (rs := [10]) (by kernel_rfl) (by simp) ?_
              refine AllReadyH.cons rfl (fun K1 hK => ?_) AllReadyH.nil
              go_simp
              try go_wp2_with fail
              refine hK.out _ _ ?_ (fun hHeld => ?_)
              · first | assumption | exact ko4 ⟨T0.out.cells, only_drew _ _ 1⟩ | exact ko4o (only_of_below hbC _) (by assumption) | exact ko4o (only_alloc _ _ _) (by assumption) | exact ko4o (only_of_grown hg5 (fun y e => .inl e)) (by assumption) | exact ko4o (only_set (.inr rfl) _) (by assumption)
              clear hK K1
              try simp only [List.getElem_toArray]
              try simp only [List.getElem_cons_succ]
              try simp only [List.getElem_cons_zero]
              try simp only [Act.put]
              try simp only [List.setIfInBounds_toArray]
              try simp only [List.set_cons_succ]
              try simp only [List.set_cons_zero]
              refine wpAnyH_ready (rs := [11]) (by kernel_rfl) (by simp) ?_
              refine AllReadyH.cons rfl (fun K1 hK => ?_) AllReadyH.nil
              go_simp
              try go_wp2_with fail
              refine hK.out _ _ ?_ (fun hHeld => ?_)
              · first | assumption | exact ko4 ⟨T0.out.cells, only_drew _ _ 1⟩ | exact ko4o (only_of_below hbC _) (by assumption) | exact ko4o (only_alloc _ _ _) (by assumption) | exact ko4o (only_of_grown hg5 (fun y e => .inl e)) (by assumption) | exact ko4o (only_set (.inr rfl) _) (by assumption)
              clear hK K1
              try simp only [List.getElem_toArray]
              try simp only [List.getElem_cons_succ]
              try simp only [List.getElem_cons_zero]
              try simp only [Act.put]
              try simp only [List.setIfInBounds_toArray]
              try simp only [List.set_cons_succ]
              try simp only [List.set_cons_zero]
              refine wpAnyH_done (by kernel_rfl) ?_ _
              refine NoPanic.normal ?_
              have HLX := hid (HFIN.out _ _ hbC _ _ _ _ hO5 hg5 ha5)
              clear hO5 hg5 ha5 hc5 hf5 hbC hq1 hq2 HFIN HFK HCK HOW HLE T0 hgk hpb hnbx HL2 z2 zf n1c n1f pp2 x0 x1 x2 hHeld
              -- the kid's nodes
              have HSUBX := hid (HSUB.out.to HLX.out.only (fun y hy _ e => HSV.out y hy.1 e))
              obtain ⟨gk9, ofk9, hak, _, _, hkid⟩ := HSUBX.out.kids (by omega)
              cases hak
              obtain ⟨l9, ap9, np9, cp9, ak9, nk9, ck9, x0, x1, x2, hs1⟩ := hkid (k' + 1) hlt
              have HS1 := hid hs1
              have pp2 := HLX.out.par.cell (j := 2) rfl
              have HLEN : Hid ((ns ++ ⟨[], [], []⟩ :: layL (ns.length + 1) (ks.take (k' + 1))).length = ns.length + 1 + szL (ks.take (k' + 1))) := by show _ = _; simp [layL_length]; omega
              have HEQ : Hid ((ns ++ ⟨[], [], []⟩ :: layL (ns.length + 1) (ks.take (k' + 1))) ++ lay (ns ++ ⟨[], [], []⟩ :: layL (ns.length + 1) (ks.take (k' + 1))).length (tAt ks (k' + 1)) = ns ++ ⟨[], [], []⟩ :: layL (ns.length + 1) (ks.take (k' + 1 + 1))) := by
                show _ = _
                rw [HLEN.out, layL_take ks (k' + 1) (ns.length + 1) hks]
                simp
              have HBND : Hid ((ns ++ ⟨[], [], []⟩ :: layL (ns.length + 1) (ks.take (k' + 1))).length + (tAt ks (k' + 1)).size ≤ 1048576) := by
                show _ ≤ _
                have h1 := szL_take_le ks (k' + 1 + 1)
                rw [szL_take ks (k' + 1) hks] at h1
                have h2 := HSZK.out
                rw [HLEN.out]
                omega
              have HVS : Hid (∀ y, (S y ∧ y < w.heap.size) → (Value.slice a' n' c').ownBlock ≠ some y) := by
                intro y hy e
                rcases (HLX.out.vb y e).1 with h | h
                · exact HSV.out y hy.1 h
                · omega
              simp only [T.ks] at HS1
              clear hkid hs1 HSUBX
              go_wp2_with fail
              refine (HIH.out (tAt ks (k' + 1)) (tAt_mem hks) (fun y => S y ∧ y < w.heap.size) l9 ap9 ak9 np9 cp9 nk9 ck9 _ Fk a' n' c' (ns ++ ⟨[], [], []⟩ :: layL (ns.length + 1) (ks.take (k' + 1))) false HS1.out HVS.out HLX.out.nodes HBND.out (HBR.out.2.2.2 _ (tAt_mem hks))).mono ?_
              rintro e w9 ⟨v9, rfl, hN9, ho9, hv9⟩
              rw [HEQ.out] at hN9
              obtain ⟨aZ, nZ, cZ, e9, _⟩ := hN9.shape
              subst e9
              have HL9 := hid (HLX.out.sub hN9 ho9 hv9)
              clear hN9 ho9 hv9 x0 x1 x2 pp2 HLX HS1
              go_wp2
              go_roundw
              case rel => exact ⟨k' + 1 + 1, aZ, nZ, cZ, _, _, _, by omega, by go_num, rfl, HL9.out⟩
              case measure => simp [intOf]; omega
            · skip
              go_simp
              try go_wp2_with fail
              refine hK.out _ _ ?_ (fun hHeld => ?_)
              · first | assumption | exact ko4 ⟨T0.out.cells, only_drew _ _ 1⟩ | exact ko4o (only_of_below hbC _) (by assumption) | exact ko4o (only_alloc _ _ _) (by assumption) | exact ko4o (only_of_grown hg5 (fun y e => .inl e)) (by assumption) | exact ko4o (only_set (.inr rfl) _) (by assumption)
              clear hK K1
              try simp only [List.getElem_toArray]
              try simp only [List.getElem_cons_succ]
              try simp only [List.getElem_cons_zero]
              try simp only [Act.put]
              try simp only [List.setIfInBounds_toArray]
              try simp only [List.set_cons_succ]
              try simp only [List.set_cons_zero]
              refine wpAnyH_ready (rs := [1]) (by kernel_rfl) (by simp) ?_
              refine AllReadyH.cons rfl (fun K1 hK => ?_) AllReadyH.nil
              go_simp
              try go_wp2_with fail
              refine hK.out _ _ ?_ (fun hHeld => ?_)
              · first | assumption | exact ko4 ⟨T0.out.cells, only_drew _ _ 1⟩ | exact ko4o (only_of_below hbC _) (by assumption) | exact ko4o (only_alloc _ _ _) (by assumption) | exact ko4o (only_of_grown hg5 (fun y e => .inl e)) (by assumption) | exact ko4o (only_set (.inr rfl) _) (by assumption)
              clear hK K1
              try simp only [List.getElem_toArray]
              try simp only [List.getElem_cons_succ]
              try simp only [List.getElem_cons_zero]
              try simp only [Act.put]
              try simp only [List.setIfInBounds_toArray]
              try simp only [List.set_cons_succ]
              try simp only [List.set_cons_zero]
              refine wpAnyH_ready (rs := [9]) (by kernel_rfl) (by simp) ?_
              refine AllReadyH.cons rfl (fun K1 hK => ?_) AllReadyH.nil
              refine step_append_str1 rfl _ _ rfl _ nkx _ rfl (HOW.out _ _ hbC) _ (tAt ks (k' + 1)).least rfl (by simp) hkx2 w1.heap.size 1 _ (hq2 _) (HFK.out _ _ hbC) hnbx ?_
              intro a5 n5 c5 w5 hO5 hg5 ha5 hc5 hf5
              refine hK.out _ _ ?_ (fun hHeld => ?_)
              · first | assumption | exact ko4 ⟨T0.out.cells, only_drew _ _ 1⟩ | exact ko4o (only_of_below hbC _) (by assumption) | exact ko4o (only_alloc _ _ _) (by assumption) | exact ko4o (only_of_grown hg5 (fun y e => .inl e)) (by assumption) | exact ko4o (only_set (.inr rfl) _) (by assumption)
              clear hK K1
              try simp only [List.getElem_toArray]
              try simp only [List.getElem_cons_succ]
              try simp only [List.getElem_cons_zero]
              try simp only [Act.put]
              try simp only [List.setIfInBounds_toArray]
              try simp only [List.set_cons_succ]
              try simp only [List.set_cons_zero]
              refine wpAnyH_ready (rs := [10]) (by kernel_rfl) (by simp) ?_
              refine AllReadyH.cons rfl (fun K1 hK => ?_) AllReadyH.nil
              go_simp
              try go_wp2_with fail
              refine hK.out _ _ ?_ (fun hHeld => ?_)
              · first | assumption | exact ko4 ⟨T0.out.cells, only_drew _ _ 1⟩ | exact ko4o (only_of_below hbC _) (by assumption) | exact ko4o (only_alloc _ _ _) (by assumption) | exact ko4o (only_of_grown hg5 (fun y e => .inl e)) (by assumption) | exact ko4o (only_set (.inr rfl) _) (by assumption)
              clear hK K1
              try simp only [List.getElem_toArray]
              try simp only [List.getElem_cons_succ]
              try simp only [List.getElem_cons_zero]
              try simp only [Act.put]
              try simp only [List.setIfInBounds_toArray]
              try simp only [List.set_cons_succ]
              try simp only [List.set_cons_zero]
              refine wpAnyH_ready (rs := [11]) (by kernel_rfl) (by simp) ?_
              refine AllReadyH.cons rfl (fun K1 hK => ?_) AllReadyH.nil
              go_simp
              try go_wp2_with fail
              refine hK.out _ _ ?_ (fun hHeld => ?_)
              · first | assumption | exact ko4 ⟨T0.out.cells, only_drew _ _ 1⟩ | exact ko4o (only_of_below hbC _) (by assumption) | exact ko4o (only_alloc _ _ _) (by assumption) | exact ko4o (only_of_grown hg5 (fun y e => .inl e)) (by assumption) | exact ko4o (only_set (.inr rfl) _) (by assumption)
              clear hK K1
              try simp only [List.getElem_toArray]
              try simp only [List.getElem_cons_succ]
              try simp only [List.getElem_cons_zero]
              try simp only [Act.put]
              try simp only [List.setIfInBounds_toArray]
              try simp only [List.set_cons_succ]
              try simp only [List.set_cons_zero]
              refine wpAnyH_done (by kernel_rfl) ?_ _
              refine NoPanic.normal ?_
              have HLX := hid (HFIN.out _ _ hbC _ _ _ _ hO5 hg5 ha5)
              clear hO5 hg5 ha5 hc5 hf5 hbC hq1 hq2 HFIN HFK HCK HOW HLE T0 hgk hpb hnbx HL2 z2 zf n1c n1f pp2 x0 x1 x2 hHeld
              -- the kid's nodes
              have HSUBX := hid (HSUB.out.to HLX.out.only (fun y hy _ e => HSV.out y hy.1 e))
              obtain ⟨gk9, ofk9, hak, _, _, hkid⟩ := HSUBX.out.kids (by omega)
              cases hak
              obtain ⟨l9, ap9, np9, cp9, ak9, nk9, ck9, x0, x1, x2, hs1⟩ := hkid (k' + 1) hlt
              have HS1 := hid hs1
              have pp2 := HLX.out.par.cell (j := 2) rfl
              have HLEN : Hid ((ns ++ ⟨[], [], []⟩ :: layL (ns.length + 1) (ks.take (k' + 1))).length = ns.length + 1 + szL (ks.take (k' + 1))) := by show _ = _; simp [layL_length]; omega
              have HEQ : Hid ((ns ++ ⟨[], [], []⟩ :: layL (ns.length + 1) (ks.take (k' + 1))) ++ lay (ns ++ ⟨[], [], []⟩ :: layL (ns.length + 1) (ks.take (k' + 1))).length (tAt ks (k' + 1)) = ns ++ ⟨[], [], []⟩ :: layL (ns.length + 1) (ks.take (k' + 1 + 1))) := by
                show _ = _
                rw [HLEN.out, layL_take ks (k' + 1) (ns.length + 1) hks]
                simp
              have HBND : Hid ((ns ++ ⟨[], [], []⟩ :: layL (ns.length + 1) (ks.take (k' + 1))).length + (tAt ks (k' + 1)).size ≤ 1048576) := by
                show _ ≤ _
                have h1 := szL_take_le ks (k' + 1 + 1)
                rw [szL_take ks (k' + 1) hks] at h1
                have h2 := HSZK.out
                rw [HLEN.out]
                omega
              have HVS : Hid (∀ y, (S y ∧ y < w.heap.size) → (Value.slice a' n' c').ownBlock ≠ some y) := by
                intro y hy e
                rcases (HLX.out.vb y e).1 with h | h
                · exact HSV.out y hy.1 h
                · omega
              simp only [T.ks] at HS1
              clear hkid hs1 HSUBX
              go_wp2_with fail
              refine (HIH.out (tAt ks (k' + 1)) (tAt_mem hks) (fun y => S y ∧ y < w.heap.size) l9 ap9 ak9 np9 cp9 nk9 ck9 _ Fk a' n' c' (ns ++ ⟨[], [], []⟩ :: layL (ns.length + 1) (ks.take (k' + 1))) false HS1.out HVS.out HLX.out.nodes HBND.out (HBR.out.2.2.2 _ (tAt_mem hks))).mono ?_
              rintro e w9 ⟨v9, rfl, hN9, ho9, hv9⟩
              rw [HEQ.out] at hN9
              obtain ⟨aZ, nZ, cZ, e9, _⟩ := hN9.shape
              subst e9
              have HL9 := hid (HLX.out.sub hN9 ho9 hv9)
              clear hN9 ho9 hv9 x0 x1 x2 pp2 HLX HS1
              go_wp2
              go_roundw
              case rel => exact ⟨k' + 1 + 1, aZ, nZ, cZ, _, _, _, by omega, by go_num, rfl, HL9.out⟩
              case measure => simp [intOf]; omega
      · have hk' : k = nk := by omega
        have HTK : Hid (ks.take k = ks) := by show _ = _; rw [hk', HNK.out, List.take_length]
        rw [HTK.out] at HL
        obtain ⟨g', ha', HNn⟩ := HL.out.nodes.rowAt (by simp; omega)
        subst ha'
        obtain ⟨akx, ckx, hkx⟩ := own_shape HL.out.rx
        generalize (ks.tail.map T.least).length = nkx at hkx
        subst hkx
        obtain ⟨aki, cki, hki⟩ := own_shape HL.out.ri
        generalize (places (ns.length + 1) ks).length = nki at hki
        subst hki
        have n0 := HL.out.nod.cell (j := 0) rfl
        have n1c := HL.out.nod.cell (j := 1) rfl
        have n2c := HL.out.nod.cell (j := 2) rfl
        obtain ⟨⟨x0, x1, x2, m0, m1, m2⟩, mf⟩ := HL.out.nodes.cells ns.length (by simp)
        rw [← HNV.out] at m0 m1 m2
        have mf0 := mf (nv * 3)
        have mf1 := mf (nv * 3 + 1)
        have mf2 := mf (nv * 3 + 2)
        have hltn : (nv : Int) < (n' : Int) := by
          have h1 := HNn.out
          simp at h1
          have h2 := HNV.out
          omega
        have HFIN : Hid (NO (((wr.setCell ⟨g', nv * 3, none⟩ (.slice none 0 0)).setCell ⟨g', nv * 3 + 1, none⟩ (.slice akx nkx ckx)).setCell ⟨g', nv * 3 + 2, none⟩ (.slice aki nki cki)) (fun y => F y ∨ (w.heap.size ≤ y ∧ y < (((wr.setCell ⟨g', nv * 3, none⟩ (.slice none 0 0)).setCell ⟨g', nv * 3 + 1, none⟩ (.slice akx nkx ckx)).setCell ⟨g', nv * 3 + 2, none⟩ (.slice aki nki cki)).heap.size ∧ (Value.slice (some ⟨g', 0, none⟩) n' c').ownBlock ≠ some y)) (.slice (some ⟨g', 0, none⟩) n' c') (ns ++ ⟨[], ks.tail.map T.least, places (ns.length + 1) ks⟩ :: layL (ns.length + 1) ks)) := by
          have hz : (((wr.setCell ⟨g', nv * 3, none⟩ (.slice none 0 0)).setCell ⟨g', nv * 3 + 1, none⟩ (.slice akx nkx ckx)).setCell ⟨g', nv * 3 + 2, none⟩ (.slice aki nki cki)).heap.size = wr.heap.size := by simp [World.setCell]
          rw [hz]
          have hG : ∀ y, (fun y => F y ∨ (w.heap.size ≤ y ∧ y < wr.heap.size ∧ (Value.slice (some ⟨g', 0, none⟩) n' c').ownBlock ≠ some y)) y → y < wr.heap.size ∧ (Value.slice (some ⟨g', 0, none⟩) n' c').ownBlock ≠ some y := by
            rintro y (hy | hy)
            · obtain ⟨V, _, _, _, n4, _⟩ := HL.out.nodes
              exact n4 y (HL.out.ff y hy)
            · exact hy.2
          have hbl : ∀ y, bl (.slice none 0 0, .slice akx nkx ckx, .slice aki nki cki) y → (w.heap.size ≤ y ∧ y < wr.heap.size ∧ (Value.slice (some ⟨g', 0, none⟩) n' c').ownBlock ≠ some y) := by
            rintro y (e | e | e)
            · cases e
            · exact ⟨by have := (HL.out.xb y e).1; omega, (World.ownsRow.lt HL.out.rx y e).2, fun d => (HL.out.vb y d).2.2.1 e⟩
            · exact ⟨by have := (HL.out.ib y e).1; omega, (World.ownsRow.lt HL.out.ri y e).2, fun d => (HL.out.vb y d).2.2.2 e⟩
          have hown : OwN wr (.slice none 0 0, .slice akx nkx ckx, .slice aki nki cki) ⟨[], ks.tail.map T.least, places (ns.length + 1) ks⟩ := ⟨World.ownsRow_nil _ _ _ _, HL.out.rx, HL.out.ri⟩
          have hp : N1K wr (fun y => F y ∨ (w.heap.size ≤ y ∧ y < wr.heap.size ∧ (Value.slice (some ⟨g', 0, none⟩) n' c').ownBlock ≠ some y)) (.slice none 0 0, .slice akx nkx ckx, .slice aki nki cki) ⟨[], ks.tail.map T.least, places (ns.length + 1) ks⟩ :=
            ⟨hown.n1 (fun y hy => .inr (hbl y hy)), hown, fun y => ⟨fun e => by (cases e), fun e => (HL.out.xb y e).2.2⟩, fun y hy => .inr (hbl y hy)⟩
          have := NO.put (ms := ns) (l := layL (ns.length + 1) ks) (z := ⟨[], [], []⟩) rfl HL.out.nodes (fun y hy => ?_) hG _ hp (fun y hy hf => ?_)
          · rw [← HNV.out] at this
            rw [← HNV.out]
            exact this
          · obtain ⟨V, _, _, _, n4, _⟩ := HL.out.nodes
            rcases (HL.out.fk y hy).1 with h | h
            · exact .inl h
            · exact .inr ⟨by omega, n4 y hy⟩
          · rcases hy with e | e | e
            · cases e
            · exact (HL.out.fk y hf).2.2.1 e
            · exact (HL.out.fk y hf).2.2.2 e
        have HOF : Hid (Only (fun y => (Value.slice av nv cv).ownBlock = some y) w (((wr.setCell ⟨g', nv * 3, none⟩ (.slice none 0 0)).setCell ⟨g', nv * 3 + 1, none⟩ (.slice akx nkx ckx)).setCell ⟨g', nv * 3 + 2, none⟩ (.slice aki nki cki))) := by
          refine HL.out.only.then (((only_set (R := fun y => y = g') rfl _).trans (only_set (R := fun y => y = g') rfl _)).trans (only_set (R := fun y => y = g') rfl _)) (fun y hy e => ?_)
          subst e
          rcases (HL.out.vb y rfl).1 with h | h
          · exact h
          · omega
        have HVB : Hid (∀ y, (Value.slice (some ⟨g', 0, none⟩) n' c').ownBlock = some y → (Value.slice av nv cv).ownBlock = some y ∨ w.heap.size ≤ y) := fun y hy => (HL.out.vb y hy).1.imp id (fun h => by omega)
        clear hk' HL mf HNn
        go_wp2
        go_ret
        refine ⟨_, rfl, ?_, HOF.out, HVB.out⟩
        rw [HLY.out]
        exact HFIN.out
end Go.Proofs.Ytkflneeifllpgaa
/-
  l03SameNode of the specification: it tells whether two nodes hold the same.
-/
namespace Go.Proofs.Ytkflneeifllpgaa
open Go.RowKit
theorem neq_pair (a b c d : ByteArray) (w : World) : (binOp .neq 35 (.agg #[.string a, .string b]) (.agg #[.string c, .string d])).run Try.prog w = .ok (.bool (!decide ((a, b) = (c, d)))) w := by
  have u9 := Try.underlying9
  have hS : Try.prog.underlying 35 = some (.struct (Try.prog.fieldsOf 35)) := by kernel_rfl
  have hp : Try.prog.stoodInHeld 35 = false := by kernel_rfl
  rw [run_neq_struct, show (10000 : Nat) = 9999 + 1 from rfl, run_equalIn_agg w 9999 35 _ _ hS hp]
  simp only [Program.fieldsOf, Try.underlying35]
  by_cases h1 : a = c
  · subst h1
    by_cases h2 : b = d
    · subst h2
      rw [decide_eq_true rfl]
      go_simp
    · have t2 := str_beq h2
      rw [decide_eq_false (by simp [h2])]
      clear h2
      go_simp
  · have t1 := str_beq h1
    rw [decide_eq_false (by simp [h1])]
    clear h1
    go_simp
set_option maxHeartbeats 8000000 in
theorem sameNode_any (S S' : Nat → Prop) (ap ax ai ap' ax' ai' : Option Addr) (np cp nx cx ni ci np' cp' nx' cx' ni' ci' : Nat) (x y : NB) (w : World)
    (hP : Pr w S (.slice ap np cp) x.ps) (hS : Sr w S (.slice ax nx cx) x.keys) (hI : Ir w S (.slice ai ni ci) x.kids) (hP' : Pr w S' (.slice ap' np' cp') y.ps) (hS' : Sr w S' (.slice ax' nx' cx') y.keys) (hI' : Ir w S' (.slice ai' ni' ci') y.kids) :
    Calls Try.prog 83 #[.agg #[.slice ap np cp, .slice ax nx cx, .slice ai ni ci], .agg #[.slice ap' np' cp', .slice ax' nx' cx', .slice ai' ni' ci']] w fun e w' => e = .returned (.bool (decide (x = y))) ∧ Below w.heap.size w w' := by
  have HP := hid hP
  have HS := hid hS
  have HI := hid hI
  have HP' := hid hP'
  have HS' := hid hS'
  have HI' := hid hI'
  have lp := hid (Rw.len hP).1
  have ls := hid (Rw.len hS).1
  have li := hid (Rw.len hI).1
  have lp' := hid (Rw.len hP').1
  have ls' := hid (Rw.len hS').1
  have li' := hid (Rw.len hI').1
  have b1 := (Rw.len hP).2
  have b2 := (Rw.len hS).2
  have b3 := (Rw.len hI).2
  have b1' := (Rw.len hP').2
  have b2' := (Rw.len hS').2
  have b3' := (Rw.len hI').2
  clear hP hS hI hP' hS' hI'
  have HB0 : Hid (Below w.heap.size w ((w.alloc (.cells #[.slice ap np cp, .slice ax nx cx, .slice ai ni ci] 106)).alloc (.cells #[.slice ap' np' cp', .slice ax' nx' cx', .slice ai' ni' ci'] 106))) := below_new (below_new (Below.refl _ _))
  have KA : Hid (Bk ((w.alloc (.cells #[.slice ap np cp, .slice ax nx cx, .slice ai ni ci] 106)).alloc (.cells #[.slice ap' np' cp', .slice ax' nx' cx', .slice ai' ni' ci'] 106)) w.heap.size 106 [.slice ap np cp, .slice ax nx cx, .slice ai ni ci]) := (Bk.new w 106 [.slice ap np cp, .slice ax nx cx, .slice ai ni ci]).alloc _
  have KB : Hid (Bk ((w.alloc (.cells #[.slice ap np cp, .slice ax nx cx, .slice ai ni ci] 106)).alloc (.cells #[.slice ap' np' cp', .slice ax' nx' cx', .slice ai' ni' ci'] 106)) (w.heap.size + 1) 106 [.slice ap' np' cp', .slice ax' nx' cx', .slice ai' ni' ci']) := by
    have := Bk.new (w.alloc (.cells #[.slice ap np cp, .slice ax nx cx, .slice ai ni ci] 106)) 106 [.slice ap' np' cp', .slice ax' nx' cx', .slice ai' ni' ci']
    show Bk _ _ _ _
    simpa using this
  by_cases h1 : np = np'
  · have e1 : ((np : Int) != (np' : Int)) = false := by simp [h1]
    by_cases h2 : nx = nx'
    · have e2 : ((nx : Int) != (nx' : Int)) = false := by simp [h2]
      by_cases h3 : ni = ni'
      · have e3 : ((ni : Int) != (ni' : Int)) = false := by simp [h3]
        subst h1 h2 h3
        have HXY : Hid (x.ps = y.ps → x.keys = y.keys → x.kids = y.kids → decide (x = y) = true) := by
          intro q1 q2 q3
          rw [decide_eq_true_eq]
          cases x; cases y; simp_all
        have HNE : Hid (∀ (P : Prop), (x = y → P) → ¬ P → decide (x = y) = false) := fun P q1 q2 => decide_eq_false (fun e => q2 (q1 e))
        go_enter Try.func83, Try.ntmps83
        go_wp2_with fail
        generalize (w.alloc (.cells #[.slice ap np cp, .slice ax nx cx, .slice ai ni ci] 106)).alloc (.cells #[.slice ap' np cp', .slice ax' nx cx', .slice ai' ni ci'] 106) = u at *
        have a0 := KA.out.cell (j := 0) rfl
        have a1 := KA.out.cell (j := 1) rfl
        have a2 := KA.out.cell (j := 2) rfl
        have d0 := KB.out.cell (j := 0) rfl
        have d1 := KB.out.cell (j := 1) rfl
        have d2 := KB.out.cell (j := 2) rfl
        have HPu := hid (HP.out.below HB0.out)
        have HPu' := hid (HP'.out.below HB0.out)
        have HSu := hid (HS.out.below HB0.out)
        have HSu' := hid (HS'.out.below HB0.out)
        have HIu := hid (HI.out.below HB0.out)
        have HIu' := hid (HI'.out.below HB0.out)
        clear KA KB HP HP' HS HS' HI HI'
        go_loopw [36] (fun i wr => ∃ k q : Nat, k ≤ np ∧ i = .int .i64 k ∧ wr = u.drewN q ∧ Hid (x.ps.take k = y.ps.take k)) (fun i _ => np - (intOf i).toNat)
        case atStart => exact ⟨0, 0, Nat.zero_le _, rfl, rfl, rfl⟩
        case round =>
          obtain ⟨k, q, hk, rfl, rfl, HT⟩ := hrel
          by_cases hlt : k < np
          · have hlt' : (k : Int) < (np : Int) := by omega
            obtain ⟨g, off, hap, _, _, hc⟩ := HPu.out.at (by omega)
            obtain ⟨g', off', hap', _, _, hc'⟩ := HPu'.out.at (by omega)
            subst hap hap'
            have m0 := (hc k hlt).1
            have m1 := (hc k hlt).2
            have m0' := (hc' k hlt).1
            have m1' := (hc' k hlt).2
            have HSS : Hid (pAtB x.ps k = pAtB y.ps k → x.ps.take (k + 1) = y.ps.take (k + 1)) := by
              intro e
              have hl : k < x.ps.length := by rw [← lp.out]; exact hlt
              have hl' : k < y.ps.length := by rw [← lp'.out]; exact hlt
              rw [List.take_succ_eq_append_getElem hl, List.take_succ_eq_append_getElem hl', HT.out]
              simp [pAtB, hl, hl'] at e
              rw [e]
            have HFF : Hid (pAtB x.ps k ≠ pAtB y.ps k → decide (x = y) = false) := fun e => HNE.out _ (fun q => by rw [q]) e
            clear hc hc'
            generalize pAtB x.ps k = cx1 at *
            generalize pAtB y.ps k = cx2 at *
            obtain ⟨k1, v1⟩ := cx1
            obtain ⟨k2, v2⟩ := cx2
            have hnq := neq_pair k1 v1 k2 v2
            by_cases he : (k1, v1) = (k2, v2)
            · have HS1 := hid (HSS.out he)
              rw [decide_eq_true he] at hnq
              clear he HSS HFF
              go_wp2_with fail
              go_quiet (fail)
              go_wp2
              go_roundw
              case rel => exact ⟨k + 1, q + nq, by omega, by go_num, rfl, HS1.out⟩
              case measure => simp [intOf]; omega
            · have HF1 := hid (HFF.out he)
              rw [decide_eq_false he] at hnq
              clear he HSS HFF
              go_wp2_with fail
              go_quiet (fail)
              go_wp2
              go_ret
              exact ⟨by rw [HF1.out]; rfl, Below.drewN' (Below.drewN' HB0.out _) _⟩
          · have HQ1 : Hid (x.ps = y.ps) := by
              show _ = _
              have e := HT.out
              rwa [List.take_of_length_le (by rw [← lp.out]; omega), List.take_of_length_le (by rw [← lp'.out]; omega)] at e
            clear HT
            go_wp2_with fail
            go_loopw [54] (fun i wr => ∃ k q : Nat, k ≤ nx ∧ i = .int .i64 k ∧ wr = u.drewN q ∧ Hid (x.keys.take k = y.keys.take k)) (fun i _ => nx - (intOf i).toNat)
            case atStart => exact ⟨0, q, Nat.zero_le _, rfl, rfl, rfl⟩
            case round =>
              clear hk hlt
              obtain ⟨k, q, hk, rfl, rfl, HT⟩ := hrel
              by_cases hlt : k < nx
              · have hlt' : (k : Int) < (nx : Int) := by omega
                obtain ⟨g, off, hap, _, _, hc⟩ := HSu.out.at (by omega)
                obtain ⟨g', off', hap', _, _, hc'⟩ := HSu'.out.at (by omega)
                subst hap hap'
                have m0 := hc k hlt
                have m0' := hc' k hlt
                have HSS : Hid (sAt x.keys k = sAt y.keys k → x.keys.take (k + 1) = y.keys.take (k + 1)) := by
                  intro e
                  have hl : k < x.keys.length := by rw [← ls.out]; exact hlt
                  have hl' : k < y.keys.length := by rw [← ls'.out]; exact hlt
                  rw [List.take_succ_eq_append_getElem hl, List.take_succ_eq_append_getElem hl', HT.out]
                  simp [sAt, hl, hl'] at e
                  rw [e]
                have HFF : Hid (sAt x.keys k ≠ sAt y.keys k → decide (x = y) = false) := fun e => HNE.out _ (fun q => by rw [q]) e
                clear hc hc'
                generalize sAt x.keys k = k1 at *
                generalize sAt y.keys k = k2 at *
                by_cases he : k1 = k2
                · have HS1 := hid (HSS.out he)
                  subst he
                  skip
                  clear HSS HFF
                  go_wp2_with fail
                  go_quiet (fail)
                  go_wp2
                  go_roundw
                  case rel => exact ⟨k + 1, q + nq, by omega, by go_num, rfl, HS1.out⟩
                  case measure => simp [intOf]; omega
                · have HF1 := hid (HFF.out he)
                  have t := str_beq he
                  clear he HSS HFF
                  go_wp2_with fail
                  go_quiet (fail)
                  go_wp2
                  go_ret
                  exact ⟨by rw [HF1.out]; rfl, Below.drewN' (Below.drewN' HB0.out _) _⟩
              · have HQ2 : Hid (x.keys = y.keys) := by
                  show _ = _
                  have e := HT.out
                  rwa [List.take_of_length_le (by rw [← ls.out]; omega), List.take_of_length_le (by rw [← ls'.out]; omega)] at e
                clear HT
                go_wp2_with fail
                go_loopw [72] (fun i wr => ∃ k q : Nat, k ≤ ni ∧ i = .int .i64 k ∧ wr = u.drewN q ∧ Hid (x.kids.take k = y.kids.take k)) (fun i _ => ni - (intOf i).toNat)
                case atStart => exact ⟨0, q, Nat.zero_le _, rfl, rfl, rfl⟩
                case round =>
                  clear hk hlt
                  obtain ⟨k, q, hk, rfl, rfl, HT⟩ := hrel
                  by_cases hlt : k < ni
                  · have hlt' : (k : Int) < (ni : Int) := by omega
                    obtain ⟨g, off, hap, _, _, hc⟩ := HIu.out.at (by omega)
                    obtain ⟨g', off', hap', _, _, hc'⟩ := HIu'.out.at (by omega)
                    subst hap hap'
                    have m0 := hc k hlt
                    have m0' := hc' k hlt
                    have HSS : Hid (iAt x.kids k = iAt y.kids k → x.kids.take (k + 1) = y.kids.take (k + 1)) := by
                      intro e
                      have hl : k < x.kids.length := by rw [← li.out]; exact hlt
                      have hl' : k < y.kids.length := by rw [← li'.out]; exact hlt
                      rw [List.take_succ_eq_append_getElem hl, List.take_succ_eq_append_getElem hl', HT.out]
                      simp [iAt, hl, hl'] at e
                      rw [e]
                    have HFF : Hid (iAt x.kids k ≠ iAt y.kids k → decide (x = y) = false) := fun e => HNE.out _ (fun q => by rw [q]) e
                    clear hc hc'
                    generalize iAt x.kids k = k1 at *
                    generalize iAt y.kids k = k2 at *
                    by_cases he : k1 = k2
                    · have HS1 := hid (HSS.out he)
                      subst he
                      have t : (k1 != k1) = false := by simp
                      clear HSS HFF
                      go_wp2_with fail
                      go_quiet (fail)
                      go_wp2
                      go_roundw
                      case rel => exact ⟨k + 1, q + nq, by omega, by go_num, rfl, HS1.out⟩
                      case measure => simp [intOf]; omega
                    · have HF1 := hid (HFF.out he)
                      have t : (k1 != k2) = true := by simp [he]
                      clear he HSS HFF
                      go_wp2_with fail
                      go_quiet (fail)
                      go_wp2
                      go_ret
                      exact ⟨by rw [HF1.out]; rfl, Below.drewN' (Below.drewN' HB0.out _) _⟩
                  · have HQ3 : Hid (x.kids = y.kids) := by
                      show _ = _
                      have e := HT.out
                      rwa [List.take_of_length_le (by rw [← li.out]; omega), List.take_of_length_le (by rw [← li'.out]; omega)] at e
                    clear HT
                    have HF := hid (HXY.out HQ1.out HQ2.out HQ3.out)
                    go_wp2
                    go_ret
                    exact ⟨by rw [HF.out]; rfl, Below.drewN' HB0.out _⟩
      · have HF : Hid (decide (x = y) = false) := by
          show _ = _
          rw [decide_eq_false_iff_not]
          rintro rfl
          exact h3 (by rw [li.out, li'.out])
        have e3 : ((ni : Int) != (ni' : Int)) = true := by simp; omega
        clear h3
        go_enter Try.func83, Try.ntmps83
        go_wp2
        go_ret
        exact ⟨by rw [HF.out]; rfl, below_new (below_new (Below.refl _ _))⟩
    · have HF : Hid (decide (x = y) = false) := by
        show _ = _
        rw [decide_eq_false_iff_not]
        rintro rfl
        exact h2 (by rw [ls.out, ls'.out])
      have e2 : ((nx : Int) != (nx' : Int)) = true := by simp; omega
      clear h2
      go_enter Try.func83, Try.ntmps83
      go_wp2
      go_ret
      exact ⟨by rw [HF.out]; rfl, below_new (below_new (Below.refl _ _))⟩
  · have HF : Hid (decide (x = y) = false) := by
      show _ = _
      rw [decide_eq_false_iff_not]
      rintro rfl
      exact h1 (by rw [lp.out, lp'.out])
    have e1 : ((np : Int) != (np' : Int)) = true := by simp; omega
    clear h1
    go_enter Try.func83, Try.ntmps83
    go_wp2
    go_ret
    exact ⟨by rw [HF.out]; rfl, below_new (below_new (Below.refl _ _))⟩
end Go.Proofs.Ytkflneeifllpgaa
/-
  TreeOk of the specification.
-/
namespace Go.Proofs.Ytkflneeifllpgaa
open Go.RowKit
theorem rdSL_info (f : Nat) (rd : Int → Option (T × Nat)) (hrd : ∀ a t n, rd a = some (t, n) → 0 ≤ a ∧ (n : Int) = a + t.size ∧ t.ht ≤ f) : ∀ (kids : List Int) (nx : Nat) (ts : List T) (n : Nat), rdSL rd kids nx = some (ts, n) → n = nx + szL ts ∧ htL ts ≤ f
  | [], nx, ts, n, h => by
    simp only [rdSL, Option.some.injEq, Prod.mk.injEq] at h
    obtain ⟨rfl, rfl⟩ := h
    simp [szL, htL]
  | k :: kids, nx, ts, n, h => by
    simp only [rdSL] at h
    split at h
    · cases h
    · rename_i he
      cases hr : rd k with
      | none => simp [hr] at h
      | some x =>
        obtain ⟨t, n1⟩ := x
        simp only [hr] at h
        cases hs : rdSL rd kids n1 with
        | none => simp [hs] at h
        | some y =>
          obtain ⟨ts', n2⟩ := y
          simp only [hs, Option.some.injEq, Prod.mk.injEq] at h
          obtain ⟨rfl, rfl⟩ := h
          have h1 := hrd k t n1 hr
          have h2 := rdSL_info f rd hrd kids n1 ts' n2 hs
          have he' : k = (nx : Int) := by
            by_cases q : k = (nx : Int)
            · exact q
            · exact absurd q he
          simp only [szL, htL]
          omega
theorem rdS_info (ns : List NB) : ∀ (f : Nat) (a : Int) (t : T) (n : Nat), rdS ns f a = some (t, n) → 0 ≤ a ∧ (n : Int) = a + t.size ∧ t.ht ≤ f
  | 0, a, t, n, h => by simp [rdS] at h
  | f + 1, a, t, n, h => by
    rw [rdS] at h
    split at h
    · cases h
    · rename_i hc
      cases hs : rdSL (rdS ns f) (nAt ns a.toNat).kids (a.toNat + 1) with
      | none => simp [hs] at h
      | some x =>
        obtain ⟨ts, n1⟩ := x
        simp only [hs, Option.some.injEq, Prod.mk.injEq] at h
        obtain ⟨rfl, rfl⟩ := h
        have := rdSL_info f (rdS ns f) (rdS_info ns f) _ _ _ _ hs
        simp only [T.size, T.ht]
        omega
theorem kc7 {u v : World} {a0 a1 a2 a3 a4 a5 a6 : Addr} {x0 x1 x2 x3 x4 x5 x6 : Value} (h : KC u v [(a0, x0), (a1, x1), (a2, x2), (a3, x3), (a4, x4), (a5, x5), (a6, x6)]) : v.cell? a0 = some x0 ∧ v.cell? a1 = some x1 ∧ v.cell? a2 = some x2 ∧ v.cell? a3 = some x3 ∧ v.cell? a4 = some x4 ∧ v.cell? a5 = some x5 ∧ v.cell? a6 = some x6 ∧ KC u v [(a0, x0), (a1, x1), (a2, x2), (a3, x3), (a4, x4), (a5, x5), (a6, x6)] := ⟨h.at (by simp), h.at (by simp), h.at (by simp), h.at (by simp), h.at (by simp), h.at (by simp), h.at (by simp), h⟩
theorem kc7c {u v v' : World} {a0 a1 a2 a3 a4 a5 a6 : Addr} {x0 x1 x2 x3 x4 x5 x6 : Value} (k : Below v.heap.size v v') (h : v.cell? a0 = some x0 ∧ v.cell? a1 = some x1 ∧ v.cell? a2 = some x2 ∧ v.cell? a3 = some x3 ∧ v.cell? a4 = some x4 ∧ v.cell? a5 = some x5 ∧ v.cell? a6 = some x6 ∧ KC u v [(a0, x0), (a1, x1), (a2, x2), (a3, x3), (a4, x4), (a5, x5), (a6, x6)]) : v'.cell? a0 = some x0 ∧ v'.cell? a1 = some x1 ∧ v'.cell? a2 = some x2 ∧ v'.cell? a3 = some x3 ∧ v'.cell? a4 = some x4 ∧ v'.cell? a5 = some x5 ∧ v'.cell? a6 = some x6 ∧ KC u v' [(a0, x0), (a1, x1), (a2, x2), (a3, x3), (a4, x4), (a5, x5), (a6, x6)] := kc7 (KC.call h.2.2.2.2.2.2.2 k)
set_option maxHeartbeats 8000000 in
theorem specTreeOk_any (ns : List NB) (hlen : ns.length ≤ 1048576) (hsm : smallN ns) (S : Nat → Prop) (an : Option Addr) (nn cn : Nat) (w : World) (hN : Nr w S (.slice an nn cn) ns) :
    Calls Try.prog 38 #[.agg #[.slice an nn cn]] w fun e w' => e = .returned (.bool (spOk ns)) ∧ Below w.heap.size w w' := by
  have hnn := hid hN.len.1
  have hnn2 := hN.len.2.1
  have hnn3 := hN.len.2.2
  have HN := hid hN
  clear hN
  have HB0 := hid (below_new (o := .cells #[.slice an nn cn] 25) (w := w) (Below.refl _ _))
  have KT := hid (Bk.new w 25 [.slice an nn cn])
  by_cases h0 : nn = 0
  · have HR : Hid (spOk ns = true) := by show _ = _; rw [spOk, if_pos]; rw [← hnn.out]; exact h0
    clear HN hnn
    subst h0
    go_enter Try.func38, Try.ntmps38
    go_wp2
    go_ret
    exact ⟨by rw [HR.out]; rfl, HB0.out⟩
  · have e1 : ((nn : Int) == 0) = false := by simp; omega
    by_cases h4 : 400 < nn
    · have e2 : (400 : Int) < (nn : Int) := by omega
      have HR : Hid (spOk ns = false) := by show _ = _; rw [spOk, if_neg, if_pos] <;> rw [← hnn.out] <;> assumption
      clear h0 h4
      go_enter Try.func38, Try.ntmps38
      go_wp2
      go_ret
      exact ⟨by rw [HR.out]; rfl, HB0.out⟩
    · have e2 : ¬ (400 : Int) < (nn : Int) := by omega
      have HRS : Hid (spOk ns = match rdS ns 13 0 with
          | none => false
          | some (t, n) => decide (n = ns.length) && t.full true && decide (0 ≤ t.dp) && pOk t.all && decide (lay 0 t = ns)) := by
        show _ = _
        rw [spOk, if_neg (by rw [← hnn.out]; exact h0), if_neg (by rw [← hnn.out]; exact h4)]
        try (cases rdS ns 13 0 <;> rfl)
      have HRT : Hid (rootS ns = match rdS ns 13 0 with
          | none => none
          | some (t, n) => if n = ns.length then some t else none) := by
        show _ = _
        rw [rootS, if_neg (by rw [← hnn.out]; exact h0)]
        try (cases rdS ns 13 0 <;> rfl)
      have hnl : nn ≤ 400 := by omega
      clear h0 h4
      go_enter Try.func38, Try.ntmps38
      go_wp2_with fail
      refine (specRoot_any ns hlen hsm S an nn cn _ (HN.out.below HB0.out)).mono ?_
      generalize w.alloc (.cells #[.slice an nn cn] 25) = U at *
      rintro e w1 ⟨hpost, hb1⟩
      have HB1 := hid (HB0.out.trans (hb1.mono HB0.out.size))
      have KT1 := hid (KT.out.below hb1)
      cases hr : rootS ns with
      | none =>
        rw [hr] at hpost
        obtain ⟨lf, ap, np, cp, ak, nk, ck, he⟩ := hpost
        subst he
        have HR : Hid (spOk ns = false) := by
          show _ = _
          rw [HRS.out]
          have h1 := HRT.out
          rw [hr] at h1
          cases hx : rdS ns 13 0 with
          | none => rfl
          | some x =>
            obtain ⟨t, n⟩ := x
            rw [hx] at h1
            simp only at h1 ⊢
            split at h1
            · cases h1
            · rename_i hn
              simp [hn]
        clear hb1 hr
        go_wp2
        go_ret
        exact ⟨by rw [HR.out]; rfl, HB1.out.alloc HB1.out.size _⟩
      | some t =>
        rw [hr] at hpost
        obtain ⟨lf, ap, np, cp, ak, nk, ck, he, hsub⟩ := hpost
        subst he
        have HRD : Hid (rdS ns 13 0 = some (t, ns.length)) := by
          show _ = _
          have h1 := HRT.out
          rw [hr] at h1
          cases hx : rdS ns 13 0 with
          | none => rw [hx] at h1; cases h1
          | some x =>
            obtain ⟨t', n⟩ := x
            rw [hx] at h1
            simp only at h1
            split at h1
            · rename_i hn; cases h1; rw [hn]
            · cases h1
        have HSP : Hid (spOk ns = (t.full true && decide (0 ≤ t.dp) && pOk t.all && decide (lay 0 t = ns))) := by
          show _ = _
          rw [HRS.out, HRD.out]
          simp
        have HTI := hid (rdS_info ns 13 0 t ns.length HRD.out)
        have HB2 := hid (HB1.out.alloc HB1.out.size (.cells #[.bool lf, .slice ap np cp, .slice ak nk ck] 74))
        have KT2 := hid (KT1.out.alloc (.cells #[.bool lf, .slice ap np cp, .slice ak nk ck] 74))
        have KS2 := hid (Bk.new w1 74 [.bool lf, .slice ap np cp, .slice ak nk ck])
        have HS2 : Hid (Sub (w1.alloc (.cells #[.bool lf, .slice ap np cp, .slice ak nk ck] 74)) (fun y => U.heap.size ≤ y ∧ y < w1.heap.size) lf (.slice ap np cp) (.slice ak nk ck) t) := hsub.kept (below_new (Below.refl _ _))
        clear hb1 hr hsub KT KT1 HB0 HB1 HRS HRT
        go_wp2_with fail
        refine (specFull_any t _ true lf ap ak np cp nk ck _ HS2.out).mono ?_
        generalize hgw : w1.heap.size = sb at *
        clear hgw
        generalize w1.alloc (.cells #[.bool lf, .slice ap np cp, .slice ak nk ck] 74) = w2 at *
        rintro e w3 ⟨rfl, hb3⟩
        have HB3 := hid (HB2.out.trans (hb3.mono HB2.out.size))
        have KT3 := hid (KT2.out.below hb3)
        have KS3 := hid (KS2.out.below hb3)
        have HS3 := hid (HS2.out.kept hb3)
        clear hb3 HB2 KT2 KS2 HS2
        cases hfu : t.full true
        · have HR : Hid (spOk ns = false) := by show _ = _; rw [HSP.out, hfu]; rfl
          clear hfu
          go_wp2
          go_ret
          exact ⟨by rw [HR.out]; rfl, HB3.out⟩
        · have HFU := hid hfu
          clear hfu
          have s0 := KS3.out.cell (j := 0) rfl
          have s1 := KS3.out.cell (j := 1) rfl
          have s2 := KS3.out.cell (j := 2) rfl
          go_wp2_with fail
          refine (specDeep_any t _ lf ap ak np cp nk ck w3 HS3.out (by have := HTI.out.2.2; omega)).mono ?_
          rintro e w4 ⟨rfl, hb4⟩
          have HB4 := hid (HB3.out.trans (hb4.mono HB3.out.size))
          have KT4 := hid (KT3.out.below hb4)
          have KS4 := hid (KS3.out.below hb4)
          have HS4 := hid (HS3.out.kept hb4)
          clear hb4 HB3 KT3 KS3 HS3 s0 s1 s2
          by_cases hdp : t.dp < 0
          · have HR : Hid (spOk ns = false) := by show _ = _; rw [HSP.out, decide_eq_false (by omega : ¬ 0 ≤ t.dp)]; simp
            generalize t.dp = dd at *
            go_wp2
            go_ret
            exact ⟨by rw [HR.out]; rfl, HB4.out⟩
          · have HDP := hid hdp
            have hal : t.all.length ≤ 1048576 := by
              have h1 := full_all_le t true HFU.out
              have h2 := HTI.out.2.1
              have h3 := hnn.out
              omega
            have s0 := KS4.out.cell (j := 0) rfl
            have s1 := KS4.out.cell (j := 1) rfl
            have s2 := KS4.out.cell (j := 2) rfl
            have HAL := hid hal
            clear hal
            generalize hdd : t.dp = dd at hdp
            clear hdd
            go_wp2_with fail
            refine (specPairs_any t _ lf ap ak np cp nk ck w4 HS4.out HAL.out).mono ?_
            rintro e w5 ⟨v5, rfl, hO5, hb5⟩
            obtain ⟨a5, n5, c5, hv5, HN5⟩ := hO5.shape'
            subst hv5
            have HO5 := hid hO5
            have HB5 := hid (HB4.out.trans (hb5.mono HB4.out.size))
            have KT5 := hid (KT4.out.below hb5)
            have KS5 := hid (KS4.out.below hb5)
            have HS5 := hid (HS4.out.kept hb5)
            clear hb5 hO5 HB4 KT4 KS4 HS4 s0 s1 s2
            go_wp2_with fail
            refine (specPairsOk_any (fun _ => True) _ t.all w5 (HO5.out.pr (fun _ _ _ _ => trivial))).mono ?_
            rintro e w6 ⟨rfl, hb6⟩
            have HB6 := hid (HB5.out.trans (hb6.mono HB5.out.size))
            have KT6 := hid (KT5.out.below hb6)
            have KS6 := hid (KS5.out.below hb6)
            have HS6 := hid (HS5.out.kept hb6)
            clear hb6 HB5 KT5 KS5 HS5 HO5 HN5
            cases hpk : pOk t.all
            · have HR : Hid (spOk ns = false) := by show _ = _; rw [HSP.out, hpk]; simp
              clear hpk
              go_wp2
              go_ret
              exact ⟨by rw [HR.out]; rfl, HB6.out⟩
            · have HRV : Hid (spOk ns = decide (lay 0 t = ns)) := by show _ = _; rw [HSP.out, hpk, HFU.out, decide_eq_true (by have := HDP.out; omega : 0 ≤ t.dp)]; simp
              have s0 := KS6.out.cell (j := 0) rfl
              have s1 := KS6.out.cell (j := 1) rfl
              have s2 := KS6.out.cell (j := 2) rfl
              clear hpk HSP
              go_wp2_with fail
              refine (specLay_any t _ lf ap ak np cp nk ck w6 (fun _ => False) none 0 0 [] true HS6.out (fun y _ => by simp [Value.ownBlock]) (no_nil w6) (by have h2 := HTI.out.2.1; have h3 := hnn.out; simp; omega) HFU.out).mono ?_
              rintro e w7 ⟨v7, rfl, hN7, ho7, _⟩
              have hb7 : Below w6.heap.size w6 w7 := ho7.below (Nat.le_refl _) (fun b _ => by simp [Value.ownBlock])
              obtain ⟨a7, n7, c7, hv7, HN7L⟩ := hN7.shape
              subst hv7
              have HNR : Hid (Nr w7 (fun _ => True) (.slice a7 n7 c7) (lay 0 t)) := hN7.nr (fun _ _ => trivial)
              have HB7 := hid (HB6.out.trans (hb7.mono HB6.out.size))
              have KT7 := hid (KT6.out.below hb7)
              have HLL : Hid (n7 = nn) := by
                have h1 := HN7L.out
                have h2 := HTI.out.2.1
                have h3 := hnn.out
                simp [lay_length] at h1
                show _ = _
                omega
              have hn7 : n7 = nn := HLL.out
              clear hN7 ho7 hb7 HB6 KT6 KS6 HS6 HN7L s0 s1 s2
              subst hn7
              have t0 := KT7.out.cell (j := 0) rfl
              have hz : ((n7 : Int) != (n7 : Int)) = false := by simp
              have HTN : Hid (n7 = (lay 0 t).length) := HNR.out.len.1
              go_wp2_with fail
              go_loopw [48] (fun i wr => ∃ k : Nat, k ≤ n7 ∧ i = .int .i64 k ∧ Hid (Below w7.heap.size w7 wr) ∧ Hid ((lay 0 t).take k = ns.take k)) (fun i _ => n7 - (intOf i).toNat)
              case atStart => exact ⟨0, Nat.zero_le _, rfl, Below.refl _ _, rfl⟩
              case round =>
                obtain ⟨k, hk, rfl, HB, HT⟩ := hrel
                have HBB := hid (HB7.out.trans (HB.out.mono HB7.out.size))
                by_cases hlt : k < n7
                · have hlt' : (k : Int) < (n7 : Int) := by omega
                  have HP := hid (HNR.out.below HB.out)
                  have HP' := hid (HN.out.below HBB.out)
                  obtain ⟨bA, oA, hA, _, _, hcell⟩ := HP.out.at (by omega)
                  obtain ⟨bT, oT, hT, _, _, hcell'⟩ := HP'.out.at (by omega)
                  subst hA hT
                  obtain ⟨ap1, np1, cp1, ax1, nx1, cx1, ai1, ni1, ci1, x0, x1, x2, hp, hx, hi⟩ := hcell k hlt
                  obtain ⟨ap2, np2, cp2, ax2, nx2, cx2, ai2, ni2, ci2, y0, y1, y2, hp', hx', hi'⟩ := hcell' k hlt
                  have tt := (KT7.out.below HB.out).cell (j := 0) rfl
                  have HC : Hid (∀ v, Below wr.heap.size wr v → Calls Try.prog 83 #[.agg #[.slice ap1 np1 cp1, .slice ax1 nx1 cx1, .slice ai1 ni1 ci1], .agg #[.slice ap2 np2 cp2, .slice ax2 nx2 cx2, .slice ai2 ni2 ci2]] v fun e w' => e = .returned (.bool (decide (nAt (lay 0 t) k = nAt ns k))) ∧ Below v.heap.size v w') := fun v hv =>
                    sameNode_any _ _ ap1 ax1 ai1 ap2 ax2 ai2 np1 cp1 nx1 cx1 ni1 ci1 np2 cp2 nx2 cx2 ni2 ci2 (nAt (lay 0 t) k) (nAt ns k) v (hp.below hv) (hx.below hv) (hi.below hv) (hp'.below hv) (hx'.below hv) (hi'.below hv)
                  have HSS : Hid (nAt (lay 0 t) k = nAt ns k → (lay 0 t).take (k + 1) = ns.take (k + 1)) := by
                    intro e
                    have hl : k < (lay 0 t).length := by rw [← HTN.out]; exact hlt
                    have hl' : k < ns.length := by rw [← hnn.out]; exact hlt
                    rw [List.take_succ_eq_append_getElem hl, List.take_succ_eq_append_getElem hl', HT.out]
                    simp [nAt, hl, hl'] at e
                    rw [e]
                  have HFF : Hid (nAt (lay 0 t) k ≠ nAt ns k → spOk ns = false) := by
                    intro e
                    rw [HRV.out, decide_eq_false_iff_not]
                    intro e'
                    exact e (by rw [e'])
                  have T0 : Hid (KC wr wr [(⟨bA, oA + k * 3, none⟩, .slice ap1 np1 cp1), (⟨bA, oA + k * 3 + 1, none⟩, .slice ax1 nx1 cx1), (⟨bA, oA + k * 3 + 2, none⟩, .slice ai1 ni1 ci1), (⟨bT, oT + k * 3, none⟩, .slice ap2 np2 cp2), (⟨bT, oT + k * 3 + 1, none⟩, .slice ax2 nx2 cx2), (⟨bT, oT + k * 3 + 2, none⟩, .slice ai2 ni2 ci2), (⟨w.heap.size, 0, none⟩, .slice (some ⟨bT, oT, none⟩) n7 cn)]) := ⟨fun p hp => by simp at hp; rcases hp with rfl | rfl | rfl | rfl | rfl | rfl | rfl <;> assumption, Below.refl _ _⟩
                  clear hcell hcell' HP HP' HT hp hx hi hp' hx' hi' x0 x1 x2 y0 y1 y2 tt t0
                  generalize nAt (lay 0 t) k = cx1' at *
                  generalize nAt ns k = cx2' at *
                  by_cases he : cx1' = cx2'
                  · have HS1 := hid (HSS.out he)
                    rw [decide_eq_true he] at HC
                    clear he HSS HFF
                    go_wp2_with fail
                    go_region_held3 (fun v => v.cell? ⟨bA, oA + k * 3, none⟩ = some (.slice ap1 np1 cp1) ∧ v.cell? ⟨bA, oA + k * 3 + 1, none⟩ = some (.slice ax1 nx1 cx1) ∧ v.cell? ⟨bA, oA + k * 3 + 2, none⟩ = some (.slice ai1 ni1 ci1) ∧ v.cell? ⟨bT, oT + k * 3, none⟩ = some (.slice ap2 np2 cp2) ∧ v.cell? ⟨bT, oT + k * 3 + 1, none⟩ = some (.slice ax2 nx2 cx2) ∧ v.cell? ⟨bT, oT + k * 3 + 2, none⟩ = some (.slice ai2 ni2 ci2) ∧ v.cell? ⟨w.heap.size, 0, none⟩ = some (.slice (some ⟨bT, oT, none⟩) n7 cn) ∧ KC wr v [(⟨bA, oA + k * 3, none⟩, .slice ap1 np1 cp1), (⟨bA, oA + k * 3 + 1, none⟩, .slice ax1 nx1 cx1), (⟨bA, oA + k * 3 + 2, none⟩, .slice ai1 ni1 ci1), (⟨bT, oT + k * 3, none⟩, .slice ap2 np2 cp2), (⟨bT, oT + k * 3 + 1, none⟩, .slice ax2 nx2 cx2), (⟨bT, oT + k * 3 + 2, none⟩, .slice ai2 ni2 ci2), (⟨w.heap.size, 0, none⟩, .slice (some ⟨bT, oT, none⟩) n7 cn)])
                      (first | assumption | exact kc7 (T0.out.call (below_drew _)) | exact kc7c hbC (by assumption))
                      (first | (go_at_call 83; refine (HC.out _ (KC.bel (by first | exact (by assumption : _ ∧ _ ∧ _ ∧ _ ∧ _ ∧ _ ∧ _ ∧ _).2.2.2.2.2.2.2))).mono ?_; rintro e w' ⟨rfl, hbC⟩))
                    all_goals (rename_i hS; have HB8 := hid (Below.then' HB.out hS.2.2.2.2.2.2.2.bel (Nat.le_refl _)); clear hS; go_wp2)
                    go_roundw
                    case rel => exact ⟨k + 1, by omega, by go_num, HB8.out, HS1.out⟩
                    case measure => simp [intOf]; omega
                  · have HF1 := hid (HFF.out he)
                    rw [decide_eq_false he] at HC
                    clear he HSS HFF
                    go_wp2_with fail
                    go_region_held3 (fun v => v.cell? ⟨bA, oA + k * 3, none⟩ = some (.slice ap1 np1 cp1) ∧ v.cell? ⟨bA, oA + k * 3 + 1, none⟩ = some (.slice ax1 nx1 cx1) ∧ v.cell? ⟨bA, oA + k * 3 + 2, none⟩ = some (.slice ai1 ni1 ci1) ∧ v.cell? ⟨bT, oT + k * 3, none⟩ = some (.slice ap2 np2 cp2) ∧ v.cell? ⟨bT, oT + k * 3 + 1, none⟩ = some (.slice ax2 nx2 cx2) ∧ v.cell? ⟨bT, oT + k * 3 + 2, none⟩ = some (.slice ai2 ni2 ci2) ∧ v.cell? ⟨w.heap.size, 0, none⟩ = some (.slice (some ⟨bT, oT, none⟩) n7 cn) ∧ KC wr v [(⟨bA, oA + k * 3, none⟩, .slice ap1 np1 cp1), (⟨bA, oA + k * 3 + 1, none⟩, .slice ax1 nx1 cx1), (⟨bA, oA + k * 3 + 2, none⟩, .slice ai1 ni1 ci1), (⟨bT, oT + k * 3, none⟩, .slice ap2 np2 cp2), (⟨bT, oT + k * 3 + 1, none⟩, .slice ax2 nx2 cx2), (⟨bT, oT + k * 3 + 2, none⟩, .slice ai2 ni2 ci2), (⟨w.heap.size, 0, none⟩, .slice (some ⟨bT, oT, none⟩) n7 cn)])
                      (first | assumption | exact kc7 (T0.out.call (below_drew _)) | exact kc7c hbC (by assumption))
                      (first | (go_at_call 83; refine (HC.out _ (KC.bel (by first | exact (by assumption : _ ∧ _ ∧ _ ∧ _ ∧ _ ∧ _ ∧ _ ∧ _).2.2.2.2.2.2.2))).mono ?_; rintro e w' ⟨rfl, hbC⟩))
                    all_goals (rename_i hS; have HB8 := hid (Below.then' HBB.out hS.2.2.2.2.2.2.2.bel (Nat.le_refl _)); clear hS; go_wp2)
                    go_ret
                    exact ⟨by rw [HF1.out]; rfl, HB8.out⟩
                · have HF : Hid (spOk ns = true) := by
                    show _ = _
                    rw [HRV.out, decide_eq_true_eq]
                    have e := HT.out
                    rwa [List.take_of_length_le (by rw [← HTN.out]; omega), List.take_of_length_le (by rw [← hnn.out]; omega)] at e
                  clear HT
                  go_wp2
                  go_ret
                  exact ⟨by rw [HF.out]; rfl, HBB.out⟩
end Go.Proofs.Ytkflneeifllpgaa
/-
  What is known of a tree that is read.
-/
namespace Go.Proofs.Ytkflneeifllpgaa
open Go.RowKit
structure OkF (ns : List NB) (t : T) : Prop where
  root : rootS ns = some t
  few : t.ps.length + t.ks.length ≤ 8
  lv : t.lv ≤ 13
  ht : t.ht ≤ 13
  all : t.all.length ≤ 200
  ok : pOk t.all = true
  dp : ns.length ≠ 0 → t.dp = t.dpt
  nil : ns.length = 0 → t = .mk [] []
theorem okT_facts {ns : List NB} {t : T} (h : okT ns = some t) : OkF ns t := by
  by_cases hne : ns.length = 0
  · rw [okT, if_pos hne] at h
    cases h
    exact ⟨by rw [rootS, if_pos hne], by decide, by decide, by decide, by decide, by decide, fun h => absurd hne h, fun _ => rfl⟩
  · have g := (okT_good hne).1 h
    have hr := g.read
    have hi := rdS_info ns 13 0 t ns.length hr
    have hf := g.full
    obtain ⟨e, he⟩ := g.even
    obtain ⟨ps, ks⟩ := t
    have hfew : (T.mk ps ks).ps.length + (T.mk ps ks).ks.length ≤ 8 ∧ (T.mk ps ks).bare = false := by
      show ps.length + ks.length ≤ 8 ∧ (decide (ps.length + ks.length = 0) = false)
      rw [T.full] at hf
      split at hf
      · rename_i hk
        subst hk
        simp at hf
        constructor
        · simp; omega
        · simp; intro h0; subst h0; simp at hf
      · simp at hf
        constructor
        · have hp0 : ps.length = 0 := by rw [hf.1.2]; rfl
          omega
        · simp; intro h0 h1; subst h1; simp at hf
    refine ⟨?_, hfew.1, ?_, hi.2.2, ?_, g.ok, fun _ => ?_, fun h => absurd h hne⟩
    · rw [rootS, if_neg hne, hr]; simp
    · rw [ev_lv e _ he]; exact Nat.le_trans (ev_ht e _ he) hi.2.2
    · exact pOk_len g.ok
    · rw [g.dp, T.dpt, hfew.2]; rfl
end Go.Proofs.Ytkflneeifllpgaa
/-
  spec.TreeAll, impl.TreeAll: the same pairs, in new memory.
-/
namespace Go.Proofs.Ytkflneeifllpgaa
open Go.RowKit
def alV (ns : List NB) : List PB := match okT ns with | none => [] | some t => t.all
theorem alV_len (ns : List NB) : (alV ns).length ≤ 200 := by
  unfold alV
  cases h : okT ns with
  | none => exact Nat.zero_le _
  | some t => exact (okT_facts h).all
def OwPost (l : List PB) (w : World) (e : Ending) (w' : World) : Prop := ∃ v, e = .returned v ∧ Ow w' w.heap.size v l ∧ Below w.heap.size w w'
set_option maxHeartbeats 2000000 in
theorem implTreeAll_any (S : Nat → Prop) (an : Option Addr) (nn cn : Nat) (ns : List NB) (w : World) (hN : Nr w S (.slice an nn cn) ns) :
    Calls Try.prog 13 #[.agg #[.slice an nn cn]] w fun e w' => OwPost (alV ns) w e w' := by
  have HN := hid hN
  have h1 := hN.len.2.1
  have h2 := hN.len.2.2
  clear hN
  have HB0 := hid (below_new (o := .cells #[.slice an nn cn] 25) (w := w) (Below.refl _ _))
  go_enter Try.func13, Try.ntmps13
  go_wp2_with fail
  refine (rootOf_any S an nn cn ns _ (HN.out.below HB0.out)).mono ?_
  generalize w.alloc (.cells #[.slice an nn cn] 25) = U at *
  rintro e w1 ⟨hpost, hb1⟩
  have HB1 : Hid (Below w.heap.size w w1) := HB0.out.trans (hb1.mono HB0.out.size)
  clear hb1
  cases hr : okT ns with
  | none =>
    rw [hr] at hpost
    have he : e = .returned (.pointer none) := hpost
    subst he
    have HR : Hid (alV ns = []) := by show _ = _; rw [alV, hr]
    clear hpost hr
    go_wp2
    go_ret
    exact ⟨_, rfl, by rw [HR.out]; exact ow_nil _ _, HB1.out⟩
  | some t =>
    rw [hr] at hpost
    obtain ⟨b, he, hL⟩ := hpost
    subst he
    have HR : Hid (alV ns = t.all) := by show _ = _; rw [alV, hr]
    have HF := hid (okT_facts hr)
    have HL := hid hL
    clear hL hr
    go_wp2_with fail
    refine (all_any t _ b w1 w1.heap.size (.slice none 0 0) [] HL.out (fun x hx => hx.2) (Nat.le_refl _) (ow_nil _ _) (by have := HF.out.all; simp; omega)).mono ?_
    rintro e w2 ⟨v, rfl, hO, hb⟩
    have HB2 : Hid (Below w.heap.size w w2) := HB1.out.trans (hb.mono HB1.out.size)
    have HO : Hid (Ow w2 w.heap.size v t.all) := own_mono hO HB1.out.size
    clear hO hb
    go_wp2
    go_ret
    exact ⟨_, rfl, by rw [HR.out]; exact HO.out, HB2.out⟩
set_option maxHeartbeats 2000000 in
theorem specTreeAll_any (ns : List NB) (hlen : ns.length ≤ 1048576) (hsm : smallN ns) (S : Nat → Prop) (an : Option Addr) (nn cn : Nat) (w : World) (hN : Nr w S (.slice an nn cn) ns) :
    Calls Try.prog 10 #[.agg #[.slice an nn cn]] w fun e w' => OwPost (alV ns) w e w' := by
  have h1 := hN.len.2.1
  have h2 := hN.len.2.2
  have HB0 := hid (below_new (o := .cells #[.slice an nn cn] 25) (w := w) (Below.refl _ _))
  have K0 := hid (Bk.new w 25 [.slice an nn cn])
  have H0 := hid (hN.below HB0.out)
  have HLS := hid (And.intro hlen hsm)
  clear hN hlen hsm
  go_enter Try.func10, Try.ntmps10
  go_wp2_with fail
  refine (specTreeOk_any ns HLS.out.1 HLS.out.2 S an nn cn _ H0.out).mono ?_
  generalize w.alloc (.cells #[.slice an nn cn] 25) = U at *
  rintro e w1 ⟨rfl, hb⟩
  have HB1 := hid (HB0.out.trans (hb.mono HB0.out.size))
  have K1 := hid (K0.out.below hb)
  have H1 := hid (H0.out.below hb)
  clear hb HB0 K0 H0
  rw [spOk_eq]
  cases hr : okT ns with
  | none =>
    have HR : Hid (alV ns = []) := by show _ = _; rw [alV, hr]
    clear hr
    go_wp2
    go_ret
    exact ⟨_, rfl, by rw [HR.out]; exact ow_nil _ _, HB1.out⟩
  | some t =>
    have HR : Hid (alV ns = t.all) := by show _ = _; rw [alV, hr]
    have HF := hid (okT_facts hr)
    clear hr
    have c1 := K1.out.cell (j := 0) rfl
    go_wp2_with fail
    refine (specRoot_any ns HLS.out.1 HLS.out.2 S an nn cn _ H1.out).mono ?_
    rintro e w2 ⟨hpost, hb⟩
    rw [HF.out.root] at hpost
    obtain ⟨lf, ap, np, cp, ak, nk, ck, he, hsub⟩ := hpost
    subst he
    have HB2 := hid (Below.then' HB1.out hb (Nat.le_refl _))
    have HB3 := hid (HB2.out.alloc HB2.out.size (.cells #[.bool lf, .slice ap np cp, .slice ak nk ck] 74))
    have HS2 := hid (hsub.kept (below_new (o := .cells #[.bool lf, .slice ap np cp, .slice ak nk ck] 74) (w := w2) (Below.refl _ _)))
    clear hb hsub K1 H1 HB1 HB2 c1
    go_wp2_with fail
    refine (specPairs_any t _ lf ap ak np cp nk ck _ HS2.out (by have := HF.out.all; omega)).mono ?_
    generalize w2.alloc (.cells #[.bool lf, .slice ap np cp, .slice ak nk ck] 74) = w3 at *
    rintro e w4 ⟨v, rfl, hO, hb⟩
    have HB4 := hid (Below.then' HB3.out hb (Nat.le_refl _))
    have HO : Hid (Ow w4 w.heap.size v t.all) := own_mono hO HB3.out.size
    clear hb hO
    go_wp2
    go_ret
    exact ⟨_, rfl, by rw [HR.out]; exact HO.out, HB4.out⟩
end Go.Proofs.Ytkflneeifllpgaa
/-
  impl.treeFrom and impl.TreePut.
-/
namespace Go.Proofs.Ytkflneeifllpgaa
open Go.RowKit
/-- A tree's nodes: none where there is nothing. -/
def layT (t : T) : List NB := if t.bare = true then [] else lay 0 t
/-- A list of nodes in rows of its own, apart from each other, all new. -/
def TRow (w w' : World) (v : Value) (ms : List NB) : Prop := ∃ V, NA w' v V ms ∧ (∀ y, v.ownBlock = some y → w.heap.size ≤ y) ∧ (∀ i, i < ms.length → ∀ y, bl (vAt V i) y → w.heap.size ≤ y)
theorem TRow.nil (w w' : World) : TRow w w' (.slice none 0 0) [] := ⟨[], na_nil _, fun y hy => (by cases hy), fun i hi => (by simp at hi)⟩
theorem TRow.kept {w w' w2 : World} {v : Value} {ms : List NB} (h : TRow w w' v ms) (hb : Below w'.heap.size w' w2) : TRow w w2 v ms := by
  obtain ⟨V, h1, h2, h3⟩ := h
  exact ⟨V, h1.kept hb, h2, h3⟩
theorem TRow.shape {w w' : World} {v : Value} {ms : List NB} (h : TRow w w' v ms) : ∃ a n c, v = .slice a n c ∧ Hid (n = ms.length) := by
  obtain ⟨V, h1, _⟩ := h
  exact h1.shape
def TreePost (o : Option (List NB)) (w : World) (e : Ending) (w' : World) : Prop := ∃ v, e = .returned (.tuple #[.agg #[v], .bool o.isSome]) ∧ TRow w w' v (o.getD []) ∧ Below w.heap.size w w'
theorem results_tree2 {fn : Func} {p u : Tmp} (h : fn.results = #[.cell p 25, .tmp u]) (tmps : Array Value) (w : World) (g : Nat) {x b : Value} (hp : tmps.getD p undef = .pointer (some ⟨g, 0, none⟩)) (hb : tmps.getD u undef = b)
    (c0 : w.cell? ⟨g, 0, none⟩ = some x) : (results fn tmps).run Try.prog w = .ok (.tuple #[.agg #[x], b]) w := by
  have hp' : tmps[p]?.getD undef = .pointer (some ⟨g, 0, none⟩) := by simpa using hp
  have hb' : tmps[u]?.getD undef = b := by simpa using hb
  have hl : (loadVar 25 ⟨g, 0, none⟩).run Try.prog w = .ok (.agg #[x]) w := by go_simp
  simp [results, h, hp', hb', asAddr, hl, Result.andThen]
theorem results_tree1 {fn : Func} {p : Tmp} (h : fn.results = #[.cell p 25]) (tmps : Array Value) (w : World) (g : Nat) {x : Value} (hp : tmps.getD p undef = .pointer (some ⟨g, 0, none⟩))
    (c0 : w.cell? ⟨g, 0, none⟩ = some x) : (results fn tmps).run Try.prog w = .ok (.agg #[x]) w := by
  have hp' : tmps[p]?.getD undef = .pointer (some ⟨g, 0, none⟩) := by simpa using hp
  have hl : (loadVar 25 ⟨g, 0, none⟩).run Try.prog w = .ok (.agg #[x]) w := by go_simp
  simp [results, h, hp', asAddr, hl]
theorem okT_putIn {ns : List NB} {t : T} (h : okT ns = some t) : PutIn t.lv true t := by
  have hf := okT_facts h
  by_cases hne : ns.length = 0
  · rw [hf.nil hne]
    exact ⟨.inl ⟨rfl, rfl⟩, .inr ⟨rfl, rfl⟩, List.Pairwise.nil⟩
  · have g := (okT_good hne).1 h
    obtain ⟨e, he⟩ := g.even
    rw [ev_lv e t he]
    exact ⟨he, .inl g.full, pOk_asc hf.ok⟩
/-- The tree behind a put. -/
def putV (ns : List NB) (k v : ByteArray) : Option (List NB) := match okT ns with
  | none => none
  | some t => if kOk k = true ∧ vOk v = true then (if 200 < (rootT (putF t.lv t (k, v))).all.length then none else some (layT (rootT (putF t.lv t (k, v))))) else none
theorem rootT_ok {ns : List NB} {t : T} (h : okT ns = some t) (p : PB) : (rootT (putF t.lv t p)).full true = true ∧ (∃ h, Ev h (rootT (putF t.lv t p))) ∧ (rootT (putF t.lv t p)).all = insP t.all p := rootT_full (putF_out t.lv true t p (okT_putIn h))
set_option maxHeartbeats 1000000 in
theorem treeFrom_any (S : Nat → Prop) (b : Nat) (t : T) (w : World) (hL : Limb w S b t) (hS : ∀ x, S x → x < w.heap.size) (hf : t.full true = true ∨ t = bareT) (hs : t.ps.length + t.ks.length ≤ 1048576) (hz : t.size ≤ 1048576) :
    Calls Try.prog 37 #[.pointer (some ⟨b, 0, none⟩)] w fun e w' => ∃ v V, e = .returned (.agg #[v]) ∧ Hid (NA w' v V (layT t) ∧ (∀ y, v.ownBlock = some y → w.heap.size ≤ y) ∧ (∀ i, i < (layT t).length → ∀ y, bl (vAt V i) y → S y ∨ w.heap.size ≤ y)) ∧ Below w.heap.size w w' := by
  have HB0 := hid (below_new (o := .cells #[.slice none 0 0] 25) (w := w) (Below.refl _ _))
  have K0 := hid (Bk.new w 25 [.slice none 0 0])
  have HBA := hid (fun (w' : World) h1 => isBare_any S b t w' h1 hs)
  have HL0 := hid (hL.kept HB0.out)
  have HS0 := hid hS
  have HF := hid hf
  have HZ := hid hz
  have HW : Hid (∀ q, Below w.heap.size w ((w.alloc (.cells #[.slice none 0 0] 25)).drewN q)) := fun q => Below.then' HB0.out (below_dn _ q) (Nat.le_refl _)
  clear hL hS hf hs hz
  go_enter Try.func37, Try.ntmps37
  go_wp2_with fail
  refine (HBA.out _ HL0.out).mono ?_
  rintro e w1 ⟨rfl, n1, rfl⟩
  have HB1 := hid (HW.out n1)
  have HL1 := hid (HL0.out.kept (below_dn _ n1))
  have K1 := hid (K0.out.below (below_dn _ n1))
  generalize (w.alloc (.cells #[.slice none 0 0] 25)).drewN n1 = X at *
  clear HB0 HL0 HBA HW K0
  have c0 := K1.out.cell (j := 0) rfl
  have f0 := K1.out.free 0
  cases hb : t.bare with
  | true =>
    have HLY : Hid (layT t = []) := by show _ = _; rw [layT, if_pos hb]
    have HFB : Hid (Below w.heap.size w (X.setCell ⟨w.heap.size, 0, none⟩ (.slice none 0 0))) := ⟨HB1.out.os, HB1.out.tape, HB1.out.output, by simp [World.setCell]; exact HB1.out.size, fun i hi => (Below.heap_setCell _ _ _ _ (show i ≠ w.heap.size by omega)).trans (HB1.out.block i hi)⟩
    have d0 := (K1.out.set 0 (.slice none 0 0)).cell (j := 0) rfl
    clear hb
    go_wp2
    refine bodyPost_ret (v := .agg #[.slice none 0 0]) ?_ rfl ?_
    · refine results_tree1 rfl _ _ _ rfl ?_
      exact d0
    refine ⟨_, [], rfl, ⟨?_, fun y hy => (by cases hy), fun i hi => ?_⟩, HFB.out⟩
    · rw [HLY.out]; exact na_nil _
    · rw [HLY.out] at hi; simp at hi
  | false =>
    have hfu : t.full true = true := by
      rcases HF.out with h | h
      · exact h
      · rw [h] at hb; cases hb
    have HLY : Hid (layT t = lay 0 t) := by show _ = _; rw [layT, if_neg (by rw [hb]; simp)]
    have HND := hid (nodes_any t S b X (.slice none 0 0) [] [] true HL1.out hfu (na_nil X) (fun y hy => ⟨Nat.lt_of_lt_of_le (HS0.out y hy) HB1.out.size, by simp [Value.ownBlock], fun i hi => by simp at hi⟩) (by have := HZ.out; simpa using this))
    clear hb hfu
    go_wp2_with fail
    refine HND.out.mono ?_
    rintro e w2 ⟨v2, V, rfl, hI⟩
    simp only [List.nil_append, List.length_nil] at hI
    have hb2 : Below X.heap.size X w2 := hI.only.below (Nat.le_refl _) (fun b _ h => by cases h)
    have K2 := hid (K1.out.below hb2)
    obtain ⟨a2, n2, c2, e2, -⟩ := hI.na.shape
    subst e2
    have HI := hid hI
    have e0 := K2.out.cell (j := 0) rfl
    have e1 := K2.out.free 0
    have HBW := hid (Below.then' HB1.out hb2 (Nat.le_refl _))
    have hwx : w.heap.size < X.heap.size := K1.out.lt
    have HNV : Hid ((Value.slice a2 n2 c2).ownBlock ≠ some w.heap.size) := fun e => by
      rcases hI.vb _ e with h | h
      · cases h
      · omega
    have HNB : Hid (∀ i, i < (lay 0 t).length → ∀ y, bl (vAt V i) y → y ≠ w.heap.size) := by
      intro i hi y hy e
      rcases hI.new i (Nat.zero_le _) hi y hy with h | h
      · have := HS0.out y h; omega
      · omega
    have HFB : Hid (Below w.heap.size w (w2.setCell ⟨w.heap.size, 0, none⟩ (.slice a2 n2 c2))) := ⟨HBW.out.os, HBW.out.tape, HBW.out.output, by simp [World.setCell]; exact HBW.out.size, fun i hi => (Below.heap_setCell _ _ _ _ (show i ≠ w.heap.size by omega)).trans (HBW.out.block i hi)⟩
    have d0 := (K2.out.set 0 (.slice a2 n2 c2)).cell (j := 0) rfl
    clear hI hb2 HND
    go_wp2
    refine bodyPost_ret (v := .agg #[.slice a2 n2 c2]) ?_ rfl ?_
    · refine results_tree1 rfl _ _ _ rfl ?_
      exact d0
    refine ⟨_, V, rfl, ⟨?_, fun y hy => ?_, fun i hi y hy => ?_⟩, HFB.out⟩
    · rw [HLY.out]
      exact HI.out.na.to (only_set (R := fun y => y = w.heap.size) rfl _) (fun y hy e => HNV.out (e ▸ hy)) (fun i hi y hy e => HNB.out i hi y hy e)
    · rcases HI.out.vb y hy with h | h
      · cases h
      · have := HB1.out.size; omega
    · rw [HLY.out] at hi
      rcases HI.out.new i (Nat.zero_le _) hi y hy with h | h
      · exact .inl h
      · right; have := HB1.out.size; omega
theorem putV_size {ns : List NB} {t : T} (h : okT ns = some t) (p : PB) : (rootT (putF t.lv t p)).all.length ≤ 201 ∧ (rootT (putF t.lv t p)).size ≤ 201 ∧ (rootT (putF t.lv t p)).ps.length + (rootT (putF t.lv t p)).ks.length ≤ 8 := by
  obtain ⟨h1, h2, h3⟩ := rootT_ok h p
  have h4 := insP_len t.all p
  have h5 := (okT_facts h).all
  have h6 := full_root h1
  rw [h3] at h6
  refine ⟨by rw [h3]; omega, by omega, ?_⟩
  generalize rootT (putF t.lv t p) = y at *
  obtain ⟨ps, ks⟩ := y
  simp only [T.ps, T.ks]
  by_cases hk : ks = []
  · subst hk; have := full_lf h1; simp; omega
  · obtain ⟨_, h2, rfl, _⟩ := full_br h1 hk; simp; omega
theorem isOverfull_any (S : Nat → Prop) (b : Nat) (t : T) (w : World) (hL : Limb w S b t) (hS : ∀ x, S x → x < w.heap.size) (hn : t.all.length ≤ 1000) :
    Calls Try.prog 36 #[.pointer (some ⟨b, 0, none⟩)] w fun e w' => e = .returned (.bool (decide (200 < t.all.length))) ∧ Below w.heap.size w w' := by
  have HL := hid hL
  have HS := hid hS
  clear hL hS
  go_enter Try.func36, Try.ntmps36
  go_wp2_with fail
  refine (all_any t _ b w w.heap.size (.slice none 0 0) [] HL.out HS.out (Nat.le_refl _) (ow_nil _ _) (by simp; omega)).mono ?_
  rintro e w4 ⟨v4, rfl, hO, hb⟩
  obtain ⟨a4, n4, c4, e4, hn4⟩ := hO.shape'
  subst e4
  have HB := hid hb
  have HN4 : Hid (n4 = t.all.length) := by have := hn4.out; show _ = _; simpa using this
  have hn5 : n4 ≤ 1000 := by have := HN4.out; omega
  have HD : Hid (decide ((200 : Int) < (n4 : Int)) = decide (200 < t.all.length)) := by
    show _ = _
    rw [← HN4.out]
    by_cases h : 200 < n4
    · rw [decide_eq_true (by omega), decide_eq_true h]
    · rw [decide_eq_false (by omega), decide_eq_false h]
  clear hO hb hn4 HN4
  go_wp2
  go_ret
  exact ⟨by first | exact congrArg (fun b => Ending.returned (Value.bool b)) HD.out | rfl, HB.out⟩
set_option maxHeartbeats 1000000 in
set_option maxRecDepth 20000 in
theorem implTreePut_any (S : Nat → Prop) (an : Option Addr) (nn cn : Nat) (ns : List NB) (k v : ByteArray) (w : World) (hN : Nr w S (.slice an nn cn) ns) :
    Calls Try.prog 7 #[.agg #[.slice an nn cn], .string k, .string v] w fun e w' => TreePost (putV ns k v) w e w' := by
  have HN := hid hN
  have h1 := hN.len.2.1
  have h2 := hN.len.2.2
  clear hN
  have HB0 : Hid (Below w.heap.size w ((w.alloc (.cells #[.slice an nn cn] 25)).alloc (.cells #[.slice none 0 0] 25))) := below_new (below_new (Below.refl _ _))
  have K0 : Hid (Bk ((w.alloc (.cells #[.slice an nn cn] 25)).alloc (.cells #[.slice none 0 0] 25)) (w.heap.size + 1) 25 [.slice none 0 0]) := by
    have := Bk.new (w.alloc (.cells #[.slice an nn cn] 25)) 25 [.slice none 0 0]
    show Bk _ _ _ _
    simpa using this
  have KA : Hid (Bk ((w.alloc (.cells #[.slice an nn cn] 25)).alloc (.cells #[.slice none 0 0] 25)) w.heap.size 25 [.slice an nn cn]) := (Bk.new w 25 [.slice an nn cn]).alloc _
  have a0 := KA.out.cell (j := 0) rfl
  go_enter Try.func7, Try.ntmps7
  go_wp2_with fail
  refine (rootOf_any S an nn cn ns _ (HN.out.below HB0.out)).mono ?_
  generalize (w.alloc (.cells #[.slice an nn cn] 25)).alloc (.cells #[.slice none 0 0] 25) = U at *
  clear a0 KA
  rintro e w1 ⟨hpost, hb1⟩
  have HB1 : Hid (Below w.heap.size w w1) := HB0.out.trans (hb1.mono HB0.out.size)
  have K1 := hid (K0.out.below hb1)
  have HU := hid hb1.size
  have HK0 := hid K0.out.lt
  clear hb1
  have hno : ∀ (X : World), Bk X (w.heap.size + 1) 25 [.slice none 0 0] → Below w.heap.size w X → Below w.heap.size w (X.setCell ⟨w.heap.size + 1, 0, none⟩ (.slice none 0 0)) := fun X _ hb => ⟨hb.os, hb.tape, hb.output, by simp [World.setCell]; exact hb.size, fun i hi => (Below.heap_setCell _ _ _ _ (show i ≠ w.heap.size + 1 by omega)).trans (hb.block i hi)⟩
  have HNO := hid hno
  clear hno
  have c0 := K1.out.cell (j := 0) rfl
  have f0 := K1.out.free 0
  have d0 := (K1.out.set 0 (.slice none 0 0)).cell (j := 0) rfl
  cases hr : okT ns with
  | none =>
    rw [hr] at hpost
    have he : e = .returned (.pointer none) := hpost
    subst he
    have HR : Hid (putV ns k v = none) := by show _ = _; rw [putV, hr]
    clear hpost hr
    go_wp2
    refine bodyPost_ret (v := .tuple #[.agg #[.slice none 0 0], .bool false]) ?_ rfl ?_
    · refine results_tree2 rfl _ _ _ rfl rfl ?_
      exact d0
    · rw [HR.out]; exact ⟨_, rfl, TRow.nil _ _, HNO.out _ K1.out HB1.out⟩
  | some t =>
    rw [hr] at hpost
    obtain ⟨b, he, hL⟩ := hpost
    subst he
    have HG := hid (okT_putIn hr)
    have HRO := hid (rootT_ok hr (k, v))
    have HSZ := hid (putV_size hr (k, v))
    have HL := hid hL
    have HR : Hid (putV ns k v = if kOk k = true ∧ vOk v = true then (if 200 < (rootT (putF t.lv t (k, v))).all.length then none else some (layT (rootT (putF t.lv t (k, v))))) else none) := by show _ = _; rw [putV, hr]
    clear hL hr
    cases hk : kOk k with
    | false =>
      have HR2 : Hid (putV ns k v = none) := by show _ = _; rw [HR.out, hk]; simp
      have HKO := hid (implKeyOk_is k false hk)
      clear hk HR
      go_wp2_with fail
      refine (HKO.out w1).mono ?_
      rintro e w2 ⟨rfl, rfl⟩
      go_wp2
      refine bodyPost_ret (v := .tuple #[.agg #[.slice none 0 0], .bool false]) ?_ rfl ?_
      · refine results_tree2 rfl _ _ _ rfl rfl ?_
        exact d0
      · rw [HR2.out]; exact ⟨_, rfl, TRow.nil _ _, HNO.out _ K1.out HB1.out⟩
    | true =>
      have HKO := hid (implKeyOk_is k true hk)
      cases hv : vOk v with
      | false =>
        have HR2 : Hid (putV ns k v = none) := by show _ = _; rw [HR.out, hv]; simp
        have HVO := hid (implValOk_any v)
        rw [hv] at HVO
        clear hk hv HR
        go_wp2_with fail
        refine (HKO.out w1).mono ?_
        rintro e w2 ⟨rfl, rfl⟩
        go_wp2_with fail
        refine (HVO.out w2).mono ?_
        rintro e w3 ⟨rfl, rfl⟩
        go_wp2
        refine bodyPost_ret (v := .tuple #[.agg #[.slice none 0 0], .bool false]) ?_ rfl ?_
        · refine results_tree2 rfl _ _ _ rfl rfl ?_
          exact d0
        · rw [HR2.out]; exact ⟨_, rfl, TRow.nil _ _, HNO.out _ K1.out HB1.out⟩
      | true =>
        have HR2 : Hid (putV ns k v = if 200 < (rootT (putF t.lv t (k, v))).all.length then none else some (layT (rootT (putF t.lv t (k, v))))) := by show _ = _; rw [HR.out, hk, hv]; simp
        have HVO := hid (implValOk_any v)
        rw [hv] at HVO
        clear hk hv HR
        go_wp2_with fail
        refine (HKO.out w1).mono ?_
        rintro e w2 ⟨rfl, rfl⟩
        go_wp2_with fail
        refine (HVO.out w2).mono ?_
        rintro e w3 ⟨rfl, rfl⟩
        clear HKO HVO c0 f0 d0
        go_wp2_with fail
        refine (rootPut_any t.lv _ b t k v w2 HL.out (fun x hx => hx.2) HG.out).mono ?_
        rintro e w3 ⟨b3, rfl, S3, k1, k2, k3⟩
        have hne : ∀ y, S3 y → U.heap.size ≤ y ∧ y < w3.heap.size := fun y hy => ⟨(k2 y hy).1.elim (fun h => h.1) (fun h => Nat.le_trans HU.out h), (k2 y hy).2⟩
        have HB3 : Hid (Below w.heap.size w w3) := HB1.out.trans (k3.below HB1.out.size (fun b hb h => by have := HB0.out.size; have := h.1; omega))
        have K3 := hid (K1.out.to k3 (fun h => by have := HK0.out; have := h.1; omega))
        have HL3 := hid k1
        have HS3 := hid hne
        clear k1 k2 k3 hne HL HG K1
        generalize rootT (putF t.lv t (k, v)) = rr at *
        go_wp2_with fail
        refine (isOverfull_any _ b3 rr w3 HL3.out (fun x hx => (HS3.out x hx).2) (by have := HSZ.out.1; omega)).mono ?_
        rintro e w4 ⟨he, hb⟩
        have HB4 := hid (HB3.out.trans (hb.mono HB3.out.size))
        have K4 := hid (K3.out.below hb)
        have HL4 := hid (HL3.out.kept hb)
        have HS4 : Hid (∀ y, S3 y → U.heap.size ≤ y ∧ y < w4.heap.size) := fun y hy => ⟨(HS3.out y hy).1, Nat.lt_of_lt_of_le (HS3.out y hy).2 hb.size⟩
        clear hb K3 HL3 HS3 HB3
        have c0 := K4.out.cell (j := 0) rfl
        have f0 := K4.out.free 0
        have d0 := (K4.out.set 0 (.slice none 0 0)).cell (j := 0) rfl
        by_cases hlen : 200 < rr.all.length
        · rw [decide_eq_true hlen] at he
          subst he
          have HR3 : Hid (putV ns k v = none) := by
            show _ = _
            rw [HR2.out, if_pos hlen]
          clear hlen
          go_wp2
          refine bodyPost_ret (v := .tuple #[.agg #[.slice none 0 0], .bool false]) ?_ rfl ?_
          · refine results_tree2 rfl _ _ _ rfl rfl ?_
            exact d0
          · rw [HR3.out]; exact ⟨_, rfl, TRow.nil _ _, HNO.out _ K4.out HB4.out⟩
        · rw [decide_eq_false hlen] at he
          subst he
          have HR3 : Hid (putV ns k v = some (layT rr)) := by
            show _ = _
            rw [HR2.out, if_neg hlen]
          clear d0 hlen
          go_wp2_with fail
          refine (treeFrom_any S3 b3 rr w4 HL4.out (fun x hx => (HS4.out x hx).2) (.inl HRO.out.1) (by have := HSZ.out.2.2; omega) (by have := HSZ.out.2.1; omega)).mono ?_
          rintro e w5 ⟨v5, V, rfl, ⟨hN5, hv5, hb5⟩, hb⟩
          have K5 := hid (K4.out.below hb)
          have HB5 := hid (HB4.out.trans (hb.mono HB4.out.size))
          obtain ⟨a5, n5, c5, e5, -⟩ := hN5.shape
          subst e5
          have c1 := K5.out.cell (j := 0) rfl
          have f1 := K5.out.free 0
          have d1 := (K5.out.set 0 (.slice a5 n5 c5)).cell (j := 0) rfl
          have HWU := hid HB0.out.size
          have hx1 : w.heap.size + 1 < w4.heap.size := K4.out.lt
          have HFIN : Hid (TRow w (w5.setCell ⟨w.heap.size + 1, 0, none⟩ (.slice a5 n5 c5)) (.slice a5 n5 c5) (layT rr)) := by
            refine ⟨V, hN5.to (only_set (R := fun y => y = w.heap.size + 1) rfl _) (fun y hy e => ?_) (fun i hi y hy e => ?_), fun y hy => ?_, fun i hi y hy => ?_⟩
            · have := hv5 y hy; omega
            · rcases hb5 i hi y hy with h | h
              · have := (HS4.out y h).1; have := HK0.out; omega
              · omega
            · have := hv5 y hy; have := HB4.out.size; omega
            · rcases hb5 i hi y hy with h | h
              · have := (HS4.out y h).1; have := HWU.out; omega
              · have := HB4.out.size; omega
          have HFB : Hid (Below w.heap.size w (w5.setCell ⟨w.heap.size + 1, 0, none⟩ (.slice a5 n5 c5))) := ⟨HB5.out.os, HB5.out.tape, HB5.out.output, by simp [World.setCell]; exact HB5.out.size, fun i hi => (Below.heap_setCell _ _ _ _ (show i ≠ w.heap.size + 1 by omega)).trans (HB5.out.block i hi)⟩
          clear hN5 hv5 hb5 hb
          go_wp2
          refine bodyPost_ret (v := .tuple #[.agg #[.slice a5 n5 c5], .bool true]) ?_ rfl ?_
          · refine results_tree2 rfl _ _ _ rfl rfl ?_
            exact d1
          · rw [HR3.out]; exact ⟨_, rfl, HFIN.out, HFB.out⟩
end Go.Proofs.Ytkflneeifllpgaa
/-
  'string(b)' of a slice of bytes that is read.
-/
namespace Go.Proofs.Ytkflneeifllpgaa
open Go.RowKit

/-- The string of these bytes. -/
def strOf (zs : List Int) : ByteArray := ⟨(zs.map fun z => UInt8.ofNat z.toNat).toArray⟩
theorem foldl_push (zs : List Int) : ∀ s : ByteArray, zs.foldl (fun r n => r.push (UInt8.ofNat n.toNat)) s = ⟨(s.data.toList ++ zs.map fun z => UInt8.ofNat z.toNat).toArray⟩ := by
  induction zs with
  | nil => intro s; simp
  | cons z zs ih =>
    intro s
    rw [List.foldl_cons, ih]
    simp [ByteArray.push]
theorem strOf_foldl (zs : List Int) : zs.foldl (fun r n => r.push (UInt8.ofNat n.toNat)) ByteArray.empty = strOf zs := by
  rw [foldl_push]
  simp only [strOf]
  rfl

/-- 'string(b)'. -/
theorem run_str {w : World} {a : Option Addr} {n c : Nat} {zs : List Int} (h : Rd w a n c zs) : (convert 22 9 (.slice a n c)).run Try.prog w = .ok (.string (strOf zs)) w := by
  rw [run_convert_bytes_string w _ _ _ a n c Try.underlying22 Try.underlying5 Try.underlying9]
  obtain ⟨h1, h2, h3, h30, h4, h5⟩ := h
  cases a with
  | none =>
    have hm : n = 0 := by
      rcases Nat.eq_zero_or_pos n with h | h
      · exact h
      · obtain ⟨b, off, e, _⟩ := h5 h
        cases e
    have hz : zs = [] := List.eq_nil_of_length_eq_zero (by omega)
    subst hz
    rfl
  | some x =>
    rw [run_bytesToString w x n c zs, strOf_foldl]
    have hl := run_firstCells_some (P := Try.prog) w 1 n x n c (zs.map (Value.int .u8)) (by simp [h1]) (by
        intro j u hu
        have hj : j < zs.length := by
          have := (List.getElem?_eq_some_iff.1 hu).1
          simpa using this
        obtain ⟨b, off, e, _, hc⟩ := h5 (by omega)
        cases e
        have := hc j (by omega)
        rw [Addr.add_lit, this]
        simp [hj] at hu
        simp [hj, hu])
    simpa [Builtin.firstCells] using hl
end Go.Proofs.Ytkflneeifllpgaa
/-
  What the law's helper markText does: it answers with one text for each number (for trees: greater numbers).
-/
namespace Go.Proofs.Ytkflneeifllpgaa
open Go.RowKit
theorem strOf_size (o : List Int) : (strOf o).size = o.length := by
  show (strOf o).data.size = o.length
  simp [strOf]
theorem rd_lit (w : World) (z : Int) (h0 : 0 ≤ z) (h1 : z ≤ 255) : Rd (w.alloc (.cells #[.int .u8 z] 5)) (some ⟨w.heap.size, 0, none⟩) 1 1 [z] := by
  have := rd_new w [z] (by simp) (fun i => by cases i <;> simp <;> omega)
  simpa [byteVals] using this
/-- The decimal digits of k ahead of acc. -/
def mtG : Nat → Nat → ByteArray → ByteArray
  | 0, _, acc => acc
  | f + 1, k, acc => if k = 0 then acc else mtG f (k / 10) (strOf [48 + ((k % 10 : Nat) : Int)] ++ acc)
theorem mtG_end (f : Nat) (acc : ByteArray) : mtG f 0 acc = acc := by cases f <;> simp [mtG]
theorem mtG_step (f k : Nat) (acc : ByteArray) (h : 0 < k) : mtG (f + 1) k acc = mtG f (k / 10) (strOf [48 + ((k % 10 : Nat) : Int)] ++ acc) := by
  simp [mtG]; omega
/-- The text for k. -/
def mt (k : Nat) : ByteArray := ⟨#[109]⟩ ++ mtG k k ⟨#[]⟩
set_option maxHeartbeats 4000000 in
theorem markText_any (k : Nat) (w : World) (h0 : 0 < k) (h1 : k ≤ 1152921504606846976) : Calls Try.prog 135 #[.int .i64 k] w fun e w' => e = .returned (.string (mt k)) ∧ Below w.heap.size w w' := by
  have h0' : ¬ (k : Int) ≤ 0 := by omega
  go_enter Try.func135, Try.ntmps135
  go_wp2_with fail
  go_loopw [0, 3] (fun x s wr => ∃ (j f : Nat) (acc : ByteArray), x = .int .i64 j ∧ s = .string acc ∧ j ≤ f ∧ Hid (mtG f j acc = mtG k k ⟨#[]⟩) ∧ j + acc.size ≤ k ∧ Hid (Below w.heap.size w wr)) (fun x _ _ => (intOf x).toNat)
  case atStart => exact ⟨k, k, ⟨#[]⟩, rfl, rfl, Nat.le_refl _, rfl, Nat.le_refl _, Below.refl _ _⟩
  case round =>
    obtain ⟨j, f, acc, rfl, rfl, hjf, HM, hsz, HB⟩ := hrel
    rcases Nat.eq_zero_or_pos j with rfl | hj
    · rw [mtG_end] at HM
      have hcat : (⟨#[109]⟩ : ByteArray).size = 1 := rfl
      have HE : Hid (⟨#[109]⟩ ++ acc = mt k) := by show ⟨#[109]⟩ ++ acc = mt k; rw [HM.out]; rfl
      go_wp2
      go_ret
      exact ⟨by rw [HE.out]; rfl, HB.out⟩
    · obtain ⟨f, rfl⟩ : ∃ g, f = g + 1 := ⟨f - 1, by omega⟩
      rw [mtG_step f j acc hj] at HM
      have hj' : (0 : Int) < (j : Int) := by omega
      obtain ⟨z, hz⟩ : ∃ z : Nat, z = j % 10 := ⟨_, rfl⟩
      obtain ⟨q, hq⟩ : ∃ q : Nat, q = j / 10 := ⟨_, rfl⟩
      rw [← hz, ← hq] at HM
      have hz1 : z < 10 := by omega
      have hmod : (j : Int).tmod 10 = (z : Int) := by rw [Int.tmod_eq_emod_of_nonneg (by omega)]; omega
      have hdiv : (j : Int).tdiv 10 = (q : Int) := by rw [Int.tdiv_eq_ediv_of_nonneg (by omega)]; omega
      have hqj : q < j := by omega
      have hq2 : q + 1 ≤ j := by omega
      clear hz hq
      have hst := run_str (rd_lit wr (48 + (z : Int)) (by omega) (by omega))
      have hts := strOf_size [48 + (z : Int)]
      simp only [List.length_cons, List.length_nil] at hts
      generalize strOf [48 + (z : Int)] = t at *
      go_wp2
      go_roundw
      case rel => exact ⟨q, f, t ++ acc, by go_num, rfl, by omega, HM, by rw [ByteArray.size_append]; omega, HB.out.alloc HB.out.size _⟩
      case measure => simp [intOf]; omega
theorem markText_at (k : Nat) (z : Int) (hz : z = k) (w : World) (h0 : 0 < k) (h1 : k ≤ 1152921504606846976) : Calls Try.prog 135 #[.int .i64 z] w fun e w' => e = .returned (.string (mt k)) ∧ Below w.heap.size w w' := by
  subst hz
  exact markText_any k w h0 h1
end Go.Proofs.Ytkflneeifllpgaa
/-
  Writing marks into slices: texts into cells of texts, numbers into cells of numbers; nothing else turns.
-/
namespace Go.Proofs.Ytkflneeifllpgaa
open Go.RowKit
set_option linter.unusedVariables false
def isStr (u : Value) : Prop := ∃ s, u = .string s
def isInt (u : Value) : Prop := ∃ i, u = .int .i64 i
/-- The cell is the same, or both are texts, or both are numbers. -/
def simV (x y : Value) : Prop := x = y ∨ (isStr x ∧ isStr y) ∨ (isInt x ∧ isInt y)
theorem simV.trans {x y z : Value} (h : simV x y) (k : simV y z) : simV x z := by
  rcases h with rfl | ⟨h1, h2⟩ | ⟨h1, h2⟩
  · exact k
  · rcases k with rfl | ⟨k1, k2⟩ | ⟨k1, k2⟩
    · exact .inr (.inl ⟨h1, h2⟩)
    · exact .inr (.inl ⟨h1, k2⟩)
    · obtain ⟨s, rfl⟩ := h2; obtain ⟨i, hi⟩ := k1; cases hi
  · rcases k with rfl | ⟨k1, k2⟩ | ⟨k1, k2⟩
    · exact .inr (.inr ⟨h1, h2⟩)
    · obtain ⟨s, rfl⟩ := h2; obtain ⟨i, hi⟩ := k1; cases hi
    · exact .inr (.inr ⟨h1, k2⟩)
def Kind (K : Value → Prop) : Prop := ∀ x y, K x → simV x y → K y
theorem kind_str : Kind isStr := by
  rintro x y hx (rfl | ⟨_, h⟩ | ⟨h, _⟩)
  · exact hx
  · exact h
  · obtain ⟨s, rfl⟩ := hx; obtain ⟨i, hi⟩ := h; cases hi
theorem kind_int : Kind isInt := by
  rintro x y hx (rfl | ⟨h, _⟩ | ⟨_, h⟩)
  · exact hx
  · obtain ⟨s, rfl⟩ := hx; obtain ⟨i, hi⟩ := h; cases hi
  · exact h
theorem kind_slice (v : Value) (hv : ∃ a n c, v = .slice a n c) : Kind (fun u => u = v) := by
  obtain ⟨a, n, c, rfl⟩ := hv
  rintro x y rfl (rfl | ⟨h, _⟩ | ⟨h, _⟩)
  · rfl
  · obtain ⟨s, hs⟩ := h; cases hs
  · obtain ⟨s, hs⟩ := h; cases hs
/-- From w to w' only rows of S have turned, and of these each cell keeps its kind. -/
structure Mk (S : Nat → Prop) (w w' : World) : Prop where
  only : Only S w w'
  sim : ∀ b T xs, Bk w b T xs → S b → ∃ ys, Bk w' b T ys ∧ ∀ (j : Nat) u, xs[j]? = some u → ∃ u', ys[j]? = some u' ∧ simV u u'
theorem Mk.refl (S : Nat → Prop) (w : World) : Mk S w w := ⟨Only.refl _ _, fun b T xs h _ => ⟨xs, h, fun j u hu => ⟨u, hu, .inl rfl⟩⟩⟩
theorem Mk.trans {S : Nat → Prop} {a b c : World} (h : Mk S a b) (k : Mk S b c) : Mk S a c := by
  refine ⟨h.only.trans k.only, fun g T xs hb hS => ?_⟩
  obtain ⟨ys, h1, h2⟩ := h.sim g T xs hb hS
  obtain ⟨zs, h3, h4⟩ := k.sim g T ys h1 hS
  refine ⟨zs, h3, fun j u hu => ?_⟩
  obtain ⟨u', h5, h6⟩ := h2 j u hu
  obtain ⟨u'', h7, h8⟩ := h4 j u' h5
  exact ⟨u'', h7, h6.trans h8⟩
theorem mk_below {S : Nat → Prop} {w w' : World} (h : Below w.heap.size w w') : Mk S w w' := ⟨only_of_below h S, fun b T xs hb _ => ⟨xs, hb.below h, fun j u hu => ⟨u, hu, .inl rfl⟩⟩⟩
theorem mk_set {S : Nat → Prop} {w : World} {b o : Nat} {T : TypeId} {xs : List Value} {x y : Value} (hb : Bk w b T xs) (hS : S b) (hx : xs[o]? = some x) (hs : simV x y) : Mk S w (w.setCell ⟨b, o, none⟩ y) := by
  refine ⟨only_set hS y, fun g T' zs hg _ => ?_⟩
  by_cases e : g = b
  · subst e
    refine ⟨_, hg.set o y, fun j u hu => ?_⟩
    have hz : some (Obj.cells xs.toArray T (0, 0)) = some (Obj.cells zs.toArray T' (0, 0)) := hb.symm.trans hg
    simp at hz
    obtain ⟨rfl, rfl⟩ := hz
    by_cases ej : j = o
    · subst ej
      rw [hx] at hu
      cases hu
      exact ⟨y, by simp [(List.getElem?_eq_some_iff.1 hx).1], hs⟩
    · exact ⟨u, by rw [List.getElem?_set_ne (Ne.symm ej)]; exact hu, .inl rfl⟩
  · exact ⟨zs, hg.setOther e _ _, fun j u hu => ⟨u, hu, .inl rfl⟩⟩
theorem Uf.bk {w : World} {b : Nat} (h : Uf w b) : ∃ T xs, Bk w b T xs := by
  obtain ⟨xs, T, h⟩ := h
  exact ⟨T, xs.toList, by show _ = _; simpa using h⟩
theorem Mk.uf {S : Nat → Prop} {w w' : World} (m : Mk S w w') {b : Nat} (h : Uf w b) : Uf w' b := by
  obtain ⟨T, xs, hb⟩ := h.bk
  by_cases hS : S b
  · obtain ⟨ys, h1, _⟩ := m.sim b T xs hb hS
    exact h1.uf
  · exact (hb.to m.only hS).uf
theorem bk_cell {w : World} {b o : Nat} {T : TypeId} {xs : List Value} {u : Value} (h : Bk w b T xs) (hc : w.cell? ⟨b, o, none⟩ = some u) : xs[o]? = some u := by
  have h' : w.heap[b]? = some (.cells xs.toArray T (0, 0)) := h
  simpa [World.cell?, h'] using hc
theorem Mk.cell {S : Nat → Prop} {w w' : World} (m : Mk S w w') {b o : Nat} {u : Value} (hu : Uf w b) (hc : w.cell? ⟨b, o, none⟩ = some u) : ∃ u', w'.cell? ⟨b, o, none⟩ = some u' ∧ simV u u' := by
  obtain ⟨T, xs, hb⟩ := hu.bk
  have hx := bk_cell hb hc
  by_cases hS : S b
  · obtain ⟨ys, h1, h2⟩ := m.sim b T xs hb hS
    obtain ⟨u', h3, h4⟩ := h2 o u hx
    exact ⟨u', h1.cell h3, h4⟩
  · exact ⟨u, (hb.to m.only hS).cell hx, .inl rfl⟩
/-- The slice value v leads to n elements of m cells of the kind K, in a row of S that may be written. -/
def Kw (w : World) (S : Nat → Prop) (v : Value) (n m : Nat) (K : Value → Prop) : Prop :=
  ∃ a c, v = .slice a n c ∧ n ≤ c ∧ c ≤ 9223372036854775807 ∧ (0 < n → ∃ b off, a = some ⟨b, off, none⟩ ∧ S b ∧ Uf w b ∧ ∀ j, j < m → ∃ u, w.cell? ⟨b, off + j, none⟩ = some u ∧ K u)
theorem Kw.mk {S S' : Nat → Prop} {w w' : World} {v : Value} {n m : Nat} {K : Value → Prop} (h : Kw w S v n m K) (hm : Mk S' w w') (hK : Kind K) : Kw w' S v n m K := by
  obtain ⟨a, c, h1, h2, h3, h4⟩ := h
  refine ⟨a, c, h1, h2, h3, fun hn => ?_⟩
  obtain ⟨b, off, h5, h6, h7, h8⟩ := h4 hn
  refine ⟨b, off, h5, h6, hm.uf h7, fun j hj => ?_⟩
  obtain ⟨u, h9, h10⟩ := h8 j hj
  obtain ⟨u', h11, h12⟩ := hm.cell h7 h9
  exact ⟨u', h11, hK _ _ h10 h12⟩
theorem kw_of {w : World} {S S' : Nat → Prop} {v : Value} {n : Nat} {xs : List Value} {K : Value → Prop} (h : Rw w S v n xs) (hx : ∀ u ∈ xs, K u) (hS : ∀ b, S b → b < w.heap.size → S' b ∧ Uf w b) : Kw w S' v n xs.length K := by
  obtain ⟨a, c, h1, h2, h3, h4, hn, h5⟩ := h
  refine ⟨a, c, h1, h2, h3, fun hp => ?_⟩
  obtain ⟨b, off, h6, h7, h8, h9⟩ := h5 hp
  refine ⟨b, off, h6, (hS b h8 h7).1, (hS b h8 h7).2, fun j hj => ?_⟩
  exact ⟨xs[j], h9 j _ (by simp [hj]), hx _ (by simp)⟩
/-- Of the m cells from off on the first i are V's. -/
def Mi (w : World) (b off m i : Nat) (V : Nat → Value) (K : Value → Prop) : Prop := ∃ T xs, Bk w b T xs ∧ (∀ j, j < m → ∃ u, xs[off + j]? = some u ∧ K u) ∧ ∀ j, j < i → xs[off + j]? = some (V j)
theorem Mi.start {w : World} {b off m : Nat} {V : Nat → Value} {K : Value → Prop} (hu : Uf w b) (h : ∀ j, j < m → ∃ u, w.cell? ⟨b, off + j, none⟩ = some u ∧ K u) : Mi w b off m 0 V K := by
  obtain ⟨T, xs, hb⟩ := hu.bk
  refine ⟨T, xs, hb, fun j hj => ?_, fun j hj => absurd hj (Nat.not_lt_zero _)⟩
  obtain ⟨u, h1, h2⟩ := h j hj
  exact ⟨u, bk_cell hb h1, h2⟩
theorem Mi.below {w w' : World} {b off m i : Nat} {V : Nat → Value} {K : Value → Prop} (h : Mi w b off m i V K) (hb : Below w.heap.size w w') : Mi w' b off m i V K := by
  obtain ⟨T, xs, h1, h2, h3⟩ := h
  exact ⟨T, xs, h1.below hb, h2, h3⟩
theorem Mi.cell {w : World} {b off m i : Nat} {V : Nat → Value} {K : Value → Prop} (h : Mi w b off m i V K) {j : Nat} (hj : j < m) : (∃ u, w.cell? ⟨b, off + j, none⟩ = some u ∧ K u) ∧ w.frozen? ⟨b, off + j, none⟩ = false := by
  obtain ⟨T, xs, h1, h2, h3⟩ := h
  obtain ⟨u, h4, h5⟩ := h2 j hj
  exact ⟨⟨u, h1.cell h4, h5⟩, h1.free _⟩
theorem Mi.set {w : World} {b off m i : Nat} {V : Nat → Value} {K : Value → Prop} (h : Mi w b off m i V K) {o : Nat} (ho : o = off + i) (hi : i < m) (hK : K (V i)) : Mi (w.setCell ⟨b, o, none⟩ (V i)) b off m (i + 1) V K := by
  subst ho
  obtain ⟨T, xs, h1, h2, h3⟩ := h
  refine ⟨T, _, h1.set _ _, fun j hj => ?_, fun j hj => ?_⟩
  · obtain ⟨u, h4, h5⟩ := h2 j hj
    by_cases e : j = i
    · subst e
      exact ⟨V j, by simp [(List.getElem?_eq_some_iff.1 h4).1], hK⟩
    · exact ⟨u, by rw [List.getElem?_set_ne (by omega)]; exact h4, h5⟩
  · by_cases e : j = i
    · subst e
      obtain ⟨u, h4, _⟩ := h2 j hi
      simp [(List.getElem?_eq_some_iff.1 h4).1]
    · rw [List.getElem?_set_ne (by omega)]
      exact h3 j (by omega)
end Go.Proofs.Ytkflneeifllpgaa
/-
  The law's helpers that write marks into slices: of pairs, of texts, of numbers.
-/
namespace Go.Proofs.Ytkflneeifllpgaa
open Go.RowKit
def mV (k : Nat) (j : Nat) : Value := .string (mt (k + j))
def mI (k : Nat) (j : Nat) : Value := .int .i64 ((k + j : Nat) : Int)
theorem mi_mk {S : Nat → Prop} {w : World} {b off m i : Nat} {V : Nat → Value} {K : Value → Prop} (h : Mi w b off m i V K) (hS : S b) {o : Nat} (ho : o = off + i) (hi : i < m) (hs : ∀ u, K u → simV u (V i)) : Mk S w (w.setCell ⟨b, o, none⟩ (V i)) := by
  subst ho
  obtain ⟨T, xs, h1, h2, h3⟩ := h
  obtain ⟨u, h4, h5⟩ := h2 i hi
  exact mk_set h1 hS h4 (hs u h5)
theorem sim_mV (k i : Nat) : ∀ u, isStr u → simV u (mV k i) := fun _ hu => .inr (.inl ⟨hu, _, rfl⟩)
theorem sim_mI (k i : Nat) : ∀ u, isInt u → simV u (mI k i) := fun _ hu => .inr (.inr ⟨hu, _, rfl⟩)
/-- What comes of writing marks into the m cells of a slice. -/
def Marked (S : Nat → Prop) (w : World) (a : Option Addr) (n m : Nat) (V : Nat → Value) (K : Value → Prop) (w' : World) : Prop := Mk S w w' ∧ (0 < n → ∃ b off, a = some ⟨b, off, none⟩ ∧ S b ∧ Mi w' b off m m V K)
set_option maxHeartbeats 4000000 in
theorem markPairS_any (S : Nat → Prop) (a : Option Addr) (n c k : Nat) (w : World) (h : Kw w S (.slice a n c) n (n * 2) isStr) (hn : n ≤ 1048576) (hk0 : 0 < k) (hk : k ≤ 576460752303423488) :
    Calls Try.prog 93 #[.slice a n c, .int .i64 k] w fun e w' => e = .returned (.int .i64 ((k + n * 2 : Nat) : Int)) ∧ Marked S w a n (n * 2) (mV k) isStr w' := by
  obtain ⟨a', c', h1, h2, h3, h4⟩ := h
  cases h1
  rcases Nat.eq_zero_or_pos n with hz | hp
  · clear h4
    subst hz
    go_enter Try.func93, Try.ntmps93
    go_wp2_with fail
    go_loop [1, 5] (fun x i => x = .int .i64 k ∧ i = .int .i64 (0 : Nat)) (fun _ _ => 0)
    case atStart => exact ⟨rfl, rfl⟩
    case round =>
      obtain ⟨rfl, rfl⟩ := hrel
      go_wp2
      go_ret
      exact ⟨rfl, Mk.refl _ _, fun h => absurd h (Nat.lt_irrefl _)⟩
  · obtain ⟨b, off, rfl, hS, hu, hc⟩ := h4 hp
    have HI : Hid (Mi w b off (n * 2) 0 (mV k) isStr) := Mi.start hu hc
    have HS := hid hS
    clear h4 hc hu hS
    go_enter Try.func93, Try.ntmps93
    go_wp2_with fail
    go_loopw [1, 5] (fun x i wr => ∃ j : Nat, x = .int .i64 ((k + j * 2 : Nat) : Int) ∧ i = .int .i64 j ∧ j ≤ n ∧ Hid (Mi wr b off (n * 2) (j * 2) (mV k) isStr) ∧ Hid (Mk S w wr)) (fun _ i _ => n - (intOf i).toNat)
    case atStart => exact ⟨0, rfl, rfl, Nat.zero_le _, HI.out, Mk.refl _ _⟩
    case round =>
      obtain ⟨j, rfl, rfl, hj, HX, HG⟩ := hrel
      by_cases hlt : j < n
      · have hlt' : (j : Int) < (n : Int) := by omega
        have hj0 : (0 : Int) ≤ (j : Int) := by omega
        generalize hkz : k + j * 2 = kz
        have hkz0 : 0 < kz := by omega
        have hkz1 : kz ≤ 576460754400575488 := by omega
        have HK := hid hkz
        clear hkz
        go_wp2_with fail
        refine (markText_at kz (kz : Int) rfl wr hkz0 (by omega)).mono ?_
        rintro e w1 ⟨rfl, hb1⟩
        have HX1 := hid (HX.out.below hb1)
        have HG1 := hid (HG.out.trans (mk_below hb1))
        clear hb1 HX HG
        obtain ⟨⟨u0, c0, s0⟩, f0⟩ := HX1.out.cell (j := j * 2) (by omega)
        obtain ⟨u0, rfl⟩ := s0
        have HX2 : Hid (Mi (w1.setCell ⟨b, off + j * 2, none⟩ (.string (mt kz))) b off (n * 2) (j * 2 + 1) (mV k) isStr) := by rw [← HK.out]; exact HX1.out.set rfl (by omega) ⟨_, rfl⟩
        have HG2 : Hid (Mk S w (w1.setCell ⟨b, off + j * 2, none⟩ (.string (mt kz)))) := by rw [← HK.out]; exact HG1.out.trans (mi_mk HX1.out HS.out rfl (by omega) (sim_mV k (j * 2)))
        clear HX1 HG1
        generalize mt kz = m0 at *
        go_wp2_with fail
        refine (markText_at (kz + 1) ((kz : Int) + 1) (by omega) _ (by omega) (by omega)).mono ?_
        generalize w1.setCell ⟨b, off + j * 2, none⟩ (.string m0) = w2 at *
        rintro e w3 ⟨rfl, hb1⟩
        have HX3 := hid (HX2.out.below hb1)
        have HG3 := hid (HG2.out.trans (mk_below hb1))
        clear hb1 HX2 HG2 c0 f0
        obtain ⟨⟨u1, c1, s1⟩, f1⟩ := HX3.out.cell (j := j * 2 + 1) (by omega)
        obtain ⟨u1, rfl⟩ := s1
        have HX4 : Hid (Mi (w3.setCell ⟨b, off + j * 2 + 1, none⟩ (.string (mt (kz + 1)))) b off (n * 2) (j * 2 + 2) (mV k) isStr) := by
          rw [← HK.out, show k + j * 2 + 1 = k + (j * 2 + 1) by omega]; exact HX3.out.set (by omega) (by omega) ⟨_, rfl⟩
        have HG4 : Hid (Mk S w (w3.setCell ⟨b, off + j * 2 + 1, none⟩ (.string (mt (kz + 1))))) := by
          rw [← HK.out, show k + j * 2 + 1 = k + (j * 2 + 1) by omega]; exact HG3.out.trans (mi_mk HX3.out HS.out (by omega) (by omega) (sim_mV k (j * 2 + 1)))
        clear HX3 HG3
        rw [← Nat.add_assoc] at c1 f1
        generalize mt (kz + 1) = m1 at *
        go_wp2
        go_roundw
        case rel => exact ⟨j + 1, by rw [show k + (j + 1) * 2 = kz + 2 by have := HK.out; omega]; go_num, by go_num, by omega, by rw [show (j + 1) * 2 = j * 2 + 2 by omega]; exact HX4.out, HG4.out⟩
        case measure => simp [intOf]; omega
      · have hlt' : ¬ (j : Int) < (n : Int) := by omega
        have hjn : j = n := by omega
        subst hjn
        generalize hkz : k + j * 2 = kz
        go_wp2
        go_ret
        exact ⟨rfl, HG.out, fun _ => ⟨b, off, rfl, HS.out, HX.out⟩⟩
set_option maxHeartbeats 4000000 in
theorem markStringS_any (S : Nat → Prop) (a : Option Addr) (n c k : Nat) (w : World) (h : Kw w S (.slice a n c) n n isStr) (hn : n ≤ 1048576) (hk0 : 0 < k) (hk : k ≤ 576460752303423488) :
    Calls Try.prog 94 #[.slice a n c, .int .i64 k] w fun e w' => e = .returned (.int .i64 ((k + n : Nat) : Int)) ∧ Marked S w a n n (mV k) isStr w' := by
  obtain ⟨a', c', h1, h2, h3, h4⟩ := h
  cases h1
  rcases Nat.eq_zero_or_pos n with hz | hp
  · clear h4
    subst hz
    go_enter Try.func94, Try.ntmps94
    go_wp2_with fail
    go_loop [1, 5] (fun x i => x = .int .i64 k ∧ i = .int .i64 (0 : Nat)) (fun _ _ => 0)
    case atStart => exact ⟨rfl, rfl⟩
    case round =>
      obtain ⟨rfl, rfl⟩ := hrel
      go_wp2
      go_ret
      exact ⟨rfl, Mk.refl _ _, fun h => absurd h (Nat.lt_irrefl _)⟩
  · obtain ⟨b, off, rfl, hS, hu, hc⟩ := h4 hp
    have HI : Hid (Mi w b off n 0 (mV k) isStr) := Mi.start hu hc
    have HS := hid hS
    clear h4 hc hu hS
    go_enter Try.func94, Try.ntmps94
    go_wp2_with fail
    go_loopw [1, 5] (fun x i wr => ∃ j : Nat, x = .int .i64 ((k + j : Nat) : Int) ∧ i = .int .i64 j ∧ j ≤ n ∧ Hid (Mi wr b off n j (mV k) isStr) ∧ Hid (Mk S w wr)) (fun _ i _ => n - (intOf i).toNat)
    case atStart => exact ⟨0, rfl, rfl, Nat.zero_le _, HI.out, Mk.refl _ _⟩
    case round =>
      obtain ⟨j, rfl, rfl, hj, HX, HG⟩ := hrel
      by_cases hlt : j < n
      · have hlt' : (j : Int) < (n : Int) := by omega
        have hj0 : (0 : Int) ≤ (j : Int) := by omega
        generalize hkz : k + j = kz
        have hkz0 : 0 < kz := by omega
        have hkz1 : kz ≤ 576460754400575488 := by omega
        have HK := hid hkz
        clear hkz
        go_wp2_with fail
        refine (markText_at kz (kz : Int) rfl wr hkz0 (by omega)).mono ?_
        rintro e w1 ⟨rfl, hb1⟩
        have HX1 := hid (HX.out.below hb1)
        have HG1 := hid (HG.out.trans (mk_below hb1))
        clear hb1 HX HG
        obtain ⟨⟨u0, c0, s0⟩, f0⟩ := HX1.out.cell hlt
        obtain ⟨u0, rfl⟩ := s0
        have HX2 : Hid (Mi (w1.setCell ⟨b, off + j, none⟩ (.string (mt kz))) b off n (j + 1) (mV k) isStr) := by rw [← HK.out]; exact HX1.out.set rfl hlt ⟨_, rfl⟩
        have HG2 : Hid (Mk S w (w1.setCell ⟨b, off + j, none⟩ (.string (mt kz)))) := by rw [← HK.out]; exact HG1.out.trans (mi_mk HX1.out HS.out rfl hlt (sim_mV k j))
        clear HX1 HG1
        generalize mt kz = m0 at *
        go_wp2
        go_roundw
        case rel => exact ⟨j + 1, by rw [show k + (j + 1) = kz + 1 by have := HK.out; omega]; go_num, by go_num, by omega, HX2.out, HG2.out⟩
        case measure => simp [intOf]; omega
      · have hlt' : ¬ (j : Int) < (n : Int) := by omega
        have hjn : j = n := by omega
        subst hjn
        generalize hkz : k + j = kz
        go_wp2
        go_ret
        exact ⟨rfl, HG.out, fun _ => ⟨b, off, rfl, HS.out, HX.out⟩⟩
set_option maxHeartbeats 4000000 in
theorem markIntS_any (S : Nat → Prop) (a : Option Addr) (n c k : Nat) (w : World) (h : Kw w S (.slice a n c) n n isInt) (hn : n ≤ 1048576) (hk0 : 0 < k) (hk : k ≤ 576460752303423488) :
    Calls Try.prog 95 #[.slice a n c, .int .i64 k] w fun e w' => e = .returned (.int .i64 ((k + n : Nat) : Int)) ∧ Marked S w a n n (mI k) isInt w' := by
  obtain ⟨a', c', h1, h2, h3, h4⟩ := h
  cases h1
  rcases Nat.eq_zero_or_pos n with hz | hp
  · clear h4
    subst hz
    go_enter Try.func95, Try.ntmps95
    go_wp2_with fail
    go_loop [1, 5] (fun x i => x = .int .i64 k ∧ i = .int .i64 (0 : Nat)) (fun _ _ => 0)
    case atStart => exact ⟨rfl, rfl⟩
    case round =>
      obtain ⟨rfl, rfl⟩ := hrel
      go_wp2
      go_ret
      exact ⟨rfl, Mk.refl _ _, fun h => absurd h (Nat.lt_irrefl _)⟩
  · obtain ⟨b, off, rfl, hS, hu, hc⟩ := h4 hp
    have HI : Hid (Mi w b off n 0 (mI k) isInt) := Mi.start hu hc
    have HS := hid hS
    clear h4 hc hu hS
    go_enter Try.func95, Try.ntmps95
    go_wp2_with fail
    go_loopw [1, 5] (fun x i wr => ∃ j : Nat, x = .int .i64 ((k + j : Nat) : Int) ∧ i = .int .i64 j ∧ j ≤ n ∧ Hid (Mi wr b off n j (mI k) isInt) ∧ Hid (Mk S w wr)) (fun _ i _ => n - (intOf i).toNat)
    case atStart => exact ⟨0, rfl, rfl, Nat.zero_le _, HI.out, Mk.refl _ _⟩
    case round =>
      obtain ⟨j, rfl, rfl, hj, HX, HG⟩ := hrel
      by_cases hlt : j < n
      · have hlt' : (j : Int) < (n : Int) := by omega
        have hj0 : (0 : Int) ≤ (j : Int) := by omega
        generalize hkz : k + j = kz
        have hkz0 : 0 < kz := by omega
        have hkz1 : kz ≤ 576460754400575488 := by omega
        have HK := hid hkz
        clear hkz
        obtain ⟨⟨u0, c0, s0⟩, f0⟩ := HX.out.cell hlt
        obtain ⟨u0, rfl⟩ := s0
        have HX2 : Hid (Mi (wr.setCell ⟨b, off + j, none⟩ (.int .i64 kz)) b off n (j + 1) (mI k) isInt) := by rw [← HK.out]; exact HX.out.set rfl hlt ⟨_, rfl⟩
        have HG2 : Hid (Mk S w (wr.setCell ⟨b, off + j, none⟩ (.int .i64 kz))) := by rw [← HK.out]; exact HG.out.trans (mi_mk HX.out HS.out rfl hlt (sim_mI k j))
        clear HX HG
        go_wp2
        go_roundw
        case rel => exact ⟨j + 1, by rw [show k + (j + 1) = kz + 1 by have := HK.out; omega]; go_num, by go_num, by omega, HX2.out, HG2.out⟩
        case measure => simp [intOf]; omega
      · have hlt' : ¬ (j : Int) < (n : Int) := by omega
        have hjn : j = n := by omega
        subst hjn
        generalize hkz : k + j = kz
        go_wp2
        go_ret
        exact ⟨rfl, HG.out, fun _ => ⟨b, off, rfl, HS.out, HX.out⟩⟩
end Go.Proofs.Ytkflneeifllpgaa
/-
  The law's helpers that write marks into a tree: nothing but its own rows turns.
-/
namespace Go.Proofs.Ytkflneeifllpgaa
open Go.RowKit
set_option linter.unusedVariables false
/-- The slice value v leads to n nodes whose cells are V's and stay; the rows behind them may be written. -/
def Nk (w : World) (S : Nat → Prop) (v : Value) (n : Nat) (V : Nat → V3) : Prop :=
  (∀ i, i < n → ∃ np nx ni, np ≤ 1048576 ∧ nx ≤ 1048576 ∧ ni ≤ 1048576 ∧ Kw w S (V i).1 np (np * 2) isStr ∧ Kw w S (V i).2.1 nx nx isStr ∧ Kw w S (V i).2.2 ni ni isInt) ∧
    ∃ a c, v = .slice a n c ∧ n ≤ c ∧ c ≤ 9223372036854775807 ∧ (0 < n → ∃ b off, a = some ⟨b, off, none⟩ ∧ Uf w b ∧ ∀ i, i < n → w.cell? ⟨b, off + i * 3, none⟩ = some (V i).1 ∧ w.cell? ⟨b, off + i * 3 + 1, none⟩ = some (V i).2.1 ∧ w.cell? ⟨b, off + i * 3 + 2, none⟩ = some (V i).2.2)
theorem Kw.slice {w : World} {S : Nat → Prop} {v : Value} {n m : Nat} {K : Value → Prop} (h : Kw w S v n m K) : ∃ a n c, v = .slice a n c := by
  obtain ⟨a, c, h, _⟩ := h
  exact ⟨a, n, c, h⟩
theorem Mk.slice {S : Nat → Prop} {w w' : World} (hm : Mk S w w') {b o n c : Nat} {a : Option Addr} (hu : Uf w b) (hc : w.cell? ⟨b, o, none⟩ = some (.slice a n c)) : w'.cell? ⟨b, o, none⟩ = some (.slice a n c) := by
  obtain ⟨u, d, e⟩ := hm.cell hu hc
  rw [d, kind_slice _ ⟨a, n, c, rfl⟩ _ _ rfl e]
theorem pcs_str (ps : List PB) : ∀ u ∈ pcs ps, isStr u := by
  induction ps with
  | nil => intro u hu; cases hu
  | cons p ps ih =>
    intro u hu
    simp only [pcs, List.mem_cons] at hu
    rcases hu with rfl | rfl | hu
    · exact ⟨_, rfl⟩
    · exact ⟨_, rfl⟩
    · exact ih u hu
theorem Nk.mk {S S' : Nat → Prop} {w w' : World} {v : Value} {n : Nat} {V : Nat → V3} (h : Nk w S v n V) (hm : Mk S' w w') : Nk w' S v n V := by
  obtain ⟨h0, a, c, h1, h2, h3, h4⟩ := h
  refine ⟨fun i hi => ?_, a, c, h1, h2, h3, fun hn => ?_⟩
  · obtain ⟨np, nx, ni, b1, b2, b3, k1, k2, k3⟩ := h0 i hi
    exact ⟨np, nx, ni, b1, b2, b3, k1.mk hm kind_str, k2.mk hm kind_str, k3.mk hm kind_int⟩
  · obtain ⟨b, off, h5, h7, h8⟩ := h4 hn
    refine ⟨b, off, h5, hm.uf h7, fun i hi => ?_⟩
    obtain ⟨np, nx, ni, b1, b2, b3, k1, k2, k3⟩ := h0 i hi
    obtain ⟨c0, c1, c2⟩ := h8 i hi
    obtain ⟨u0, d0, e0⟩ := hm.cell h7 c0
    obtain ⟨u1, d1, e1⟩ := hm.cell h7 c1
    obtain ⟨u2, d2, e2⟩ := hm.cell h7 c2
    rw [d0, d1, d2, kind_slice _ k1.slice _ _ rfl e0, kind_slice _ k2.slice _ _ rfl e1, kind_slice _ k3.slice _ _ rfl e2]
    exact ⟨rfl, rfl, rfl⟩
theorem Nk.below {S : Nat → Prop} {w w' : World} {v : Value} {n : Nat} {V : Nat → V3} (h : Nk w S v n V) (hb : Below w.heap.size w w') : Nk w' S v n V := h.mk (mk_below (S := fun _ => False) hb)
theorem nk_of {w : World} {S S' : Nat → Prop} {v : Value} {ns : List NB} (h : Nr w S v ns) (hs : smallN ns) (hS : ∀ b, S b → b < w.heap.size → S' b ∧ Uf w b) : ∃ V, Nk w S' v ns.length V := by
  obtain ⟨V, h1, h2, h3⟩ := h
  refine ⟨vAt V, fun i hi => ?_, ?_⟩
  · obtain ⟨k1, k2, k3⟩ := h3 i hi
    have hb := hs i hi
    refine ⟨_, _, _, hb.1, hb.2.1, hb.2.2, ?_, ?_, ?_⟩
    · have := kw_of (K := isStr) k1 (fun u hu => pcs_str _ u hu) hS
      rwa [pcs_length] at this
    · have := kw_of (K := isStr) k2 (fun u hu => by simp at hu; obtain ⟨s, _, rfl⟩ := hu; exact ⟨s, rfl⟩) hS
      rwa [List.length_map] at this
    · have := kw_of (K := isInt) k3 (fun u hu => by simp at hu; obtain ⟨s, _, rfl⟩ := hu; exact ⟨s, rfl⟩) hS
      rwa [List.length_map] at this
  · obtain ⟨a, c, e1, e2, e3, e4, en, e5⟩ := h2
    refine ⟨a, c, e1, e2, e3, fun hp => ?_⟩
    obtain ⟨b, off, e6, e7, e8, e9⟩ := e5 hp
    refine ⟨b, off, e6, (hS b e8 e7).2, fun i hi => ?_⟩
    obtain ⟨c0, c1, c2⟩ := ncs_at V i (by omega)
    exact ⟨e9 _ _ c0, e9 _ _ c1, e9 _ _ c2⟩
def NkPost (S : Nat → Prop) (w : World) (k n : Nat) (e : Ending) (w' : World) : Prop := ∃ k' : Nat, e = .returned (.int .i64 (k' : Int)) ∧ k ≤ k' ∧ k' ≤ k + n * 4194304 ∧ Mk S w w'
set_option maxHeartbeats 4000000 in
theorem markNodeS_any (S : Nat → Prop) (a : Option Addr) (n c k : Nat) (V : Nat → V3) (w : World) (h : Nk w S (.slice a n c) n V) (hn : n ≤ 1048576) (hk0 : 0 < k) (hk : k ≤ 1125899906842624) :
    Calls Try.prog 50 #[.slice a n c, .int .i64 k] w fun e w' => NkPost S w k n e w' := by
  have H0 := hid h
  obtain ⟨_, _, _, hsh, h2, h3, _⟩ := h
  cases hsh
  go_enter Try.func50, Try.ntmps50
  go_wp2_with fail
  go_loopw [1, 5] (fun x i wr => ∃ j q : Nat, x = .int .i64 (q : Int) ∧ i = .int .i64 j ∧ j ≤ n ∧ Hid (k ≤ q ∧ q ≤ k + j * 4194304) ∧ Hid (Nk wr S (.slice a n c) n V) ∧ Hid (Mk S w wr)) (fun _ i _ => n - (intOf i).toNat)
  case atStart => exact ⟨0, k, rfl, rfl, Nat.zero_le _, ⟨Nat.le_refl _, Nat.le_add_right _ _⟩, H0.out, Mk.refl _ _⟩
  case round =>
    obtain ⟨j, q, rfl, rfl, hj, HQ, HX, HG⟩ := hrel
    by_cases hlt : j < n
    · have hlt' : (j : Int) < (n : Int) := by omega
      have hj0 : (0 : Int) ≤ (j : Int) := by omega
      have hq1 : 0 < q := by have := HQ.out; omega
      have hq2 : q ≤ 5629499534213120 := by have := HQ.out; omega
      obtain ⟨hk', a', c', hsh, _, _, hcs⟩ := HX.out
      cases hsh
      obtain ⟨b, off, hab, huf, hcell⟩ := hcs (by omega)
      subst hab
      obtain ⟨np, nx, ni, b1, b2, b3, k1, k2, k3⟩ := hk' j hlt
      obtain ⟨c0, c1, c2⟩ := hcell j hlt
      generalize V j = vj at *
      obtain ⟨v0, v1, v2⟩ := vj
      obtain ⟨ap, np', cp, e0⟩ := k1.slice
      obtain ⟨ax, nx', cx, e1⟩ := k2.slice
      obtain ⟨ai, ni', ci, e2⟩ := k3.slice
      simp only at e0 e1 e2 k1 k2 k3 c0 c1 c2
      subst e0 e1 e2
      obtain rfl : np' = np := by obtain ⟨_, _, e, _⟩ := k1; cases e; rfl
      obtain rfl : nx' = nx := by obtain ⟨_, _, e, _⟩ := k2; cases e; rfl
      obtain rfl : ni' = ni := by obtain ⟨_, _, e, _⟩ := k3; cases e; rfl
      have K1 := hid k1
      have K2 := hid k2
      have K3 := hid k3
      have HU := hid huf
      have C1 := hid c1
      have C2 := hid c2
      clear hcs hcell hk' k1 k2 k3 huf c1 c2
      go_wp2_with fail
      refine (markPairS_any S ap np' cp q wr K1.out b1 hq1 (by omega)).mono ?_
      rintro e w1 ⟨rfl, hm, _⟩
      have HM1 := hid hm
      clear hm c0
      have c1 := HM1.out.slice HU.out C1.out
      have hs1 : q + np' * 2 ≤ 5629499536310272 := by omega
      have HQ1 : Hid (k ≤ q + np' * 2 ∧ q + np' * 2 ≤ k + j * 4194304 + 2097152) := by have := HQ.out; exact ⟨by omega, by omega⟩
      have hs0 : 0 < q + np' * 2 := by omega
      generalize q + np' * 2 = q1 at *
      go_wp2_with fail
      refine (markStringS_any S ax nx' cx q1 w1 (K2.out.mk HM1.out kind_str) b2 hs0 (by omega)).mono ?_
      rintro e w2 ⟨rfl, hm, _⟩
      have HM2 := hid (HM1.out.trans hm)
      clear hm c1
      have c2 := HM2.out.slice HU.out C2.out
      have hs2 : q1 + nx' ≤ 5629499537358848 := by omega
      have HQ2 : Hid (k ≤ q1 + nx' ∧ q1 + nx' ≤ k + j * 4194304 + 3145728) := by have := HQ1.out; exact ⟨by omega, by omega⟩
      have hs3 : 0 < q1 + nx' := by omega
      generalize q1 + nx' = q2 at *
      go_wp2_with fail
      refine (markIntS_any S ai ni' ci q2 w2 (K3.out.mk HM2.out kind_int) b3 hs3 (by omega)).mono ?_
      rintro e w3 ⟨rfl, hm, _⟩
      have HM3 := hid (HM2.out.trans hm)
      clear hm c2
      have HQ3 : Hid (k ≤ q2 + ni' ∧ q2 + ni' ≤ k + (j + 1) * 4194304) := by have := HQ2.out; exact ⟨by omega, by omega⟩
      generalize q2 + ni' = q3 at *
      go_wp2
      go_roundw
      case rel => exact ⟨j + 1, q3, rfl, by go_num, by omega, HQ3.out, HX.out.mk HM3.out, HG.out.trans HM3.out⟩
      case measure => simp [intOf]; omega
    · have hlt' : ¬ (j : Int) < (n : Int) := by omega
      have hjn : j = n := by omega
      subst hjn
      go_wp2
      go_ret
      exact ⟨q, rfl, HQ.out.1, HQ.out.2, HG.out⟩
set_option maxHeartbeats 2000000 in
theorem markTree_any (S : Nat → Prop) (a : Option Addr) (n c k : Nat) (V : Nat → V3) (w : World) (h : Nk w S (.slice a n c) n V) (hn : n ≤ 1048576) (hk0 : 0 < k) (hk : k ≤ 1125899906842624) :
    Calls Try.prog 17 #[.agg #[.slice a n c], .int .i64 k] w fun e w' => NkPost S w k n e w' := by
  have HB0 : Hid (Below w.heap.size w (w.alloc (.cells #[.slice a n c] 25))) := below_new (Below.refl _ _)
  have H0 := hid (h.below HB0.out)
  clear h
  go_enter Try.func17, Try.ntmps17
  go_wp2_with fail
  refine (markNodeS_any S a n c k V _ H0.out hn hk0 hk).mono ?_
  generalize w.alloc (.cells #[.slice a n c] 25) = U at *
  rintro e w1 ⟨k', rfl, h1, h2, h3⟩
  have HM := hid ((mk_below HB0.out).trans h3)
  have HK := hid (And.intro h1 h2)
  clear h1 h2 h3
  go_wp2
  go_ret
  exact ⟨k', rfl, HK.out.1, HK.out.2, HM.out⟩
end Go.Proofs.Ytkflneeifllpgaa
/-
  The law's helper that looks for marks in a slice of pairs: it finds them all.
-/
namespace Go.Proofs.Ytkflneeifllpgaa
open Go.RowKit
theorem kc1 {u v : World} {a0 : Addr} {x0 : Value} (h : KC u v [(a0, x0)]) : v.cell? a0 = some x0 ∧ KC u v [(a0, x0)] := ⟨h.at (by simp), h⟩
theorem kc0_1 {u : World} {a0 : Addr} {x0 : Value} (h0 : u.cell? a0 = some x0) : KC u u [(a0, x0)] := ⟨fun p hp => by simp at hp; rcases hp with rfl; assumption, Below.refl _ _⟩
theorem kc1c {u v v' : World} {a0 : Addr} {x0 : Value} (k : Below v.heap.size v v') (h : v.cell? a0 = some x0 ∧ KC u v [(a0, x0)]) : v'.cell? a0 = some x0 ∧ KC u v' [(a0, x0)] := kc1 (KC.call h.2 k)
/-- The marks lie there. -/
def Lies (w : World) (a : Option Addr) (n m : Nat) (V : Nat → Value) : Prop := 0 < n → ∃ b off, a = some ⟨b, off, none⟩ ∧ b < w.heap.size ∧ ∀ j, j < m → w.cell? ⟨b, off + j, none⟩ = some (V j)
theorem Lies.below {w w' : World} {a : Option Addr} {n m : Nat} {V : Nat → Value} (h : Lies w a n m V) (hb : Below w.heap.size w w') : Lies w' a n m V := by
  intro hn
  obtain ⟨b, off, h1, h2, h3⟩ := h hn
  exact ⟨b, off, h1, Nat.lt_of_lt_of_le h2 hb.size, fun j hj => by rw [hb.cell (p := ⟨b, off + j, none⟩) h2]; exact h3 j hj⟩
theorem Marked.lies {S : Nat → Prop} {w w' : World} {a : Option Addr} {n m : Nat} {V : Nat → Value} {K : Value → Prop} (h : Marked S w a n m V K w') : Lies w' a n m V := by
  intro hn
  obtain ⟨b, off, h1, _, T, xs, h2, _, h3⟩ := h.2 hn
  exact ⟨b, off, h1, h2.lt, fun j hj => h2.cell (h3 j hj)⟩
set_option maxHeartbeats 4000000 in
theorem heldPairS_any (a : Option Addr) (n c k : Nat) (w : World) (h : Lies w a n (n * 2) (mV k)) (hc : n ≤ c) (hn : n ≤ 1048576) (hk0 : 0 < k) (hk : k ≤ 576460752303423488) :
    Calls Try.prog 96 #[.slice a n c, .int .i64 k] w fun e w' => e = .returned (.int .i64 ((k + n * 2 : Nat) : Int)) ∧ Below w.heap.size w w' := by
  have H0 := hid h
  clear h
  go_enter Try.func96, Try.ntmps96
  go_wp2_with fail
  go_loopw [1, 5] (fun x i wr => ∃ j : Nat, x = .int .i64 ((k + j * 2 : Nat) : Int) ∧ i = .int .i64 j ∧ j ≤ n ∧ Hid (Below w.heap.size w wr)) (fun _ i _ => n - (intOf i).toNat)
  case atStart => exact ⟨0, rfl, rfl, Nat.zero_le _, Below.refl _ _⟩
  case round =>
    obtain ⟨j, rfl, rfl, hj, HB⟩ := hrel
    by_cases hlt : j < n
    · have hlt' : (j : Int) < (n : Int) := by omega
      have hj0 : (0 : Int) ≤ (j : Int) := by omega
      obtain ⟨b, off, ha, hbl, hcell⟩ := (H0.out.below HB.out) (by omega)
      subst ha
      have c0 := hcell (j * 2) (by omega)
      have c1 := hcell (j * 2 + 1) (by omega)
      simp only [mV] at c0 c1
      rw [← Nat.add_assoc] at c1
      rw [← Nat.add_assoc] at c1
      have HT1 := hid (fun w => markText_at (k + j * 2) ((k + j * 2 : Nat) : Int) rfl w (by omega) (by omega))
      have HT2 := hid (fun w => markText_at (k + j * 2 + 1) (((k + j * 2 : Nat) : Int) + 1) (by omega) w (by omega) (by omega))
      clear hcell
      generalize mt (k + j * 2) = m1 at *
      generalize mt (k + j * 2 + 1) = m2 at *
      generalize hkz : k + j * 2 = kz at *
      have hkz1 : kz ≤ 576460754400575488 := by omega
      have HK := hid hkz
      have T1 := hid (kc0_1 c0)
      have C1' := hid c1
      clear hkz c1
      go_wp2_with fail
      go_region_held3 (fun v => v.cell? ⟨b, off + j * 2, none⟩ = some (.string m1) ∧ KC wr v [(⟨b, off + j * 2, none⟩, .string m1)])
        (first | assumption | exact kc1 (T1.out.call (below_drew _)) | exact kc1c hbC (by assumption))
        (first | (go_at_call 135; refine (HT1.out _).mono ?_; rintro e w1 ⟨rfl, hbC⟩))
      rename_i hS
      have B1 := hid hS.2.bel
      have d2 : w1.cell? ⟨b, off + j * 2 + 1, none⟩ = some (.string m2) := by rw [B1.out.cell (p := ⟨b, off + j * 2 + 1, none⟩) hbl]; exact C1'.out
      have T2 := hid (kc0_1 d2)
      clear hS c0 T1 HT1 hbC
      go_wp2_with fail
      go_region_held3 (fun v => v.cell? ⟨b, off + j * 2 + 1, none⟩ = some (.string m2) ∧ KC w1 v [(⟨b, off + j * 2 + 1, none⟩, .string m2)])
        (first | assumption | exact kc1 (T2.out.call (below_drew _)) | exact kc1c hbC (by assumption))
        (first | (go_at_call 135; refine (HT2.out _).mono ?_; rintro e w2 ⟨rfl, hbC⟩))
      rename_i hS
      have B2 := hid (Below.then' (Below.then' HB.out B1.out (Nat.le_refl _)) hS.2.bel (Nat.le_refl _))
      clear hS T2 HT2 d2
      go_wp2
      go_roundw
      case rel => exact ⟨j + 1, by rw [show k + (j + 1) * 2 = kz + 2 by have := HK.out; omega]; go_num, by go_num, by omega, B2.out⟩
      case measure => simp [intOf]; omega
    · have hlt' : ¬ (j : Int) < (n : Int) := by omega
      have hjn : j = n := by omega
      subst hjn
      have HK : Hid ((k : Int) + (j : Int) * 2 = ((k + j * 2 : Nat) : Int)) := by show _ = _; omega
      generalize k + j * 2 = kz at *
      go_wp2
      go_ret
      exact ⟨by rw [HK.out]; rfl, HB.out⟩
end Go.Proofs.Ytkflneeifllpgaa
/-
  The law's helpers that look whether marks are still there, in rows of strings and of numbers.
-/
namespace Go.Proofs.Ytkflneeifllpgaa
open Go.RowKit
set_option linter.unusedVariables false
set_option maxHeartbeats 2000000 in
theorem heldStringS_any (a : Option Addr) (n c k : Nat) (w : World) (h : Lies w a n n (mV k)) (hc : n ≤ c) (hn : n ≤ 1048576) (hk0 : 0 < k) (hk : k ≤ 576460752303423488) :
    Calls Try.prog 97 #[.slice a n c, .int .i64 k] w fun e w' => e = .returned (.int .i64 ((k + n : Nat) : Int)) ∧ Below w.heap.size w w' := by
  have H0 := hid h
  clear h
  go_enter Try.func97, Try.ntmps97
  go_wp2_with fail
  go_loopw [1, 5] (fun x i wr => ∃ j : Nat, x = .int .i64 ((k + j : Nat) : Int) ∧ i = .int .i64 j ∧ j ≤ n ∧ Hid (Below w.heap.size w wr)) (fun _ i _ => n - (intOf i).toNat)
  case atStart => exact ⟨0, rfl, rfl, Nat.zero_le _, Below.refl _ _⟩
  case round =>
    obtain ⟨j, rfl, rfl, hj, HB⟩ := hrel
    by_cases hlt : j < n
    · have hlt' : (j : Int) < (n : Int) := by omega
      have hj0 : (0 : Int) ≤ (j : Int) := by omega
      obtain ⟨b, off, ha, hbl, hcell⟩ := (H0.out.below HB.out) (by omega)
      subst ha
      have c0 := hcell j (by omega)
      simp only [mV] at c0
      have HT1 := hid (fun w => markText_at (k + j) ((k + j : Nat) : Int) rfl w (by omega) (by omega))
      clear hcell
      generalize mt (k + j) = m1 at *
      generalize hkz : k + j = kz at *
      have hkz1 : kz ≤ 576460754400575488 := by omega
      have HK := hid hkz
      have T1 := hid (kc0_1 c0)
      clear hkz
      go_wp2_with fail
      go_region_held3 (fun v => v.cell? ⟨b, off + j, none⟩ = some (.string m1) ∧ KC wr v [(⟨b, off + j, none⟩, .string m1)])
        (first | assumption | exact kc1 (T1.out.call (below_drew _)) | exact kc1c hbC (by assumption))
        (first | (go_at_call 135; refine (HT1.out _).mono ?_; rintro e w1 ⟨rfl, hbC⟩))
      rename_i hS
      have B1 := hid (Below.then' HB.out hS.2.bel (Nat.le_refl _))
      clear hS c0 T1 HT1 hbC
      go_wp2
      go_roundw
      case rel => exact ⟨j + 1, by rw [show k + (j + 1) = kz + 1 by have := HK.out; omega]; go_num, by go_num, by omega, B1.out⟩
      case measure => simp [intOf]; omega
    · have hlt' : ¬ (j : Int) < (n : Int) := by omega
      have hjn : j = n := by omega
      subst hjn
      have HK : Hid ((k : Int) + (j : Int) = ((k + j : Nat) : Int)) := by show _ = _; omega
      generalize k + j = kz at *
      go_wp2
      go_ret
      exact ⟨by rw [HK.out]; rfl, HB.out⟩
set_option maxHeartbeats 2000000 in
theorem heldIntS_any (a : Option Addr) (n c k : Nat) (w : World) (h : Lies w a n n (mI k)) (hc : n ≤ c) (hn : n ≤ 1048576) (hk0 : 0 < k) (hk : k ≤ 576460752303423488) :
    Calls Try.prog 98 #[.slice a n c, .int .i64 k] w fun e w' => e = .returned (.int .i64 ((k + n : Nat) : Int)) ∧ w' = w := by
  have H0 := hid h
  clear h
  go_enter Try.func98, Try.ntmps98
  go_wp2_with fail
  go_loop [1, 5] (fun x i => ∃ j : Nat, x = .int .i64 ((k + j : Nat) : Int) ∧ i = .int .i64 j ∧ j ≤ n) (fun _ i => n - (intOf i).toNat)
  case atStart => exact ⟨0, rfl, rfl, Nat.zero_le _⟩
  case round =>
    obtain ⟨j, rfl, rfl, hj⟩ := hrel
    by_cases hlt : j < n
    · have hlt' : (j : Int) < (n : Int) := by omega
      have hj0 : (0 : Int) ≤ (j : Int) := by omega
      obtain ⟨b, off, ha, hbl, hcell⟩ := H0.out (by omega)
      subst ha
      have c0 := hcell j (by omega)
      simp only [mI] at c0
      clear hcell
      generalize hkz : k + j = kz at *
      have hkz1 : kz ≤ 576460754400575488 := by omega
      have HK := hid hkz
      clear hkz
      go_wp2
      go_round
      case rel => exact ⟨j + 1, by rw [show k + (j + 1) = kz + 1 by have := HK.out; omega]; go_num, by go_num, by omega⟩
      case measure => simp [intOf]; omega
    · have hlt' : ¬ (j : Int) < (n : Int) := by omega
      have hjn : j = n := by omega
      subst hjn
      have HK : Hid ((k : Int) + (j : Int) = ((k + j : Nat) : Int)) := by show _ = _; omega
      generalize k + j = kz at *
      go_wp2
      go_ret
      exact ⟨by rw [HK.out]; rfl, rfl⟩
end Go.Proofs.Ytkflneeifllpgaa
/-
  The law's helpers that write marks into an answer's tree and look whether they are still there: where all rows are apart, they are.
-/
namespace Go.Proofs.Ytkflneeifllpgaa
open Go.RowKit
set_option linter.unusedVariables false
def cntN (x : NB) : Nat := x.ps.length * 2 + x.keys.length + x.kids.length
def offN (ns : List NB) : Nat → Nat
  | 0 => 0
  | i + 1 => offN ns i + cntN (nAt ns i)
def LiesV (w : World) (v : Value) (n m : Nat) (V : Nat → Value) : Prop := ∃ a c, v = .slice a n c ∧ n ≤ c ∧ Lies w a n m V
theorem LiesV.to {w w' : World} {R : Nat → Prop} {v : Value} {n m : Nat} {V : Nat → Value} (h : LiesV w v n m V) (ho : Only R w w') (hR : ∀ y, v.ownBlock = some y → ¬ R y) : LiesV w' v n m V := by
  obtain ⟨a, c, rfl, h1, h2⟩ := h
  refine ⟨a, c, rfl, h1, fun hn => ?_⟩
  obtain ⟨b, off, rfl, h4, h5⟩ := h2 hn
  exact ⟨b, off, rfl, Nat.lt_of_lt_of_le h4 ho.size, fun j hj => (World.cell?_of_block (w := w) (a := ⟨b, off + j, none⟩) (ho.block b h4 (hR b rfl))).trans (h5 j hj)⟩
def LiesN (w : World) (p : V3) (x : NB) (q : Nat) : Prop := LiesV w p.1 x.ps.length (x.ps.length * 2) (mV q) ∧ LiesV w p.2.1 x.keys.length x.keys.length (mV (q + x.ps.length * 2)) ∧ LiesV w p.2.2 x.kids.length x.kids.length (mI (q + x.ps.length * 2 + x.keys.length))
theorem LiesN.to {w w' : World} {R : Nat → Prop} {p : V3} {x : NB} {q : Nat} (h : LiesN w p x q) (ho : Only R w w') (hR : ∀ y, bl p y → ¬ R y) : LiesN w' p x q := ⟨h.1.to ho (fun y e => hR y (.inl e)), h.2.1.to ho (fun y e => hR y (.inr (.inl e))), h.2.2.to ho (fun y e => hR y (.inr (.inr e)))⟩
/-- The marks stand in all rows. -/
structure MkT (w : World) (v : Value) (V : List V3) (ns : List NB) (k : Nat) : Prop where
  len : V.length = ns.length
  row : w.ownsRow 0 106 3 v ns.length (ncs V)
  lie : ∀ i, i < ns.length → LiesN w (vAt V i) (nAt ns i) (k + offN ns i)
theorem MkT.below {w w' : World} {v : Value} {V : List V3} {ns : List NB} {k : Nat} (h : MkT w v V ns k) (hb : Below w.heap.size w w') : MkT w' v V ns k := ⟨h.len, own_kept h.row (only_of_below hb (fun _ => False)) (fun _ _ h => h), fun i hi => (h.lie i hi).to (only_of_below hb (fun _ => False)) (fun _ _ h => h)⟩
def smallK (ns : List NB) : Prop := ∀ i, i < ns.length → (nAt ns i).ps.length ≤ 1000 ∧ (nAt ns i).keys.length ≤ 1000 ∧ (nAt ns i).kids.length ≤ 1000
theorem offN_le {ns : List NB} (h : smallK ns) : ∀ i, i ≤ ns.length → offN ns i ≤ i * 4000
  | 0, _ => by simp [offN]
  | i + 1, hi => by
    have := offN_le h i (by omega)
    have h2 := h i (by omega)
    simp only [offN, cntN]
    omega
theorem kw_own {w : World} {base : Nat} {e : TypeId} {size : Nat} {v : Value} {n : Nat} {xs : List Value} {K : Value → Prop} (h : w.ownsRow base e size v n xs) (hx : ∀ u ∈ xs, K u) : Kw w (fun y => v.ownBlock = some y) v n xs.length K :=
  kw_of (rw_own h (S := fun y => v.ownBlock = some y) (fun k hk _ _ => hk)) hx (fun b hb _ => ⟨hb, by
    rcases h.2 with ⟨rfl, _⟩ | ⟨g, cap, cur, rfl, _, h4, _⟩
    · cases hb
    · have e : g = b := by simpa [Value.ownBlock] using hb
      subst e
      exact ⟨_, _, h4⟩⟩)
theorem row_cells {w : World} {g n c m : Nat} {V : List V3} (h : w.ownsRow 0 106 3 (.slice (some ⟨g, 0, none⟩) n c) m (ncs V)) {i : Nat} (hi : i < V.length) : w.cell? ⟨g, i * 3, none⟩ = some (vAt V i).1 ∧ w.cell? ⟨g, i * 3 + 1, none⟩ = some (vAt V i).2.1 ∧ w.cell? ⟨g, i * 3 + 2, none⟩ = some (vAt V i).2.2 := by
  have hc := World.ownsRow.cells h (g := g) rfl
  obtain ⟨c0, c1, c2⟩ := ncs_at V i hi
  have d0 := hc _ _ c0
  have d1 := hc _ _ c1
  have d2 := hc _ _ c2
  rw [Addr.add_lit, Nat.zero_add] at d0 d1 d2
  exact ⟨d0, d1, d2⟩
theorem row_cap {w : World} {base : Nat} {e : TypeId} {size : Nat} {a : Option Addr} {n c m : Nat} {xs : List Value} (h : w.ownsRow base e size (.slice a n c) m xs) : n = m ∧ n ≤ c ∧ c ≤ 9223372036854775807 := by
  rcases h.2 with ⟨h1, h2⟩ | ⟨g, cap, cur, h1, _, _, h3, h4, _⟩
  · cases h1; exact ⟨h2.symm, Nat.le_refl _, by omega⟩
  · cases h1; unfold maxLen at h4; exact ⟨rfl, h3, by omega⟩
end Go.Proofs.Ytkflneeifllpgaa
/-
  Marks in an answer's tree, and whether they are still there: the lists of nodes.
-/
namespace Go.Proofs.Ytkflneeifllpgaa
open Go.RowKit
set_option linter.unusedVariables false
def MarkPost (w : World) (v : Value) (V : List V3) (ns : List NB) (k : Nat) (e : Ending) (w' : World) : Prop := e = .returned (.int .i64 ((k + offN ns ns.length : Nat) : Int)) ∧ MkT w' v V ns k ∧ Only (fun y => ∃ i, i < ns.length ∧ bl (vAt V i) y) w w'
set_option maxHeartbeats 4000000 in
set_option maxRecDepth 20000 in
theorem markNodeS_ex (a : Option Addr) (n c k : Nat) (V : List V3) (ns : List NB) (w : World) (h : NA w (.slice a n c) V ns) (hs : smallK ns) (hn : ns.length ≤ 100000) (hk0 : 0 < k) (hk : k ≤ 1000000) :
    Calls Try.prog 50 #[.slice a n c, .int .i64 k] w fun e w' => MarkPost w (.slice a n c) V ns k e w' := by
  obtain ⟨hnn, hnc, hcm⟩ := row_cap h.row
  have HNN := hid hnn
  have hn1 : n ≤ 100000 := by omega
  have H0 := hid h
  have HS := hid hs
  clear h hs hnn hn
  go_enter Try.func50, Try.ntmps50
  go_wp2_with fail
  go_loopw [1, 5] (fun x i wr => ∃ j q : Nat, x = .int .i64 (q : Int) ∧ i = .int .i64 j ∧ j ≤ n ∧ Hid (q = k + offN ns j) ∧ Hid (Only (fun y => ∃ i, i < j ∧ bl (vAt V i) y) w wr) ∧ Hid (∀ i, i < j → LiesN wr (vAt V i) (nAt ns i) (k + offN ns i))) (fun _ i _ => n - (intOf i).toNat)
  case atStart => exact ⟨0, k, rfl, rfl, Nat.zero_le _, rfl, Only.refl _ _, fun i hi => absurd hi (Nat.not_lt_zero _)⟩
  case round =>
    obtain ⟨j, q, rfl, rfl, hj, HQ, HO, HL⟩ := hrel
    by_cases hlt : j < n
    · have hlt' : (j : Int) < (n : Int) := by omega
      have hj0 : (0 : Int) ≤ (j : Int) := by omega
      have hjl : j < ns.length := by rw [← HNN.out]; exact hlt
      have hq1 : 0 < q := by have := HQ.out; omega
      have hq2 : q ≤ 1000000000 := by have h1 := HQ.out; have h2 := offN_le HS.out j (by omega); omega
      have hbd := HS.out j hjl
      have hown := (H0.out.own j hjl).1.to HO.out (fun y hy => by
        rintro ⟨i, hi, hb⟩
        exact H0.out.apart j i hjl (by omega) (by omega) y hy hb)
      have hrow := own_kept H0.out.row HO.out (fun y e => by
        rintro ⟨i, hi, hb⟩
        exact H0.out.off i (by omega) y hb e)
      obtain ⟨g, ha, -⟩ : ∃ g, a = some ⟨g, 0, none⟩ ∧ True := by
        obtain ⟨g, e, _⟩ := H0.out.rowAt (by omega)
        exact ⟨g, e, trivial⟩
      subst ha
      have HRW := hid hrow
      have HAP := hid (H0.out.own j hjl).2
      have HOF : Hid (∀ y, bl (vAt V j) y → y ≠ g) := fun y hy e => H0.out.off j hjl y hy (by rw [e]; rfl)
      have hvl : j < V.length := by rw [H0.out.len]; exact hjl
      obtain ⟨c0, -, -⟩ := row_cells hrow hvl
      have HOW := hid hown
      have HQN : Hid (offN ns (j + 1) = offN ns j + cntN (nAt ns j)) := rfl
      obtain ⟨ap, cp, e0⟩ := own_shape hown.1
      obtain ⟨ax, cx, e1⟩ := own_shape hown.2.1
      obtain ⟨ai, ci, e2⟩ := own_shape hown.2.2
      have HVL := hid hvl
      clear hrow hown hvl
      generalize hxx : nAt ns j = xx at *
      have HXX := hid hxx
      generalize hpp : vAt V j = pp at *
      have HPP := hid hpp
      obtain ⟨p0, p1, p2⟩ := pp
      simp only at e0 e1 e2 c0
      clear hxx hpp
      generalize hnp : xx.ps.length = np at *
      generalize hnx : xx.keys.length = nx at *
      generalize hni : xx.kids.length = ni at *
      have HLN := hid (And.intro hnp (And.intro hnx hni))
      clear hnp hnx hni
      subst e0 e1 e2
      obtain ⟨b1, b2, b3⟩ := hbd
      have K1 : Hid (Kw wr (fun y => (Value.slice ap np cp).ownBlock = some y) (.slice ap np cp) np (np * 2) isStr) := by
        have := kw_own (K := isStr) HOW.out.1 (fun u hu => pcs_str _ u hu)
        rw [pcs_length, HLN.out.1] at this
        exact this
      have K2 : Hid (Kw wr (fun y => (Value.slice ax nx cx).ownBlock = some y) (.slice ax nx cx) nx nx isStr) := by
        have := kw_own (K := isStr) HOW.out.2.1 (fun u hu => by simp at hu; obtain ⟨s, _, rfl⟩ := hu; exact ⟨s, rfl⟩)
        rw [List.length_map, HLN.out.2.1] at this
        exact this
      have K3 : Hid (Kw wr (fun y => (Value.slice ai ni ci).ownBlock = some y) (.slice ai ni ci) ni ni isInt) := by
        have := kw_own (K := isInt) HOW.out.2.2 (fun u hu => by simp at hu; obtain ⟨s, _, rfl⟩ := hu; exact ⟨s, rfl⟩)
        rw [List.length_map, HLN.out.2.2] at this
        exact this
      have hcaps : np ≤ cp ∧ nx ≤ cx ∧ ni ≤ ci := ⟨(row_cap HOW.out.1).2.1, (row_cap HOW.out.2.1).2.1, (row_cap HOW.out.2.2).2.1⟩
      have HCP := hid hcaps
      clear hcaps HOW
      go_wp2_with fail
      refine (markPairS_any _ ap np cp q wr K1.out (by omega) hq1 (by omega)).mono ?_
      rintro e w1 ⟨rfl, hm⟩
      have HM1 := hid hm.1.only
      have HL1 := hid hm.lies
      have HK2 := hid (K2.out.mk hm.1 kind_str)
      have HK3 := hid (K3.out.mk hm.1 kind_int)
      have HR1 : Hid (w1.ownsRow 0 106 3 (.slice (some ⟨g, 0, none⟩) n c) ns.length (ncs V)) := own_kept HRW.out HM1.out (fun y e e2 => HOF.out y (.inl e2) (by simpa [Value.ownBlock] using e.symm))
      obtain ⟨-, c1, -⟩ := row_cells HR1.out HVL.out
      rw [HPP.out] at c1
      simp only at c1
      have hs1 : q + np * 2 ≤ 1000010000 := by omega
      have hs0 : 0 < q + np * 2 := by omega
      have HQ1 : Hid (∃ z, z = q + np * 2) := ⟨_, rfl⟩
      clear hm K1 K2 K3 c0 HQ1
      generalize hq1' : q + np * 2 = q1 at *
      have HQ1 := hid hq1'
      clear hq1'
      go_wp2_with fail
      refine (markStringS_any _ ax nx cx q1 w1 HK2.out (by omega) hs0 (by omega)).mono ?_
      rintro e w2 ⟨rfl, hm⟩
      have HM2 := hid hm.1.only
      have HL2 := hid hm.lies
      have HK4 := hid (HK3.out.mk hm.1 kind_int)
      have HR2 : Hid (w2.ownsRow 0 106 3 (.slice (some ⟨g, 0, none⟩) n c) ns.length (ncs V)) := own_kept HR1.out HM2.out (fun y e e2 => HOF.out y (.inr (.inl e2)) (by simpa [Value.ownBlock] using e.symm))
      obtain ⟨-, -, c2⟩ := row_cells HR2.out HVL.out
      rw [HPP.out] at c2
      simp only at c2
      have hs3 : q1 + nx ≤ 1000020000 := by omega
      have hs4 : 0 < q1 + nx := by omega
      clear hm HK2 HK3 c1
      generalize hq2' : q1 + nx = q2 at *
      have HQ2 := hid hq2'
      clear hq2'
      go_wp2_with fail
      refine (markIntS_any _ ai ni ci q2 w2 HK4.out (by omega) hs4 (by omega)).mono ?_
      rintro e w3 ⟨rfl, hm⟩
      have HM3 := hid hm.1.only
      have HL3 := hid hm.lies
      clear hm HK4 c2
      have HO3 : Hid (Only (fun y => ∃ i, i < j + 1 ∧ bl (vAt V i) y) w w3) := by
        have o1 := HM1.out.mono (R' := fun y => ∃ i, i < j + 1 ∧ bl (vAt V i) y) (fun y _ e => ⟨j, by omega, by rw [HPP.out]; exact .inl e⟩)
        have o2 := HM2.out.mono (R' := fun y => ∃ i, i < j + 1 ∧ bl (vAt V i) y) (fun y _ e => ⟨j, by omega, by rw [HPP.out]; exact .inr (.inl e)⟩)
        have o3 := HM3.out.mono (R' := fun y => ∃ i, i < j + 1 ∧ bl (vAt V i) y) (fun y _ e => ⟨j, by omega, by rw [HPP.out]; exact .inr (.inr e)⟩)
        exact (((HO.out.mono (fun y _ ⟨i, hi, hb⟩ => ⟨i, by omega, hb⟩)).trans o1).trans o2).trans o3
      have HLF : Hid (∀ i, i < j + 1 → LiesN w3 (vAt V i) (nAt ns i) (k + offN ns i)) := by
        intro i hi
        by_cases e : i = j
        · subst e
          rw [HPP.out, HXX.out]
          unfold LiesN
          rw [HLN.out.1, HLN.out.2.1, HLN.out.2.2, ← HQ.out, HQ1.out, HQ2.out]
          have hap := HAP.out
          refine ⟨(LiesV.to ⟨_, cp, rfl, HCP.out.1, HL1.out⟩ HM2.out (fun y e e2 => ((hap y).1 e).1 e2)).to HM3.out (fun y e e2 => ((hap y).1 e).2 e2), LiesV.to ⟨ax, cx, rfl, HCP.out.2.1, HL2.out⟩ HM3.out (fun y e e2 => (hap y).2 e e2), ⟨ai, ci, rfl, HCP.out.2.2, HL3.out⟩⟩
        · have h1 := HL.out i (by omega)
          have hd : ∀ y, bl (vAt V i) y → ¬ bl (Value.slice ap np cp, Value.slice ax nx cx, Value.slice ai ni ci) y := fun y hy hz => H0.out.apart i j (by omega) hjl e y hy (by rw [HPP.out]; exact hz)
          exact ((h1.to HM1.out (fun y hy e => hd y hy (.inl e))).to HM2.out (fun y hy e => hd y hy (.inr (.inl e)))).to HM3.out (fun y hy e => hd y hy (.inr (.inr e)))
      have HQ3 : Hid (q2 + ni = k + offN ns (j + 1)) := by
        show _ = _
        rw [HQN.out, cntN, HLN.out.1, HLN.out.2.1, HLN.out.2.2, ← HQ2.out, ← HQ1.out, HQ.out]; omega
      go_wp2
      go_roundw
      case rel => exact ⟨j + 1, q2 + ni, by go_num, by go_num, by omega, HQ3.out, HO3.out, HLF.out⟩
      case measure => simp [intOf]; omega
    · have hlt' : ¬ (j : Int) < (n : Int) := by omega
      have hjn : j = ns.length := by rw [← HNN.out]; omega
      subst hjn
      have HF : Hid (MkT wr (.slice a n c) V ns k) := ⟨H0.out.len, own_kept H0.out.row HO.out (fun y e => by rintro ⟨i, hi, hb⟩; exact H0.out.off i hi y hb e), HL.out⟩
      clear HL
      go_wp2
      go_ret
      exact ⟨by rw [← HQ.out]; rfl, HF.out, HO.out⟩
set_option maxHeartbeats 1000000 in
theorem markTree_ex (a : Option Addr) (n c k : Nat) (V : List V3) (ns : List NB) (w : World) (h : NA w (.slice a n c) V ns) (hs : smallK ns) (hn : ns.length ≤ 100000) (hk0 : 0 < k) (hk : k ≤ 1000000) :
    Calls Try.prog 17 #[.agg #[.slice a n c], .int .i64 k] w fun e w' => MarkPost w (.slice a n c) V ns k e w' := by
  have hb := below_new (o := .cells #[.slice a n c] 25) (w := w) (Below.refl _ _)
  have HN := hid (markNodeS_ex a n c k V ns _ (h.kept hb) hs hn hk0 hk)
  have c0 := (Bk.new w 25 [.slice a n c]).cell (j := 0) rfl
  have HB := hid hb
  clear h hs hb
  go_enter Try.func17, Try.ntmps17
  go_wp2_with fail
  refine HN.out.mono ?_
  rintro e w1 ⟨rfl, hm, ho⟩
  have HM := hid hm
  have HO := hid ((only_of_below HB.out _).trans ho)
  clear hm ho
  generalize hq : k + offN ns ns.length = q at *
  have HQ := hid hq
  clear hq
  go_wp2
  go_ret
  exact ⟨by rw [HQ.out]; rfl, HM.out, HO.out⟩
set_option maxHeartbeats 4000000 in
set_option maxRecDepth 20000 in
theorem heldNodeS_any (a : Option Addr) (n c k : Nat) (V : List V3) (ns : List NB) (w : World) (h : MkT w (.slice a n c) V ns k) (hs : smallK ns) (hn : ns.length ≤ 100000) (hk0 : 0 < k) (hk : k ≤ 1000000) :
    Calls Try.prog 51 #[.slice a n c, .int .i64 k] w fun e w' => e = .returned (.int .i64 ((k + offN ns ns.length : Nat) : Int)) ∧ Below w.heap.size w w' := by
  obtain ⟨hnn, hnc, hcm⟩ := row_cap h.row
  have HNN := hid hnn
  have hn1 : n ≤ 100000 := by omega
  have H0 := hid h
  have HS := hid hs
  clear h hs hnn hn
  go_enter Try.func51, Try.ntmps51
  go_wp2_with fail
  go_loopw [1, 5] (fun x i wr => ∃ j q : Nat, x = .int .i64 (q : Int) ∧ i = .int .i64 j ∧ j ≤ n ∧ Hid (q = k + offN ns j) ∧ Hid (Below w.heap.size w wr)) (fun _ i _ => n - (intOf i).toNat)
  case atStart => exact ⟨0, k, rfl, rfl, Nat.zero_le _, rfl, Below.refl _ _⟩
  case round =>
    obtain ⟨j, q, rfl, rfl, hj, HQ, HB⟩ := hrel
    by_cases hlt : j < n
    · have hlt' : (j : Int) < (n : Int) := by omega
      have hj0 : (0 : Int) ≤ (j : Int) := by omega
      have hjl : j < ns.length := by rw [← HNN.out]; exact hlt
      have hq1 : 0 < q := by have := HQ.out; omega
      have hq2 : q ≤ 1000000000 := by have h1 := HQ.out; have h2 := offN_le HS.out j (by omega); omega
      have hbd := HS.out j hjl
      have H1 := hid (H0.out.below HB.out)
      obtain ⟨g, ha, -⟩ : ∃ g, a = some ⟨g, 0, none⟩ ∧ True := by
        rcases H0.out.row.2 with ⟨e, e2⟩ | ⟨g, cap, cur, e, _⟩
        · omega
        · cases e; exact ⟨g, rfl, trivial⟩
      subst ha
      have hvl : j < V.length := by rw [H0.out.len]; exact hjl
      have HVL := hid hvl
      obtain ⟨c0, -, -⟩ := row_cells H1.out.row hvl
      have hlie := H1.out.lie j hjl
      rw [← HQ.out] at hlie
      have HQN : Hid (offN ns (j + 1) = offN ns j + cntN (nAt ns j)) := rfl
      generalize hpp : vAt V j = pp at *
      have HPP := hid hpp
      obtain ⟨p0, p1, p2⟩ := pp
      generalize hxx : nAt ns j = xx at *
      clear hpp hxx hvl
      unfold LiesN at hlie
      generalize hnp : xx.ps.length = np at *
      generalize hnx : xx.keys.length = nx at *
      generalize hni : xx.kids.length = ni at *
      have HLN := hid (And.intro hnp (And.intro hnx hni))
      clear hnp hnx hni
      obtain ⟨⟨ap, cp, e0, hc0, l0⟩, ⟨ax, cx, e1, hc1, l1⟩, ⟨ai, ci, e2, hc2, l2⟩⟩ := hlie
      simp only at e0 e1 e2 c0
      subst e0 e1 e2
      have L1 := hid l1
      have L2 := hid l2
      obtain ⟨b1, b2, b3⟩ := hbd
      have HP := hid (heldPairS_any ap np cp q wr l0 hc0 (by omega) hq1 (by omega))
      clear l0 l1 l2
      go_wp2_with fail
      refine HP.out.mono ?_
      rintro e w1 ⟨rfl, hb⟩
      have HB1 := hid (Below.then' HB.out hb (Nat.le_refl _))
      obtain ⟨-, c1, -⟩ := row_cells (H1.out.below hb).row HVL.out
      rw [HPP.out] at c1
      simp only at c1
      have M1 := hid (L1.out.below hb)
      have M2 := hid (L2.out.below hb)
      have H2 := hid (H1.out.below hb)
      have hs1 : q + np * 2 ≤ 1000010000 := by omega
      have hs0 : 0 < q + np * 2 := by omega
      clear hb c0 HP L1 L2 H1
      generalize hq1' : q + np * 2 = q1 at *
      have HQ1 := hid hq1'
      have HP2 := hid (heldStringS_any ax nx cx q1 w1 M1.out hc1 (by omega) hs0 (by omega))
      clear hq1'
      have hn0 : ¬ (q1 : Int) < 0 := by omega
      go_wp2_with fail
      refine HP2.out.mono ?_
      rintro e w2 ⟨rfl, hb⟩
      have HB2 := hid (Below.then' HB1.out hb (Nat.le_refl _))
      obtain ⟨-, -, c2⟩ := row_cells (H2.out.below hb).row HVL.out
      rw [HPP.out] at c2
      simp only at c2
      have N2 := hid (M2.out.below hb)
      have hs3 : q1 + nx ≤ 1000020000 := by omega
      have hs4 : 0 < q1 + nx := by omega
      clear hb c1 HP2 M1 M2 H2
      generalize hq2' : q1 + nx = q2 at *
      have HQ2 := hid hq2'
      have HP3 := hid (heldIntS_any ai ni ci q2 w2 N2.out hc2 (by omega) hs4 (by omega))
      clear hq2'
      have hn2 : ¬ (q2 : Int) < 0 := by omega
      go_wp2_with fail
      refine HP3.out.mono ?_
      rintro e w3 ⟨rfl, rfl⟩
      have HQ3 : Hid (q2 + ni = k + offN ns (j + 1)) := by
        show _ = _
        rw [HQN.out, cntN, HLN.out.1, HLN.out.2.1, HLN.out.2.2, ← HQ2.out, ← HQ1.out, HQ.out]; omega
      have hs5 : q2 + ni ≤ 1000030000 := by omega
      clear c2 HP3 N2
      generalize hq3' : q2 + ni = q3 at *
      clear hq3'
      have hn3 : ¬ (q3 : Int) < 0 := by omega
      go_wp2
      go_roundw
      case rel => exact ⟨j + 1, q3, rfl, by go_num, by omega, HQ3.out, HB2.out⟩
      case measure => simp [intOf]; omega
    · have hlt' : ¬ (j : Int) < (n : Int) := by omega
      have hjn : j = ns.length := by rw [← HNN.out]; omega
      subst hjn
      have HE : Hid ((k : Int) + (offN ns ns.length : Int) = (q : Int)) := by have := HQ.out; show _ = _; omega
      go_wp2
      go_ret
      exact ⟨by rw [HE.out]; rfl, HB.out⟩
set_option maxHeartbeats 1000000 in
theorem heldTree_any (a : Option Addr) (n c k : Nat) (V : List V3) (ns : List NB) (w : World) (h : MkT w (.slice a n c) V ns k) (hs : smallK ns) (hn : ns.length ≤ 100000) (hk0 : 0 < k) (hk : k ≤ 1000000) :
    Calls Try.prog 18 #[.agg #[.slice a n c], .int .i64 k] w fun e w' => e = .returned (.int .i64 ((k + offN ns ns.length : Nat) : Int)) ∧ Below w.heap.size w w' := by
  have hb := below_new (o := .cells #[.slice a n c] 25) (w := w) (Below.refl _ _)
  have HN := hid (heldNodeS_any a n c k V ns _ (h.below hb) hs hn hk0 hk)
  have c0 := (Bk.new w 25 [.slice a n c]).cell (j := 0) rfl
  have HB := hid hb
  clear h hs hb
  go_enter Try.func18, Try.ntmps18
  go_wp2_with fail
  refine HN.out.mono ?_
  rintro e w1 ⟨rfl, hb⟩
  have HB1 := hid (Below.then' HB.out hb (Nat.le_refl _))
  clear hb
  generalize hq : k + offN ns ns.length = q at *
  have HQ := hid hq
  clear hq
  have hn0 : ¬ (q : Int) < 0 := by omega
  go_wp2
  go_ret
  exact ⟨by rw [HQ.out]; rfl, HB1.out⟩
mutual
theorem lay_small : ∀ (t : T) (r : Bool) (a : Nat), t.full r = true → ∀ x ∈ lay a t, x.ps.length ≤ 1000 ∧ x.keys.length ≤ 1000 ∧ x.kids.length ≤ 1000
  | .mk ps ks, r, a, h, x, hx => by
    by_cases hk : ks = []
    · subst hk
      have := (full_lf h).1
      simp [lay] at hx
      subst hx
      simp; omega
    · obtain ⟨_, h2, rfl, h3⟩ := full_br h hk
      simp only [lay, hk, if_false, List.mem_cons] at hx
      rcases hx with rfl | hx
      · simp only [List.length_nil, List.length_map, List.length_tail, places_length]; omega
      · exact layL_small ks (a + 1) h3 x hx
theorem layL_small : ∀ (ks : List T) (a : Nat), (∀ k ∈ ks, k.full false = true) → ∀ x ∈ layL a ks, x.ps.length ≤ 1000 ∧ x.keys.length ≤ 1000 ∧ x.kids.length ≤ 1000
  | [], a, _, x, hx => by simp [layL] at hx
  | k :: ks, a, h, x, hx => by
    rw [layL] at hx
    rcases List.mem_append.1 hx with hx | hx
    · exact lay_small k false a (h k (by simp)) x hx
    · exact layL_small ks (a + k.size) (fun y hy => h y (by simp [hy])) x hx
end
theorem smallK_of {ns : List NB} (h : ∀ x ∈ ns, x.ps.length ≤ 1000 ∧ x.keys.length ≤ 1000 ∧ x.kids.length ≤ 1000) : smallK ns := by
  intro i hi
  have : nAt ns i ∈ ns := by simp [nAt, hi]
  exact h _ this
end Go.Proofs.Ytkflneeifllpgaa
/-
  l03Tree and TreePut of the specification.
-/
namespace Go.Proofs.Ytkflneeifllpgaa
open Go.RowKit
/-- A root that has one kid alone gives way to it. -/
def strip1 (t : T) : T := if t.ks.length = 1 then tAt t.ks 0 else t
theorem strip1_id {t : T} (h : t.ks.length ≠ 1) : strip1 t = t := by rw [strip1, if_neg h]
def kidsN (w : World) (a : Addr) : Nat := match w.cell? a with
  | some (.slice _ n _) => if n = 1 then 1 else 0
  | _ => 0
/-- A list of nodes that is there to be read, in new blocks. -/
def NewN (w w' : World) (v : Value) (ms : List NB) : Prop := Nr w' (fun y => w.heap.size ≤ y ∧ y < w'.heap.size) v ms
theorem NewN.kept {w w' w2 : World} {v : Value} {ms : List NB} (h : NewN w w' v ms) (hb : Below w'.heap.size w' w2) : NewN w w2 v ms := (Nr.below h hb).mono (fun _ hy _ => ⟨hy.1, Nat.lt_of_lt_of_le hy.2 hb.size⟩)
theorem NewN.nil (w w' : World) : NewN w w' (.slice none 0 0) [] := ⟨[], rfl, rw_nil _ _, fun i hi => by simp at hi⟩
def NewK (w w' : World) (v : Value) (ms : List NB) : Prop := NrK w' (fun y => w.heap.size ≤ y ∧ y < w'.heap.size) v ms
theorem NewK.nil (w w' : World) : NewK w w' (.slice none 0 0) [] := nrK_nil _ _
theorem NewK.new {w w' : World} {v : Value} {ms : List NB} (h : NewK w w' v ms) : NewN w w' v ms := NrK.nr h
def STree (w : World) (ms : List NB) (e : Ending) (w' : World) : Prop := ∃ a n c, e = .returned (.agg #[.slice a n c]) ∧ NewK w w' (.slice a n c) ms ∧ Below w.heap.size w w'
set_option maxHeartbeats 2000000 in
set_option maxRecDepth 20000 in
theorem specTree_any (S : Nat → Prop) (lf : Bool) (ap ak : Option Addr) (np cp nk ck : Nat) (t : T) (w : World) (h : Sub w S lf (.slice ap np cp) (.slice ak nk ck) t) (h1 : (strip1 t).ks.length ≠ 1) (hf : (strip1 t).full true = true ∨ strip1 t = bareT) (hz : (strip1 t).size ≤ 1048576) :
    Calls Try.prog 44 #[.agg #[.bool lf, .slice ap np cp, .slice ak nk ck]] w fun e w' => STree w (layT (strip1 t)) e w' := by
  obtain ⟨_, _, _, _, _, _, e1, e2, -, -, -, -, -, -⟩ := h.shape
  cases e1
  cases e2
  have H0 : Hid (Sub w (fun y => y < w.heap.size) lf (.slice ap np cp) (.slice ak nk ck) t) := h.mono (fun y hy hl => hl)
  have HB0 : Hid (Below w.heap.size w ((w.alloc (.cells #[.bool lf, .slice ap np cp, .slice ak nk ck] 74)).alloc (.cells #[.slice none 0 0] 25))) := below_new (below_new (Below.refl _ _))
  have K0 : Hid (Bk ((w.alloc (.cells #[.bool lf, .slice ap np cp, .slice ak nk ck] 74)).alloc (.cells #[.slice none 0 0] 25)) w.heap.size 74 [.bool lf, .slice ap np cp, .slice ak nk ck]) := (Bk.new w 74 [.bool lf, .slice ap np cp, .slice ak nk ck]).alloc _
  have KR : Hid (Bk ((w.alloc (.cells #[.bool lf, .slice ap np cp, .slice ak nk ck] 74)).alloc (.cells #[.slice none 0 0] 25)) (w.heap.size + 1) 25 [.slice none 0 0]) := by
    have := Bk.new (w.alloc (.cells #[.bool lf, .slice ap np cp, .slice ak nk ck] 74)) 25 [.slice none 0 0]
    show Bk _ _ _ _
    simpa using this
  have HS := hid h1
  have HF := hid hf
  have HZ := hid hz
  clear h h1 hf hz
  generalize hT : strip1 t = T0 at *
  have HT := hid hT
  clear hT
  go_enter Try.func44, Try.ntmps44
  go_wp2_with fail
  go_loopw [3] (fun x wr => ∃ (l : Bool) (a0 b0 : Option Addr) (n0 c0 m0 d0 : Nat) (t' : T), x = x ∧ Hid (Bk wr w.heap.size 74 [.bool l, .slice a0 n0 c0, .slice b0 m0 d0]) ∧ Hid (Sub wr (fun y => y < w.heap.size) l (.slice a0 n0 c0) (.slice b0 m0 d0) t') ∧ Hid (strip1 t' = T0) ∧ Hid (Bk wr (w.heap.size + 1) 25 [.slice none 0 0]) ∧ Hid (Below w.heap.size w wr)) (fun _ wr => kidsN wr ⟨w.heap.size, 2, none⟩)
  case atStart => exact ⟨lf, ap, ak, np, cp, nk, ck, t, rfl, K0.out, H0.out.kept HB0.out, HT.out, KR.out, HB0.out⟩
  case round =>
    obtain ⟨l, a0, b0, n0, c0, m0, d0, t', -, HK, HSB, HE, HR, HB⟩ := hrel
    obtain ⟨_, _, _, _, _, _, e1, e2, HN0, HM0, -, -, hl, -⟩ := HSB.out.shape
    cases e1
    cases e2
    have q0 := HK.out.cell (j := 0) rfl
    have q1 := HK.out.cell (j := 1) rfl
    have q2 := HK.out.cell (j := 2) rfl
    have f0 := HK.out.free 0
    have f1 := HK.out.free 1
    have f2 := HK.out.free 2
    by_cases hm : m0 = 1
    · have hl' : l = false := by rw [hl, hm]; rfl
      subst hm
      subst hl'
      obtain ⟨g, off, hab, hg1, hg2, hkid⟩ := HSB.out.kids (by omega)
      subst hab
      obtain ⟨l9, ap9, np9, cp9, ak9, nk9, ck9, x0, x1, x2, hs9⟩ := hkid 0 (by omega)
      simp only [Nat.zero_mul, Nat.add_zero] at x0 x1 x2
      have hE : tAt t'.ks 0 = T0 := by
        have := HE.out
        rwa [strip1, if_pos HM0.out.symm] at this
      have HN9 : Hid (nk9 ≠ 1) := by
        obtain ⟨_, _, _, _, _, _, _, e2, -, h5, -⟩ := hs9.shape
        cases e2
        rw [hE] at h5
        show _ ≠ _
        rw [h5.out]; exact HS.out
      rw [hE] at hs9
      have hon : Only (fun y => y = w.heap.size) wr (((wr.setCell ⟨w.heap.size, 0, none⟩ (.bool l9)).setCell ⟨w.heap.size, 1, none⟩ (.slice ap9 np9 cp9)).setCell ⟨w.heap.size, 2, none⟩ (.slice ak9 nk9 ck9)) := ((only_set (R := fun y => y = w.heap.size) rfl _).trans (only_set (R := fun y => y = w.heap.size) rfl _)).trans (only_set (R := fun y => y = w.heap.size) rfl _)
      have HK2 := hid (((HK.out.set 0 (.bool l9)).set 1 (.slice ap9 np9 cp9)).set 2 (.slice ak9 nk9 ck9))
      have HS2 := hid (hs9.to hon (fun y hy _ e => by omega))
      have HR2 := hid (HR.out.to hon (by omega))
      have HB2 : Hid (Below w.heap.size w (((wr.setCell ⟨w.heap.size, 0, none⟩ (.bool l9)).setCell ⟨w.heap.size, 1, none⟩ (.slice ap9 np9 cp9)).setCell ⟨w.heap.size, 2, none⟩ (.slice ak9 nk9 ck9))) := HB.out.trans (hon.below HB.out.size (fun b hb e => by omega))
      have HM1 : Hid (kidsN wr ⟨w.heap.size, 2, none⟩ = 1) := by show _ = _; rw [kidsN, q2]; simp
      have HM2 : Hid (kidsN (((wr.setCell ⟨w.heap.size, 0, none⟩ (.bool l9)).setCell ⟨w.heap.size, 1, none⟩ (.slice ap9 np9 cp9)).setCell ⟨w.heap.size, 2, none⟩ (.slice ak9 nk9 ck9)) ⟨w.heap.size, 2, none⟩ = 0) := by
        show _ = _
        rw [kidsN, HK2.out.cell (j := 2) rfl]
        simp [HN9.out]
      clear hkid hs9 hon hg1 hg2 hl hE
      go_wp2
      go_roundw
      case rel => exact ⟨l9, ap9, ak9, np9, cp9, nk9, ck9, T0, trivial, HK2.out, HS2.out, strip1_id HS.out, HR2.out, HB2.out⟩
      case measure => rw [HM2.out, HM1.out]; omega
    · have hE : t' = T0 := by
        have := HE.out
        rwa [strip1, if_neg (by rw [← HM0.out]; exact hm)] at this
      subst hE
      have hm' : ¬ (m0 : Int) = 1 := by omega
      have r0 := HR.out.cell (j := 0) rfl
      have rf := HR.out.free 0
      by_cases hm0 : m0 = 0
      · have hl' : l = true := by rw [hl, hm0]; rfl
        subst hm0 hl'
        clear hl
        by_cases hn0 : n0 = 0
        · subst hn0
          have HBA : Hid (layT t' = []) := by
            show _ = _
            rw [layT, if_pos]
            exact decide_eq_true (by have h1 := HN0.out; have h2 := HM0.out; omega)
          have HFB : Hid (Below w.heap.size w (wr.setCell ⟨w.heap.size + 1, 0, none⟩ (.slice none 0 0))) := ⟨HB.out.os, HB.out.tape, HB.out.output, by simp [World.setCell]; exact HB.out.size, fun i hi => (Below.heap_setCell _ _ _ _ (show i ≠ w.heap.size + 1 by omega)).trans (HB.out.block i hi)⟩
          have d1 := (HR.out.set 0 (.slice none 0 0)).cell (j := 0) rfl
          go_wp2
          refine bodyPost_ret (v := .agg #[.slice none 0 0]) ?_ rfl ?_
          · refine results_tree1 rfl _ _ _ rfl ?_
            exact d1
          · rw [HBA.out]; exact ⟨_, _, _, rfl, NewK.nil _ _, HFB.out⟩
        · have hn1 : ¬ (n0 : Int) = 0 := by omega
          have HFU : Hid (t'.full true = true) := by
            rcases HF.out with h | h
            · exact h
            · exfalso
              have h1 := HN0.out
              have h2 := HM0.out
              rw [h] at h1 h2
              simp [bareT, T.ps, T.ks] at h1 h2
              omega
          have HBA : Hid (layT t' = lay 0 t') := by
            show _ = _
            rw [layT, if_neg]
            rw [show t'.bare = false from decide_eq_false (by have h1 := HN0.out; have h2 := HM0.out; omega)]; simp
          go_wp2_with fail
          refine (specLay_any t' (fun y => y < w.heap.size) true a0 b0 n0 c0 0 d0 wr (fun _ => False) none 0 0 [] true HSB.out (fun y _ => by simp [Value.ownBlock]) (no_nil wr) (by have := HZ.out; simpa using this) HFU.out).mono ?_
          rintro e w2 ⟨v2, rfl, hN2, ho2, hv2⟩
          have hb2 : Below wr.heap.size wr w2 := ho2.below (Nat.le_refl _) (fun b _ h => by cases h)
          obtain ⟨a2, n2, c2, e2, -⟩ := hN2.shape
          subst e2
          simp only [List.nil_append, List.length_nil] at hN2
          have HR2 := hid (HR.out.below hb2)
          have HB2 := hid (Below.then' HB.out hb2 (Nat.le_refl _))
          have hwr : w.heap.size + 1 < wr.heap.size := HR.out.lt
          have HFB : Hid (Below w.heap.size w (w2.setCell ⟨w.heap.size + 1, 0, none⟩ (.slice a2 n2 c2))) := ⟨HB2.out.os, HB2.out.tape, HB2.out.output, by simp [World.setCell]; exact HB2.out.size, fun i hi => (Below.heap_setCell _ _ _ _ (show i ≠ w.heap.size + 1 by omega)).trans (HB2.out.block i hi)⟩
          have HNN : Hid (NewK w (w2.setCell ⟨w.heap.size + 1, 0, none⟩ (.slice a2 n2 c2)) (.slice a2 n2 c2) (layT t')) := by
            show NewK _ _ _ _
            rw [HBA.out]
            have hzz : (w2.setCell ⟨w.heap.size + 1, 0, none⟩ (.slice a2 n2 c2)).heap.size = w2.heap.size := by simp [World.setCell]
            have hlt := hN2.lt
            obtain ⟨V, n1, n2', n3, n4, n5⟩ := hN2
            have hn : NrK w2 (fun y => wr.heap.size ≤ y) (.slice a2 n2 c2) (lay 0 t') := by
              refine ⟨V, n1, ⟨n2', fun y hy => ?_⟩, fun i hi => (n3 i hi).mono (fun y hy _ => ?_), n5, fun i hi y hy => (n4 y ((n3 i hi).2.2.2 y hy)).2⟩
              · rcases hv2 y hy with h | h
                · cases h
                · exact h
              · rcases hy with h | h
                · exact h.elim
                · exact h.1
            refine (hn.to (only_set (R := fun y => y = w.heap.size + 1) rfl _) (fun y hy _ e => by omega)).mono (fun y hy hl => ⟨by omega, hl⟩)
          have e0 := HR2.out.cell (j := 0) rfl
          have e1 := HR2.out.free 0
          have d1 := (HR2.out.set 0 (.slice a2 n2 c2)).cell (j := 0) rfl
          clear hN2 ho2 hv2 hb2 r0 rf
          go_wp2
          refine bodyPost_ret (v := .agg #[.slice a2 n2 c2]) ?_ rfl ?_
          · refine results_tree1 rfl _ _ _ rfl ?_
            exact d1
          · exact ⟨_, _, _, rfl, HNN.out, HFB.out⟩
      · have hl' : l = false := by rw [hl]; exact decide_eq_false hm0
        subst hl'
        clear hl
        have HFU : Hid (t'.full true = true) := by
          rcases HF.out with h | h
          · exact h
          · exfalso
            have h1 := HN0.out
            have h2 := HM0.out
            rw [h] at h1 h2
            simp [bareT, T.ps, T.ks] at h1 h2
            omega
        have HBA : Hid (layT t' = lay 0 t') := by
          show _ = _
          rw [layT, if_neg]
          rw [show t'.bare = false from decide_eq_false (by have h1 := HN0.out; have h2 := HM0.out; omega)]; simp
        go_wp2_with fail
        refine (specLay_any t' (fun y => y < w.heap.size) false a0 b0 n0 c0 m0 d0 wr (fun _ => False) none 0 0 [] true HSB.out (fun y _ => by simp [Value.ownBlock]) (no_nil wr) (by have := HZ.out; simpa using this) HFU.out).mono ?_
        rintro e w2 ⟨v2, rfl, hN2, ho2, hv2⟩
        have hb2 : Below wr.heap.size wr w2 := ho2.below (Nat.le_refl _) (fun b _ h => by cases h)
        obtain ⟨a2, n2, c2, e2, -⟩ := hN2.shape
        subst e2
        simp only [List.nil_append, List.length_nil] at hN2
        have HR2 := hid (HR.out.below hb2)
        have HB2 := hid (Below.then' HB.out hb2 (Nat.le_refl _))
        have hwr : w.heap.size + 1 < wr.heap.size := HR.out.lt
        have HFB : Hid (Below w.heap.size w (w2.setCell ⟨w.heap.size + 1, 0, none⟩ (.slice a2 n2 c2))) := ⟨HB2.out.os, HB2.out.tape, HB2.out.output, by simp [World.setCell]; exact HB2.out.size, fun i hi => (Below.heap_setCell _ _ _ _ (show i ≠ w.heap.size + 1 by omega)).trans (HB2.out.block i hi)⟩
        have HNN : Hid (NewK w (w2.setCell ⟨w.heap.size + 1, 0, none⟩ (.slice a2 n2 c2)) (.slice a2 n2 c2) (layT t')) := by
          show NewK _ _ _ _
          rw [HBA.out]
          have hzz : (w2.setCell ⟨w.heap.size + 1, 0, none⟩ (.slice a2 n2 c2)).heap.size = w2.heap.size := by simp [World.setCell]
          have hlt := hN2.lt
          obtain ⟨V, n1, n2', n3, n4, n5⟩ := hN2
          have hn : NrK w2 (fun y => wr.heap.size ≤ y) (.slice a2 n2 c2) (lay 0 t') := by
            refine ⟨V, n1, ⟨n2', fun y hy => ?_⟩, fun i hi => (n3 i hi).mono (fun y hy _ => ?_), n5, fun i hi y hy => (n4 y ((n3 i hi).2.2.2 y hy)).2⟩
            · rcases hv2 y hy with h | h
              · cases h
              · exact h
            · rcases hy with h | h
              · exact h.elim
              · exact h.1
          refine (hn.to (only_set (R := fun y => y = w.heap.size + 1) rfl _) (fun y hy _ e => by omega)).mono (fun y hy hl => ⟨by omega, hl⟩)
        have e0 := HR2.out.cell (j := 0) rfl
        have e1 := HR2.out.free 0
        have d1 := (HR2.out.set 0 (.slice a2 n2 c2)).cell (j := 0) rfl
        clear hN2 ho2 hv2 hb2 r0 rf
        go_wp2
        refine bodyPost_ret (v := .agg #[.slice a2 n2 c2]) ?_ rfl ?_
        · refine results_tree1 rfl _ _ _ rfl ?_
          exact d1
        · exact ⟨_, _, _, rfl, HNN.out, HFB.out⟩
theorem strip1_two (x : T × T) : strip1 (.mk [] (two x)) = rootT x := by
  unfold strip1 rootT two
  cases h : x.2.bare with
  | true => simp [T.ks, tAt]
  | false => simp [T.ks]
theorem two_all (x : T × T) : (T.mk [] (two x)).all = (rootT x).all := by
  have : (T.mk [] (two x)).all = allL (two x) := by simp [T.all]
  rw [this]
  unfold rootT two
  cases h : x.2.bare with
  | true => simp [allL]
  | false => simp [allL, T.all]
theorem full_ks1 {t : T} {r : Bool} (h : t.full r = true) : t.ks.length ≠ 1 := by
  obtain ⟨ps, ks⟩ := t
  simp only [T.ks]
  by_cases hk : ks = []
  · subst hk; simp
  · obtain ⟨h1, _⟩ := full_br h hk; omega
def STPost (o : Option (List NB)) (w : World) (e : Ending) (w' : World) : Prop := ∃ a n c, e = .returned (.tuple #[.agg #[.slice a n c], .bool o.isSome]) ∧ NewK w w' (.slice a n c) (o.getD []) ∧ Below w.heap.size w w'
set_option maxHeartbeats 2000000 in
set_option maxRecDepth 20000 in
theorem specTreePut_any (ns : List NB) (hlen : ns.length ≤ 1048576) (hsm : smallN ns) (S : Nat → Prop) (an : Option Addr) (nn cn : Nat) (k v : ByteArray) (w : World) (hN : Nr w S (.slice an nn cn) ns) :
    Calls Try.prog 8 #[.agg #[.slice an nn cn], .string k, .string v] w fun e w' => STPost (putV ns k v) w e w' := by
  have h1 := hN.len.2.1
  have h2 := hN.len.2.2
  have HB0 : Hid (Below w.heap.size w ((w.alloc (.cells #[.slice an nn cn] 25)).alloc (.cells #[.slice none 0 0] 25))) := below_new (below_new (Below.refl _ _))
  have K0 : Hid (Bk ((w.alloc (.cells #[.slice an nn cn] 25)).alloc (.cells #[.slice none 0 0] 25)) (w.heap.size + 1) 25 [.slice none 0 0]) := by
    have := Bk.new (w.alloc (.cells #[.slice an nn cn] 25)) 25 [.slice none 0 0]
    show Bk _ _ _ _
    simpa using this
  have KA : Hid (Bk ((w.alloc (.cells #[.slice an nn cn] 25)).alloc (.cells #[.slice none 0 0] 25)) w.heap.size 25 [.slice an nn cn]) := (Bk.new w 25 [.slice an nn cn]).alloc _
  have a0 := KA.out.cell (j := 0) rfl
  have H0 := hid (hN.below HB0.out)
  have HLS := hid (And.intro hlen hsm)
  clear hN hlen hsm
  go_enter Try.func8, Try.ntmps8
  go_wp2_with fail
  refine (specTreeOk_any ns HLS.out.1 HLS.out.2 S an nn cn _ H0.out).mono ?_
  generalize (w.alloc (.cells #[.slice an nn cn] 25)).alloc (.cells #[.slice none 0 0] 25) = U at *
  rintro e w1 ⟨rfl, hb⟩
  have HB1 := hid (HB0.out.trans (hb.mono HB0.out.size))
  have K1 := hid (K0.out.below hb)
  have KA1 := hid (KA.out.below hb)
  have H1 := hid (H0.out.below hb)
  clear hb HB0 K0 H0 KA a0
  have HNO : Hid (∀ (X : World) (u : Value), Below w.heap.size w X → Below w.heap.size w (X.setCell ⟨w.heap.size + 1, 0, none⟩ u)) := fun X u hb => ⟨hb.os, hb.tape, hb.output, by simp [World.setCell]; exact hb.size, fun i hi => (Below.heap_setCell _ _ _ _ (show i ≠ w.heap.size + 1 by omega)).trans (hb.block i hi)⟩
  rw [spOk_eq]
  have c0 := K1.out.cell (j := 0) rfl
  have f0 := K1.out.free 0
  have d0 := (K1.out.set 0 (.slice none 0 0)).cell (j := 0) rfl
  cases hr : okT ns with
  | none =>
    have HR : Hid (putV ns k v = none) := by show _ = _; rw [putV, hr]
    clear hr
    go_wp2
    refine bodyPost_ret (v := .tuple #[.agg #[.slice none 0 0], .bool false]) ?_ rfl ?_
    · refine results_tree2 rfl _ _ _ rfl rfl ?_
      exact d0
    · rw [HR.out]; exact ⟨_, _, _, rfl, NewK.nil _ _, HNO.out _ _ HB1.out⟩
  | some t =>
    have HR : Hid (putV ns k v = if kOk k = true ∧ vOk v = true then (if 200 < (rootT (putF t.lv t (k, v))).all.length then none else some (layT (rootT (putF t.lv t (k, v))))) else none) := by show _ = _; rw [putV, hr]
    cases hk : kOk k with
    | false =>
      have HR2 : Hid (putV ns k v = none) := by show _ = _; rw [HR.out, hk]; simp
      have HKO := hid (specKeyOk_is k false hk)
      clear hk HR hr
      go_wp2_with fail
      refine (HKO.out w1).mono ?_
      rintro e w2 ⟨rfl, rfl⟩
      go_wp2
      refine bodyPost_ret (v := .tuple #[.agg #[.slice none 0 0], .bool false]) ?_ rfl ?_
      · refine results_tree2 rfl _ _ _ rfl rfl ?_
        exact d0
      · rw [HR2.out]; exact ⟨_, _, _, rfl, NewK.nil _ _, HNO.out _ _ HB1.out⟩
    | true =>
      have HKO := hid (specKeyOk_is k true hk)
      cases hv : vOk v with
      | false =>
        have HR2 : Hid (putV ns k v = none) := by show _ = _; rw [HR.out, hv]; simp
        have HVO := hid (specValOk_any v)
        rw [hv] at HVO
        clear hk hv HR hr
        go_wp2_with fail
        refine (HKO.out w1).mono ?_
        rintro e w2 ⟨rfl, rfl⟩
        go_wp2_with fail
        refine (HVO.out w2).mono ?_
        rintro e w3 ⟨rfl, rfl⟩
        go_wp2
        refine bodyPost_ret (v := .tuple #[.agg #[.slice none 0 0], .bool false]) ?_ rfl ?_
        · refine results_tree2 rfl _ _ _ rfl rfl ?_
          exact d0
        · rw [HR2.out]; exact ⟨_, _, _, rfl, NewK.nil _ _, HNO.out _ _ HB1.out⟩
      | true =>
        have HR2 : Hid (putV ns k v = if 200 < (rootT (putF t.lv t (k, v))).all.length then none else some (layT (rootT (putF t.lv t (k, v))))) := by show _ = _; rw [HR.out, hk, hv]; simp
        have HVO := hid (specValOk_any v)
        rw [hv] at HVO
        have HOK := hid (okT_facts hr)
        have HG := hid (okT_putIn hr)
        have HRO := hid (rootT_ok hr (k, v))
        have HSZ := hid (putV_size hr (k, v))
        have HPS : Hid (putS t.lv t (k, v) = two (putF t.lv t (k, v))) := putS_eq t.lv true t (k, v) HG.out
        clear hk hv HR hr
        have g0 := KA1.out.cell (j := 0) rfl
        go_wp2_with fail
        refine (HKO.out w1).mono ?_
        rintro e w2 ⟨rfl, rfl⟩
        go_wp2_with fail
        refine (HVO.out w2).mono ?_
        rintro e w3 ⟨rfl, rfl⟩
        clear HKO HVO c0 f0 d0
        go_wp2_with fail
        refine (specRoot_any ns HLS.out.1 HLS.out.2 S an nn cn w2 H1.out).mono ?_
        rintro e w3 ⟨hpost, hb⟩
        rw [HOK.out.root] at hpost
        obtain ⟨lf, ap, np, cp, ak, nk, ck, rfl, hs⟩ := hpost
        have HS3 := hid hs
        have HB3 := hid (Below.then' HB1.out hb (Nat.le_refl _))
        have K3 := hid (K1.out.below hb)
        clear hs hb K1 KA1 g0 HB1 H1
        have HB4 := hid (below_new (o := .cells #[.bool lf, .slice ap np cp, .slice ak nk ck] 74) (w := w3) (Below.refl _ _))
        have KS := hid (Bk.new w3 74 [.bool lf, .slice ap np cp, .slice ak nk ck])
        have k0 := KS.out.cell (j := 0) rfl
        have k1 := KS.out.cell (j := 1) rfl
        have k2 := KS.out.cell (j := 2) rfl
        go_wp2_with fail
        refine (specPut_any t.lv true _ lf ap ak np cp nk ck t k v _ (HS3.out.kept HB4.out) HG.out).mono ?_
        rintro e w5 ⟨v5, rfl, hR5, hb5⟩
        rw [HPS.out] at hR5
        obtain ⟨a5, n5, c5, e5, -⟩ := hR5.shape
        subst e5
        have HR5 : Hid (SubR w5 (fun _ => True) (.slice a5 n5 c5) (two (putF t.lv t (k, v)))) := hR5.mono (fun _ _ _ => trivial)
        have HB5 := hid (Below.then' (Below.then' HB3.out HB4.out (Nat.le_refl _)) hb5 (Nat.le_refl _))
        have K5 := hid ((K3.out.below HB4.out).below hb5)
        clear hR5 hb5 k0 k1 k2 KS HB4 HB3 K3 HS3
        generalize putF t.lv t (k, v) = rr at *
        have HST := hid (strip1_two rr)
        have HAL := hid (two_all rr)
        have HNE : Hid (two rr ≠ []) := fun e => by have := (two_len rr).1; rw [e] at this; simp at this
        have HB6 := hid (below_new (o := .cells #[.bool false, .slice none 0 0, .slice a5 n5 c5] 74) (w := w5) (Below.refl _ _))
        have KS := hid (Bk.new w5 74 [.bool false, .slice none 0 0, .slice a5 n5 c5])
        have HS6 := hid ((HR5.out.kept HB6.out).sub HNE.out)
        have HBW := hid (Below.then' HB5.out HB6.out (Nat.le_refl _))
        have K6 := hid (K5.out.below HB6.out)
        have k0 := KS.out.cell (j := 0) rfl
        have k1 := KS.out.cell (j := 1) rfl
        have k2 := KS.out.cell (j := 2) rfl
        go_wp2_with fail
        refine (specPairs_any (.mk [] (two rr)) _ false none a5 0 0 n5 c5 _ HS6.out (by rw [HAL.out]; have := HSZ.out.1; omega)).mono ?_
        generalize w5.alloc (.cells #[.bool false, .slice none 0 0, .slice a5 n5 c5] 74) = X at *
        rintro e w7 ⟨v7, rfl, hO, hb⟩
        rw [HAL.out] at hO
        obtain ⟨a7, n7, c7, e7, hn7⟩ := hO.shape'
        subst e7
        have HN7 := hid hn7.out
        have hn5 : n7 ≤ 201 := by have := HN7.out; have := HSZ.out.1; omega
        have HB7 := hid (Below.then' HBW.out hb (Nat.le_refl _))
        have K7 := hid (K6.out.below hb)
        have KS7 := hid (KS.out.below hb)
        have HS7 := hid (HS6.out.kept hb)
        clear hO hb hn7 k0 k1 k2 KS K6 HS6 HBW HB6 HB5 K5 HR5
        have c0 := K7.out.cell (j := 0) rfl
        have f0 := K7.out.free 0
        have d0 := (K7.out.set 0 (.slice none 0 0)).cell (j := 0) rfl
        have k0 := KS7.out.cell (j := 0) rfl
        have k1 := KS7.out.cell (j := 1) rfl
        have k2 := KS7.out.cell (j := 2) rfl
        by_cases hlen : 200 < n7
        · have hlen' : (200 : Int) < (n7 : Int) := by omega
          have HR3 : Hid (putV ns k v = none) := by
            show _ = _
            rw [HR2.out, if_pos]
            have := HN7.out; omega
          go_wp2
          refine bodyPost_ret (v := .tuple #[.agg #[.slice none 0 0], .bool false]) ?_ rfl ?_
          · refine results_tree2 rfl _ _ _ rfl rfl ?_
            exact d0
          · rw [HR3.out]; exact ⟨_, _, _, rfl, NewK.nil _ _, HNO.out _ _ HB7.out⟩
        · have hlen' : ¬ (200 : Int) < (n7 : Int) := by omega
          have HR3 : Hid (putV ns k v = some (layT (rootT rr))) := by
            show _ = _
            rw [HR2.out, if_neg]
            have := HN7.out; omega
          clear d0
          go_wp2_with fail
          refine (specTree_any _ false none a5 0 0 n5 c5 (.mk [] (two rr)) w7 HS7.out (by rw [HST.out]; exact full_ks1 HRO.out.1) (by rw [HST.out]; exact .inl HRO.out.1) (by rw [HST.out]; have := HSZ.out.2.1; omega)).mono ?_
          rintro e w8 ⟨a8, n8, c8, rfl, hN8, hb8⟩
          rw [HST.out] at hN8
          have K8 := hid (K7.out.below hb8)
          have HB8 := hid (Below.then' HB7.out hb8 (Nat.le_refl _))
          have hwx : w.heap.size + 1 < w7.heap.size := K7.out.lt
          have HNN : Hid (NewK w (w8.setCell ⟨w.heap.size + 1, 0, none⟩ (.slice a8 n8 c8)) (.slice a8 n8 c8) (layT (rootT rr))) := (NrK.to hN8 (only_set (R := fun y => y = w.heap.size + 1) rfl _) (fun y hy _ e => by have := hy.1; omega)).mono (fun y hy hl => ⟨by have := hy.1; omega, hl⟩)
          have e0 := K8.out.cell (j := 0) rfl
          have e1 := K8.out.free 0
          have d1 := (K8.out.set 0 (.slice a8 n8 c8)).cell (j := 0) rfl
          clear hN8 hb8 c0 f0
          go_wp2
          refine bodyPost_ret (v := .tuple #[.agg #[.slice a8 n8 c8], .bool true]) ?_ rfl ?_
          · refine results_tree2 rfl _ _ _ rfl rfl ?_
            exact d1
          · rw [HR3.out]; exact ⟨_, _, _, rfl, HNN.out, HNO.out _ _ HB8.out⟩
theorem layT_small {t : T} (h : t.full true = true ∨ t = bareT) (hz : t.size ≤ 1000) : smallK (layT t) ∧ (layT t).length ≤ 100000 := by
  unfold layT
  split
  · exact ⟨fun i hi => by simp at hi, by simp⟩
  · rename_i hb
    rcases h with h | h
    · exact ⟨smallK_of (lay_small t true 0 h), by rw [lay_length]; omega⟩
    · rw [h] at hb; exact absurd rfl hb
theorem putV_small (ns : List NB) (k v : ByteArray) : smallK ((putV ns k v).getD []) ∧ ((putV ns k v).getD []).length ≤ 100000 := by
  have h0 : smallK (([] : List NB)) ∧ ([] : List NB).length ≤ 100000 := ⟨fun i hi => by simp at hi, by simp⟩
  unfold putV
  split
  · exact h0
  · rename_i t h
    split
    · split
      · exact h0
      · exact layT_small (.inl (rootT_ok h (k, v)).1) (by have := (putV_size h (k, v)).2.1; omega)
    · exact h0
end Go.Proofs.Ytkflneeifllpgaa
/-
  Nodes and trees held against each other.
-/
namespace Go.Proofs.Ytkflneeifllpgaa
open Go.RowKit
set_option maxHeartbeats 2000000 in
theorem eqNode_any (S S' : Nat → Prop) (ap ax ai ap' ax' ai' : Option Addr) (np cp nx cx ni ci np' cp' nx' cx' ni' ci' : Nat) (x y : NB) (w : World)
    (hP : Pr w S (.slice ap np cp) x.ps) (hS : Sr w S (.slice ax nx cx) x.keys) (hI : Ir w S (.slice ai ni ci) x.kids) (hP' : Pr w S' (.slice ap' np' cp') y.ps) (hS' : Sr w S' (.slice ax' nx' cx') y.keys) (hI' : Ir w S' (.slice ai' ni' ci') y.kids) :
    Calls Try.prog 92 #[.agg #[.slice ap np cp, .slice ax nx cx, .slice ai ni ci], .agg #[.slice ap' np' cp', .slice ax' nx' cx', .slice ai' ni' ci']] w fun e w' => e = .returned (.bool (decide (x = y))) ∧ Below w.heap.size w w' := by
  have HP := hid hP
  have HS := hid hS
  have HI := hid hI
  have HP' := hid hP'
  have HS' := hid hS'
  have HI' := hid hI'
  clear hP hS hI hP' hS' hI'
  have HB0 : Hid (Below w.heap.size w ((w.alloc (.cells #[.slice ap np cp, .slice ax nx cx, .slice ai ni ci] 106)).alloc (.cells #[.slice ap' np' cp', .slice ax' nx' cx', .slice ai' ni' ci'] 106))) := below_new (below_new (Below.refl _ _))
  have KA : Hid (Bk ((w.alloc (.cells #[.slice ap np cp, .slice ax nx cx, .slice ai ni ci] 106)).alloc (.cells #[.slice ap' np' cp', .slice ax' nx' cx', .slice ai' ni' ci'] 106)) w.heap.size 106 [.slice ap np cp, .slice ax nx cx, .slice ai ni ci]) := (Bk.new w 106 [.slice ap np cp, .slice ax nx cx, .slice ai ni ci]).alloc _
  have KB : Hid (Bk ((w.alloc (.cells #[.slice ap np cp, .slice ax nx cx, .slice ai ni ci] 106)).alloc (.cells #[.slice ap' np' cp', .slice ax' nx' cx', .slice ai' ni' ci'] 106)) (w.heap.size + 1) 106 [.slice ap' np' cp', .slice ax' nx' cx', .slice ai' ni' ci']) := by
    have := Bk.new (w.alloc (.cells #[.slice ap np cp, .slice ax nx cx, .slice ai ni ci] 106)) 106 [.slice ap' np' cp', .slice ax' nx' cx', .slice ai' ni' ci']
    show Bk _ _ _ _
    simpa using this
  go_enter Try.func92, Try.ntmps92
  go_wp2_with fail
  refine (eqPairS_at S S' ap ap' np np' cp cp' x.ps y.ps _ (HP.out.below HB0.out) (HP'.out.below HB0.out)).mono ?_
  generalize (w.alloc (.cells #[.slice ap np cp, .slice ax nx cx, .slice ai ni ci] 106)).alloc (.cells #[.slice ap' np' cp', .slice ax' nx' cx', .slice ai' ni' ci'] 106) = W at *
  rintro e w1 ⟨rfl, hb1⟩
  have HB1 := hid (HB0.out.trans (hb1.mono HB0.out.size))
  have KA1 := hid (KA.out.below hb1)
  have KB1 := hid (KB.out.below hb1)
  clear hb1 HB0 KA KB
  by_cases h1 : x.ps = y.ps
  · rw [decide_eq_true h1]
    have HH1 := hid h1
    clear h1
    have c0 := KA1.out.cell (j := 1) rfl
    have d0 := KB1.out.cell (j := 1) rfl
    go_wp2_with fail
    refine (eqStringS_at S S' ax ax' nx nx' cx cx' x.keys y.keys _ (HS.out.below HB1.out) (HS'.out.below HB1.out)).mono ?_
    rintro e w2 ⟨rfl, hb2⟩
    have HB2 := hid (HB1.out.trans (hb2.mono HB1.out.size))
    have KA2 := hid (KA1.out.below hb2)
    have KB2 := hid (KB1.out.below hb2)
    clear hb2 HB1 KA1 KB1 c0 d0
    by_cases h2 : x.keys = y.keys
    · rw [decide_eq_true h2]
      have HH2 := hid h2
      clear h2
      have c0 := KA2.out.cell (j := 2) rfl
      have d0 := KB2.out.cell (j := 2) rfl
      go_wp2_with fail
      refine (eqIntS_at S S' ai ai' ni ni' ci ci' x.kids y.kids _ (HI.out.below HB2.out) (HI'.out.below HB2.out)).mono ?_
      rintro e w3 ⟨rfl, hb3⟩
      have HB3 := hid (HB2.out.trans (hb3.mono HB2.out.size))
      clear hb3 HB2 KA2 KB2 c0 d0
      by_cases h3 : x.kids = y.kids
      · rw [decide_eq_true h3]
        have HF : Hid (decide (x = y) = true) := by
          show _ = _
          rw [decide_eq_true_eq]
          have e1 := HH1.out
          have e2 := HH2.out
          cases x; cases y; simp_all
        clear h3
        go_wp2
        go_ret
        exact ⟨by rw [HF.out]; rfl, HB3.out⟩
      · rw [decide_eq_false h3]
        have HF : Hid (decide (x = y) = false) := by
          show _ = _
          rw [decide_eq_false_iff_not]
          rintro rfl
          exact h3 rfl
        clear h3
        go_wp2
        go_ret
        exact ⟨by rw [HF.out]; rfl, HB3.out⟩
    · rw [decide_eq_false h2]
      have HF : Hid (decide (x = y) = false) := by
        show _ = _
        rw [decide_eq_false_iff_not]
        rintro rfl
        exact h2 rfl
      clear h2
      go_wp2
      go_ret
      exact ⟨by rw [HF.out]; rfl, HB2.out⟩
  · rw [decide_eq_false h1]
    have HF : Hid (decide (x = y) = false) := by
      show _ = _
      rw [decide_eq_false_iff_not]
      rintro rfl
      exact h1 rfl
    clear h1
    go_wp2
    go_ret
    exact ⟨by rw [HF.out]; rfl, HB1.out⟩
set_option maxHeartbeats 4000000 in
theorem eqNodeS_at (S S' : Nat → Prop) (a a' : Option Addr) (n n' c c' : Nat) (l l' : List NB) (w : World) (h : Nr w S (.slice a n c) l) (h' : Nr w S' (.slice a' n' c') l') :
    Calls Try.prog 49 #[.slice a n c, .slice a' n' c'] w fun e w' => e = .returned (.bool (decide (l = l'))) ∧ Below w.heap.size w w' := by
  obtain ⟨hn, hnc, hcc⟩ := h.len
  obtain ⟨hn', hnc', hcc'⟩ := h'.len
  have HN := hid hn
  have HN' := hid hn'
  have H0 := hid h
  have H0' := hid h'
  clear h h' hn hn'
  by_cases hne : n = n'
  · subst hne
    have hz : ((n : Int) != (n : Int)) = false := by simp
    go_enter Try.func49, Try.ntmps49
    go_wp2
    go_loopw [5] (fun i wr => ∃ k : Nat, k ≤ n ∧ i = .int .i64 k ∧ Hid (Below w.heap.size w wr) ∧ Hid (l.take k = l'.take k)) (fun i _ => n - (intOf i).toNat)
    case atStart => exact ⟨0, Nat.zero_le _, rfl, Below.refl _ _, rfl⟩
    case round =>
      obtain ⟨k, hk, rfl, HB, HT⟩ := hrel
      by_cases hlt : k < n
      · have hlt' : (k : Int) < (n : Int) := by omega
        have HP := hid (H0.out.below HB.out)
        have HP' := hid (H0'.out.below HB.out)
        obtain ⟨b, off, rfl, _, hbw, hcell⟩ := HP.out.at (by omega)
        obtain ⟨b', off', rfl, _, hbw', hcell'⟩ := HP'.out.at (by omega)
        obtain ⟨ap, np, cp, ax, nx, cx, ai, ni, ci, c0, c1, c2, hp, hx, hi⟩ := hcell k hlt
        obtain ⟨ap', np', cp', ax', nx', cx', ai', ni', ci', d0, d1, d2, hp', hx', hi'⟩ := hcell' k hlt
        have HC : Hid (∀ v, Below wr.heap.size wr v → Calls Try.prog 92 #[.agg #[.slice ap np cp, .slice ax nx cx, .slice ai ni ci], .agg #[.slice ap' np' cp', .slice ax' nx' cx', .slice ai' ni' ci']] v fun e w' => e = .returned (.bool (decide (nAt l k = nAt l' k))) ∧ Below v.heap.size v w') := fun v hv =>
          eqNode_any S S' ap ax ai ap' ax' ai' np cp nx cx ni ci np' cp' nx' cx' ni' ci' (nAt l k) (nAt l' k) v (hp.below hv) (hx.below hv) (hi.below hv) (hp'.below hv) (hx'.below hv) (hi'.below hv)
        have HS : Hid (nAt l k = nAt l' k → l.take (k + 1) = l'.take (k + 1)) := by
          intro e
          have hl : k < l.length := by rw [← HN.out]; exact hlt
          have hl' : k < l'.length := by rw [← HN'.out]; exact hlt
          rw [List.take_succ_eq_append_getElem hl, List.take_succ_eq_append_getElem hl', HT.out]
          simp [nAt, hl, hl'] at e
          rw [e]
        have HF : Hid (nAt l k ≠ nAt l' k → decide (l = l') = false) := by
          intro e
          rw [decide_eq_false_iff_not]
          intro e'
          exact e (by rw [e'])
        have T0 := hid (kc0_6 c0 c1 c2 d0 d1 d2)
        clear hcell hcell' hbw hbw' HP HP' HT hp hx hi hp' hx' hi' c0 c1 c2 d0 d1 d2
        generalize nAt l k = cx1 at *
        generalize nAt l' k = cx2 at *
        by_cases he : cx1 = cx2
        · have HS1 := hid (HS.out he)
          rw [decide_eq_true he] at HC
          clear he HS HF
          go_wp2_with fail
          go_region_held3 (fun v => v.cell? ⟨b, off + k * 3, none⟩ = some (.slice ap np cp) ∧ v.cell? ⟨b, off + k * 3 + 1, none⟩ = some (.slice ax nx cx) ∧ v.cell? ⟨b, off + k * 3 + 2, none⟩ = some (.slice ai ni ci) ∧ v.cell? ⟨b', off' + k * 3, none⟩ = some (.slice ap' np' cp') ∧ v.cell? ⟨b', off' + k * 3 + 1, none⟩ = some (.slice ax' nx' cx') ∧ v.cell? ⟨b', off' + k * 3 + 2, none⟩ = some (.slice ai' ni' ci') ∧ KC wr v [(⟨b, off + k * 3, none⟩, .slice ap np cp), (⟨b, off + k * 3 + 1, none⟩, .slice ax nx cx), (⟨b, off + k * 3 + 2, none⟩, .slice ai ni ci), (⟨b', off' + k * 3, none⟩, .slice ap' np' cp'), (⟨b', off' + k * 3 + 1, none⟩, .slice ax' nx' cx'), (⟨b', off' + k * 3 + 2, none⟩, .slice ai' ni' ci')])
            (first | assumption | exact kc6 (T0.out.call (below_drew _)) | exact kc6c hbC (by assumption))
            (first | (go_at_call 92; refine (HC.out _ (KC.bel (by first | exact (by assumption : _ ∧ _ ∧ _ ∧ _ ∧ _ ∧ _ ∧ _).2.2.2.2.2.2))).mono ?_; rintro e w' ⟨rfl, hbC⟩))
          all_goals (rename_i hS; have HB1 := hid (Below.then' HB.out hS.2.2.2.2.2.2.bel (Nat.le_refl _)); clear hS; go_wp2)
          go_roundw
          case rel => exact ⟨k + 1, by omega, by go_num, HB1.out, HS1.out⟩
          case measure => simp [intOf]; omega
        · have HF1 := hid (HF.out he)
          rw [decide_eq_false he] at HC
          clear he HS HF
          go_wp2_with fail
          go_region_held3 (fun v => v.cell? ⟨b, off + k * 3, none⟩ = some (.slice ap np cp) ∧ v.cell? ⟨b, off + k * 3 + 1, none⟩ = some (.slice ax nx cx) ∧ v.cell? ⟨b, off + k * 3 + 2, none⟩ = some (.slice ai ni ci) ∧ v.cell? ⟨b', off' + k * 3, none⟩ = some (.slice ap' np' cp') ∧ v.cell? ⟨b', off' + k * 3 + 1, none⟩ = some (.slice ax' nx' cx') ∧ v.cell? ⟨b', off' + k * 3 + 2, none⟩ = some (.slice ai' ni' ci') ∧ KC wr v [(⟨b, off + k * 3, none⟩, .slice ap np cp), (⟨b, off + k * 3 + 1, none⟩, .slice ax nx cx), (⟨b, off + k * 3 + 2, none⟩, .slice ai ni ci), (⟨b', off' + k * 3, none⟩, .slice ap' np' cp'), (⟨b', off' + k * 3 + 1, none⟩, .slice ax' nx' cx'), (⟨b', off' + k * 3 + 2, none⟩, .slice ai' ni' ci')])
            (first | assumption | exact kc6 (T0.out.call (below_drew _)) | exact kc6c hbC (by assumption))
            (first | (go_at_call 92; refine (HC.out _ (KC.bel (by first | exact (by assumption : _ ∧ _ ∧ _ ∧ _ ∧ _ ∧ _ ∧ _).2.2.2.2.2.2))).mono ?_; rintro e w' ⟨rfl, hbC⟩))
          all_goals (rename_i hS; have HB1 := hid (Below.then' HB.out hS.2.2.2.2.2.2.bel (Nat.le_refl _)); clear hS; go_wp2)
          go_ret
          exact ⟨by rw [HF1.out]; rfl, HB1.out⟩
      · have HF : Hid (decide (l = l') = true) := by
          show decide (l = l') = true
          have hk' : k = n := by omega
          have e := HT.out
          have e1 : l.length ≤ k := by rw [← HN.out]; omega
          have e2 : l'.length ≤ k := by rw [← HN'.out]; omega
          rw [List.take_of_length_le e1, List.take_of_length_le e2] at e
          simp [e]
        clear HT
        go_wp2
        go_ret
        exact ⟨by rw [HF.out]; rfl, HB.out⟩
  · have hz : ((n : Int) != (n' : Int)) = true := by simp; omega
    have HF : Hid (decide (l = l') = false) := by
      show decide (l = l') = false
      rw [decide_eq_false_iff_not]
      intro e
      exact hne (by rw [HN.out, HN'.out, e])
    clear hne
    go_enter Try.func49, Try.ntmps49
    go_wp2
    go_ret
    exact ⟨by rw [HF.out]; rfl, Below.refl _ _⟩
set_option maxHeartbeats 2000000 in
theorem eqTree_at (S S' : Nat → Prop) (a a' : Option Addr) (n n' c c' : Nat) (l l' : List NB) (w : World) (h : Nr w S (.slice a n c) l) (h' : Nr w S' (.slice a' n' c') l') :
    Calls Try.prog 16 #[.agg #[.slice a n c], .agg #[.slice a' n' c']] w fun e w' => e = .returned (.bool (decide (l = l'))) ∧ Below w.heap.size w w' := by
  have H0 := hid h
  have H0' := hid h'
  clear h h'
  have HB0 : Hid (Below w.heap.size w ((w.alloc (.cells #[.slice a n c] 25)).alloc (.cells #[.slice a' n' c'] 25))) := below_new (below_new (Below.refl _ _))
  go_enter Try.func16, Try.ntmps16
  go_wp2_with fail
  refine (eqNodeS_at S S' a a' n n' c c' l l' _ (H0.out.below HB0.out) (H0'.out.below HB0.out)).mono ?_
  rintro e w1 ⟨rfl, hb1⟩
  have HB1 := hid (HB0.out.trans (hb1.mono HB0.out.size))
  clear hb1 HB0
  by_cases he : l = l'
  · have HE := hid (decide_eq_true he)
    rw [decide_eq_true he]
    clear he
    go_wp2
    go_ret
    exact ⟨by rw [HE.out]; rfl, HB1.out⟩
  · have HE := hid (decide_eq_false he)
    rw [decide_eq_false he]
    clear he
    go_wp2
    go_ret
    exact ⟨by rw [HE.out]; rfl, HB1.out⟩
end Go.Proofs.Ytkflneeifllpgaa
/-
  Nodes and trees in the law's helpers: sizes summed, held against each other.
-/
namespace Go.Proofs.Ytkflneeifllpgaa
open Go.RowKit

def szOkN (ns : List NB) : Prop := ∀ i, i < ns.length → szOkP (nAt ns i).ps ∧ szOkS (nAt ns i).keys
set_option maxHeartbeats 2000000 in
theorem szNode_any (S : Nat → Prop) (ap ax ai : Option Addr) (np cp nx cx ni ci : Nat) (x : NB) (left : Int) (w : World) (hP : Pr w S (.slice ap np cp) x.ps) (hS : Sr w S (.slice ax nx cx) x.keys) (hI : Ir w S (.slice ai ni ci) x.kids)
    (z0 : szOkP x.ps) (z1 : szOkS x.keys) (h0 : 0 ≤ left) (h1 : left ≤ 1048576) :
    Calls Try.prog 90 #[.agg #[.slice ap np cp, .slice ax nx cx, .slice ai ni ci], .int .i64 left] w fun e w' => (∃ y : Int, e = .returned (.int .i64 y) ∧ y ≤ left ∧ -1 ≤ y ∧ (0 ≤ y → np ≤ 1048576 ∧ nx ≤ 1048576 ∧ ni ≤ 1048576)) ∧ Below w.heap.size w w' := by
  have hnc := (Rw.len hI).2.1
  have hcc := (Rw.len hI).2.2
  have HP := hid hP
  have HS := hid hS
  have HZ0 := hid z0
  have HZ1 := hid z1
  clear hP hS hI z0 z1
  have HB0 : Hid (Below w.heap.size w (w.alloc (.cells #[.slice ap np cp, .slice ax nx cx, .slice ai ni ci] 134))) := below_new (Below.refl _ _)
  have KP : Hid (Bk (w.alloc (.cells #[.slice ap np cp, .slice ax nx cx, .slice ai ni ci] 134)) w.heap.size 134 [.slice ap np cp, .slice ax nx cx, .slice ai ni ci]) := Bk.new w 134 [.slice ap np cp, .slice ax nx cx, .slice ai ni ci]
  go_enter Try.func90, Try.ntmps90
  go_wp2_with fail
  refine (szPairS_at S ap np cp x.ps left _ (HP.out.below HB0.out) HZ0.out h0 h1).mono ?_
  generalize w.alloc (.cells #[.slice ap np cp, .slice ax nx cx, .slice ai ni ci] 134) = W at *
  rintro e w1 ⟨⟨y, rfl, hy1, hy2, hy3⟩, hb1⟩
  have HB1 := hid (HB0.out.trans (hb1.mono HB0.out.size))
  have KP1 := hid (KP.out.below hb1)
  have HY := hid hy3
  clear hb1 KP HB0 hy3
  by_cases hneg : y < 0
  · go_wp2
    go_ret
    exact ⟨⟨_, rfl, by omega, by omega, fun h => by omega⟩, HB1.out⟩
  · have c1 := KP1.out.cell (j := 1) rfl
    go_wp2_with fail
    refine (szStringS_at S ax nx cx x.keys y _ (HS.out.below HB1.out) HZ1.out (by omega) (by omega)).mono ?_
    rintro e w2 ⟨⟨z, rfl, hz1, hz2, hz3⟩, hb2⟩
    have HB2 := hid (HB1.out.trans (hb2.mono HB1.out.size))
    have KP2 := hid (KP1.out.below hb2)
    have HZ := hid hz3
    clear hb2 KP1 HB1 hz3 c1
    by_cases hneg2 : z < 0
    · go_wp2
      go_ret
      exact ⟨⟨_, rfl, by omega, by omega, fun h => by omega⟩, HB2.out⟩
    · have c2 := KP2.out.cell (j := 2) rfl
      go_wp2_with fail
      refine (szIntS_at ai ni ci z _ (by omega) (by omega) (by omega)).mono ?_
      rintro e w3 ⟨⟨v, rfl, hv1, hv2, hv3⟩, hb3⟩
      have HB3 := hid (HB2.out.trans (hb3.mono HB2.out.size))
      have HV := hid hv3
      clear hb3 KP2 HB2 hv3 c2
      by_cases hneg3 : v < 0
      · go_wp2
        go_ret
        exact ⟨⟨_, rfl, by omega, by omega, fun h => by omega⟩, HB3.out⟩
      · go_wp2
        go_ret
        exact ⟨⟨_, rfl, by omega, by omega, fun _ => ⟨HY.out (by omega), HZ.out (by omega), HV.out (by omega)⟩⟩, HB3.out⟩
set_option maxHeartbeats 2000000 in
theorem szNodeS_at (S : Nat → Prop) (a : Option Addr) (n c : Nat) (ns : List NB) (w : World) (h : Nr w S (.slice a n c) ns) (hsz : szOkN ns) :
    Calls Try.prog 47 #[.slice a n c, .int .i64 1048576] w fun e w' => (∃ x : Int, e = .returned (.int .i64 x) ∧ x ≤ 1048576 ∧ -1 ≤ x ∧ (0 ≤ x → n ≤ 1048576 ∧ smallN ns)) ∧ Below w.heap.size w w' := by
  obtain ⟨hn, hnc, hcc⟩ := h.len
  have HN := hid hn
  have H0 := hid h
  have HZ := hid hsz
  clear h hsz hn
  by_cases hbig : (1048576 : Int) - (n : Int) < 0
  · go_enter Try.func47, Try.ntmps47
    go_wp2
    go_ret
    exact ⟨⟨_, rfl, by omega, by omega, fun h => by omega⟩, Below.refl _ _⟩
  · have hn2 : n ≤ 1048576 := by omega
    go_enter Try.func47, Try.ntmps47
    go_wp2
    go_loopw [1, 5] (fun x i wr => ∃ (k : Nat) (y : Int), k ≤ n ∧ i = .int .i64 k ∧ x = .int .i64 y ∧ 0 ≤ y ∧ y ≤ 1048576 ∧ Hid (∀ i, i < k → (nAt ns i).ps.length ≤ 1048576 ∧ (nAt ns i).keys.length ≤ 1048576 ∧ (nAt ns i).kids.length ≤ 1048576) ∧ Hid (Below w.heap.size w wr)) (fun _ i _ => n - (intOf i).toNat)
    case atStart => exact ⟨0, _, Nat.zero_le _, rfl, rfl, by omega, by omega, fun i hi => absurd hi (Nat.not_lt_zero _), Below.refl _ _⟩
    case round =>
      obtain ⟨k, y, hk, rfl, rfl, hy0, hy1, HS, HB⟩ := hrel
      by_cases hlt : k < n
      · have hlt' : (k : Int) < (n : Int) := by omega
        have HP := hid (H0.out.below HB.out)
        obtain ⟨b, off, rfl, _, hbw, hcell⟩ := HP.out.at (by omega)
        obtain ⟨ap, np, cp, ax, nx, cx, ai, ni, ci, c0, c1, c2, hp, hx, hi⟩ := hcell k hlt
        have HPp := hid hp
        have HPx := hid hx
        have HPi := hid hi
        have l0 := hid (Rw.len hp).1
        have l1 := hid (Rw.len hx).1
        have l2 := hid (Rw.len hi).1
        clear hcell hbw HP hp hx hi
        go_wp2_with fail
        refine (szNode_any S ap ax ai np cp nx cx ni ci (nAt ns k) y wr HPp.out HPx.out HPi.out (HZ.out k (by rw [← HN.out]; exact hlt)).1 (HZ.out k (by rw [← HN.out]; exact hlt)).2 hy0 hy1).mono ?_
        rintro e w1 ⟨⟨z, rfl, hz1, hz2, hz3⟩, hb1⟩
        have HB1 := hid (HB.out.trans (hb1.mono HB.out.size))
        have HZ3 := hid hz3
        clear hb1 hz3 c0 c1 c2
        by_cases hneg : z < 0
        · go_wp2
          go_ret
          exact ⟨⟨_, rfl, by omega, by omega, fun h => by omega⟩, HB1.out⟩
        · have HS1 : Hid (∀ i, i < k + 1 → (nAt ns i).ps.length ≤ 1048576 ∧ (nAt ns i).keys.length ≤ 1048576 ∧ (nAt ns i).kids.length ≤ 1048576) := by
            intro i hi
            by_cases e : i = k
            · subst e
              rw [← l0.out, ← l1.out, ← l2.out]
              exact HZ3.out (by omega)
            · exact HS.out i (by omega)
          go_wp2
          go_roundw
          case rel => exact ⟨k + 1, z, by omega, by go_num, rfl, by omega, by omega, HS1.out, HB1.out⟩
          case measure => simp [intOf]; omega
      · have hk' : k = n := by omega
        have HS1 : Hid (smallN ns) := fun i hi => HS.out i (by rw [hk', HN.out]; exact hi)
        clear hk'
        go_wp2
        go_ret
        exact ⟨⟨_, rfl, by omega, by omega, fun _ => ⟨hn2, HS1.out⟩⟩, HB.out⟩
set_option maxHeartbeats 2000000 in
theorem szTree_at (S : Nat → Prop) (a : Option Addr) (n c : Nat) (ns : List NB) (w : World) (h : Nr w S (.slice a n c) ns) (hsz : szOkN ns) :
    Calls Try.prog 14 #[.agg #[.slice a n c], .int .i64 1048576] w fun e w' => (∃ x : Int, e = .returned (.int .i64 x) ∧ x ≤ 1048576 ∧ -1 ≤ x ∧ (0 ≤ x → n ≤ 1048576 ∧ smallN ns)) ∧ Below w.heap.size w w' := by
  have H0 := hid h
  have HZ := hid hsz
  clear h hsz
  have HB0 : Hid (Below w.heap.size w (w.alloc (.cells #[.slice a n c] 40))) := below_new (Below.refl _ _)
  go_enter Try.func14, Try.ntmps14
  go_wp2_with fail
  refine (szNodeS_at S a n c ns _ (H0.out.below HB0.out) HZ.out).mono ?_
  rintro e w1 ⟨⟨y, rfl, hy1, hy2, hy3⟩, hb1⟩
  have HB1 := hid (HB0.out.trans (hb1.mono HB0.out.size))
  have HY := hid hy3
  clear hb1 hy3 HB0
  by_cases hneg : y < 0
  · go_wp2
    go_ret
    exact ⟨⟨_, rfl, by omega, by omega, fun h => by omega⟩, HB1.out⟩
  · go_wp2
    go_ret
    exact ⟨⟨_, rfl, by omega, by omega, HY.out⟩, HB1.out⟩
end Go.Proofs.Ytkflneeifllpgaa
/-
  What the laws of trees carry along: the argument as it was, and what lies behind the answers.
-/
namespace Go.Proofs.Ytkflneeifllpgaa
open Go.RowKit
structure TB (w v : World) (a : Option Addr) (n c : Nat) (ns : List NB) : Prop where
  bel : Below w.heap.size w v
  kA : Bk v w.heap.size 40 [.slice a n c]
  hA : Nr v (fun b => b < w.heap.size) (.slice a n c) ns
theorem TB.below {w v v' : World} {a : Option Addr} {n c : Nat} {ns : List NB} (h : TB w v a n c ns) (hb : Below v.heap.size v v') : TB w v' a n c ns := ⟨Below.then' h.bel hb (Nat.le_refl _), h.kA.below hb, h.hA.below hb⟩
theorem TB.only {w v v' : World} {a : Option Addr} {n c : Nat} {ns : List NB} (h : TB w v a n c ns) {R : Nat → Prop} (ho : Only R v v') (hR : ∀ b, R b → w.heap.size < b) : TB w v' a n c ns :=
  ⟨h.bel.trans (ho.below h.bel.size (fun b hb hr => by have := hR b hr; omega)), h.kA.to ho (fun hr => by have := hR _ hr; omega), h.hA.to ho (fun b hb _ hr => by have := hR b hr; omega)⟩
theorem TB.start {w : World} {a : Option Addr} {n c : Nat} {ns : List NB} (h : Nr w (fun _ => True) (.slice a n c) ns) : TB w (w.alloc (.cells #[.slice a n c] 40)) a n c ns := by
  have hb := below_new (o := .cells #[.slice a n c] 40) (w := w) (Below.refl _ _)
  exact ⟨hb, Bk.new w _ [_], (h.mono (fun b _ hb => hb)).below hb⟩
theorem TB.cell {w v : World} {a : Option Addr} {n c : Nat} {ns : List NB} (h : TB w v a n c ns) : v.cell? ⟨w.heap.size, 0, none⟩ = some (.slice a n c) := h.kA.cell (j := 0) rfl
theorem TB.lt {w v : World} {a : Option Addr} {n c : Nat} {ns : List NB} (h : TB w v a n c ns) : w.heap.size < v.heap.size := h.kA.lt
/-- An owned row may be written. -/
theorem own_uf {w : World} {base : Nat} {e : TypeId} {size : Nat} {v : Value} {n : Nat} {xs : List Value} (h : w.ownsRow base e size v n xs) {k : Nat} (hk : v.ownBlock = some k) : Uf w k := by
  rcases h.2 with ⟨rfl, _⟩ | ⟨g, cap, cur, rfl, h3, h4, h5, h6, h7, h8⟩
  · cases hk
  · cases hk
    exact ⟨_, _, h4⟩
theorem Ow.kw {w : World} {base : Nat} {v : Value} {l : List PB} (h : Ow w base v l) : Kw w (fun b => base ≤ b) v l.length (l.length * 2) isStr := by
  have := kw_of (S' := fun b => base ≤ b) (K := isStr) (h.pr (S := fun b => base ≤ b ∧ Uf w b) (fun k hk hb _ => ⟨hb, own_uf h hk⟩)) (fun u hu => pcs_str _ u hu) (fun b hb _ => hb)
  rwa [pcs_length] at this
theorem kb_nr {u v : World} {p0 p1 : Addr} {x0 x1 : Value} {S : Nat → Prop} {y : Value} {ns : List NB} (h : v.cell? p0 = some x0 ∧ v.cell? p1 = some x1 ∧ KC u v [(p0, x0), (p1, x1)]) (hN : Nr u S y ns) : Nr v S y ns := hN.below h.2.2.bel
theorem kb_nr' {u v v' : World} {p0 p1 : Addr} {x0 x1 : Value} {S : Nat → Prop} {y : Value} {ns : List NB} (hb : Below v.heap.size v v') (h : v.cell? p0 = some x0 ∧ v.cell? p1 = some x1 ∧ KC u v [(p0, x0), (p1, x1)]) (hN : Nr u S y ns) : Nr v' S y ns := (kb_nr h hN).below hb
end Go.Proofs.Ytkflneeifllpgaa
