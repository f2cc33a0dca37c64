/-
  l03Lay of the specification: the nodes of a sub in the walk's order, behind others.
-/
import Derived.Test.YtcpdedpgjaimkaaMx2
import Derived.Deep.DeepCutAuto
import Derived.Test.YtcpdedpgjaimkaaMx1
import Derived.Laws.StructEq
import Derived.Test.YtcpdedpgjaimkaaMx3
namespace Go.Proofs.Ytcpdedpgjaimkaa
open Go.RowKit
/-- What comes of laying. -/
def LayPost (w : World) (F : Nat → Prop) (v : Value) (ms : List NB) (e : Ending) (w' : World) : Prop :=
  ∃ v', e = .returned v' ∧ NO w' (fun y => F y ∨ (w.heap.size ≤ y ∧ y < w'.heap.size ∧ v'.ownBlock ≠ some y)) v' ms ∧ Only (fun y => v.ownBlock = some y) w w' ∧ ∀ y, v'.ownBlock = some y → v.ownBlock = some y ∨ w.heap.size ≤ y
set_option maxHeartbeats 8000000 in
set_option maxRecDepth 20000 in
theorem specLay_any (t : T) : ∀ (S : Nat → Prop) (lf : Bool) (ap ak : Option Addr) (np cp nk ck : Nat) (w : World) (F : Nat → Prop) (av : Option Addr) (nv cv : Nat) (ns : List NB) (r : Bool), Sub w S lf (.slice ap np cp) (.slice ak nk ck) t → (∀ y, S y → (Value.slice av nv cv).ownBlock ≠ some y) →
    NO w F (.slice av nv cv) ns → ns.length + t.size ≤ 1048576 → t.full r = true →
    Calls Try.prog 156 #[.slice av nv cv, .agg #[.bool lf, .slice ap np cp, .slice ak nk ck]] w fun e w' => LayPost w F (.slice av nv cv) (ns ++ lay ns.length t) e w' := by
  induction t using T.ind
  rename_i ps ks ih
  intro S lf ap ak np cp nk ck w F av nv cv ns r h hSv hN hsz hfu
  obtain ⟨ap', np', cp', ak', nk', ck', e1, e2, HNP, HNK, b1, b2, hlf, hP⟩ := h.shape
  cases e1
  cases e2
  obtain ⟨av', nv', cv', e3, HNV⟩ := hN.shape
  cases e3
  have H0 := hid h
  have HP := hid hP
  have HIH := hid ih
  have HSV := hid hSv
  have HN := hid hN
  have HSZ := hid hsz
  have HFU := hid hfu
  simp only [T.ks, T.ps] at HNK HNP HP
  have hnl : nv ≤ 1048576 := by have := HNV.out; have := HSZ.out; omega
  have HLF := hid hlf
  clear h ih hP hSv hN hsz hfu hlf
  have HB0 : Hid (Below w.heap.size w ((w.alloc (.cells #[.bool lf, .slice ap np cp, .slice ak nk ck] 169)).alloc (.cells #[.slice none 0 0, .slice none 0 0, .slice none 0 0] 158))) := below_new (below_new (Below.refl _ _))
  have KP : Hid (Bk ((w.alloc (.cells #[.bool lf, .slice ap np cp, .slice ak nk ck] 169)).alloc (.cells #[.slice none 0 0, .slice none 0 0, .slice none 0 0] 158)) w.heap.size 169 [.bool lf, .slice ap np cp, .slice ak nk ck]) := (Bk.new w 169 [.bool lf, .slice ap np cp, .slice ak nk ck]).alloc _
  have KZ : Hid (Bk ((w.alloc (.cells #[.bool lf, .slice ap np cp, .slice ak nk ck] 169)).alloc (.cells #[.slice none 0 0, .slice none 0 0, .slice none 0 0] 158)) (w.heap.size + 1) 158 [.slice none 0 0, .slice none 0 0, .slice none 0 0]) := by
    have := Bk.new (w.alloc (.cells #[.bool lf, .slice ap np cp, .slice ak nk ck] 169)) 158 [.slice none 0 0, .slice none 0 0, .slice none 0 0]
    show Bk _ _ _ _
    simpa using this
  have HN0 := hid (HN.out.kept HB0.out)
  have HVW := hid HN.out.lt
  go_enter Try.func156, Try.ntmps156
  go_wp2_with (at_builtin; refine wpList_append_zero rfl _ _ rfl F _ ns rfl HN0.out (w.heap.size + 1) rfl KZ.out ?q1 ?_)
  case q1 => have := HSZ.out; omega
  intro g1 n1 c1 w1 hN1 HN1L hg1 ha1
  have HO1 : Hid (Only (fun y => (Value.slice av nv cv).ownBlock = some y) w w1) := (only_of_below HB0.out _).trans (only_of_grown hg1 (fun k e => e))
  have HV1 : Hid (∀ y, (Value.slice (some ⟨g1, 0, none⟩) n1 c1).ownBlock = some y → (Value.slice av nv cv).ownBlock = some y ∨ w.heap.size + 2 ≤ y) := by
    intro y e
    rcases ha1 with ha | ha
    · exact .inl (ha ▸ e)
    · rw [ha] at e; cases e; right; simp
  have KP1 : Hid (Bk w1 w.heap.size 169 [.bool lf, .slice ap np cp, .slice ak nk ck]) := KP.out.to (only_of_grown (R := fun y => y < w.heap.size) hg1 (fun y e => HVW.out y e)) (by omega)
  have HN1 := hid hN1
  have HWS : Hid (w.heap.size + 2 ≤ w1.heap.size) := by have := hg1.size; simp at this; exact this
  have HSW : Hid (Sub w1 S lf (.slice ap np cp) (.slice ak nk ck) (.mk ps ks)) := H0.out.to HO1.out (fun y hy _ e => HSV.out y hy e)
  have HPW : Hid (Pr w1 S (.slice ap np cp) ps) := HP.out.to HO1.out (fun y hy _ e => HSV.out y hy e)
  have p0 := KP1.out.cell (j := 0) rfl
  have p1 := KP1.out.cell (j := 1) rfl
  have p2 := KP1.out.cell (j := 2) rfl
  have HSUB : Hid (Sub w (fun y => S y ∧ y < w.heap.size) lf (.slice ap np cp) (.slice ak nk ck) (.mk ps ks)) := H0.out.mono (fun y hy h => ⟨hy, h⟩)
  clear hN1 hg1 ha1 KP KZ HN0 HB0 H0 HP
  have hn1 : Hid (n1 = nv + 1) := by show _ = _; rw [HN1L.out, HNV.out]
  have hlt1 : (nv : Int) < (n1 : Int) := by have := hn1.out; omega
  by_cases hk : nk = 0
  · have hlf' : lf = true := by rw [HLF.out, hk]; rfl
    have hks : ks = [] := List.eq_nil_of_length_eq_zero (by have := HNK.out; omega)
    subst hlf' hks
    have hps : ps.length ≤ 4 := (full_lf HFU.out).1
    have HO := hid (ow_new w1 w1.heap.size (Nat.le_refl _))
    have HB1 := hid (below_new (o := .cells #[] 33) (w := w1) (Below.refl _ _))
    have p1' := (KP1.out.alloc (.cells #[] 33)).cell (j := 1) rfl
    clear hk HLF
    go_wp2_with (at_builtin; refine wpList_append_pairs rfl _ _ rfl w1.heap.size _ [] rfl HO.out S _ ps rfl (HPW.out.below HB1.out) ?q1 ?q2 ?_)
    case q1 => simp; omega
    case q2 => simp
    intro v2 w2 hO2 hg2
    obtain ⟨a2, n2, c2, hv2, HN2⟩ := hO2.shape'
    subst hv2
    have HO2 : Hid (Ow w2 w1.heap.size (.slice a2 n2 c2) ps) := hO2
    have HWB : Hid (Below w1.heap.size w1 w2) := HB1.out.trans (grown_belowB HO.out hg2 (by simp))
    have HN2' := hid (HN1.out.kept HWB.out)
    have HG1 : Hid (g1 < w1.heap.size) := HN1.out.lt g1 rfl
    have HF1 : Hid (∀ y, F y → y < w1.heap.size ∧ g1 ≠ y) := by
      intro y hy
      obtain ⟨V, _, _, _, n4, _⟩ := HN1.out
      exact ⟨(n4 y hy).1, fun e => (n4 y hy).2 (by rw [← e]; rfl)⟩
    obtain ⟨⟨x0, x1, x2, m0, _, _⟩, mf⟩ := HN2'.out.cells ns.length (by simp)
    have mf0 := mf (nv * 3)
    rw [← HNV.out] at m0
    have HFIN : Hid (NO (w2.setCell ⟨g1, nv * 3, none⟩ (.slice a2 n2 c2)) (fun y => F y ∨ (w.heap.size ≤ y ∧ y < (w2.setCell ⟨g1, nv * 3, none⟩ (.slice a2 n2 c2)).heap.size ∧ (Value.slice (some ⟨g1, 0, none⟩) n1 c1).ownBlock ≠ some y)) (.slice (some ⟨g1, 0, none⟩) n1 c1) (ns ++ lay ns.length (.mk ps []))) := by
      have hz : (w2.setCell ⟨g1, nv * 3, none⟩ (.slice a2 n2 c2)).heap.size = w2.heap.size := by simp [World.setCell]
      have hsz2 := HWB.out.size
      have e : lay ns.length (.mk ps []) = [⟨ps, [], []⟩] := by simp [lay]
      rw [hz, e]
      have hO0 : w2.ownsRow 0 33 2 (.slice a2 n2 c2) ps.length (pcs ps) := own_lower HO2.out
      have := NO.put0 (F := fun y => F y ∨ (w.heap.size ≤ y ∧ y < w2.heap.size ∧ (Value.slice (some ⟨g1, 0, none⟩) n1 c1).ownBlock ≠ some y)) (ms := ns) (l := []) (z := ⟨[], [], []⟩) HN2'.out (fun y hy => .inl hy) (by
        rintro y (hy | hy)
        · exact ⟨by have := HF1.out y hy; omega, fun e => (HF1.out y hy).2 (by cases e; rfl)⟩
        · exact hy.2) hO0 (fun y hy => by
          have h1 := own_ge HO2.out y hy
          have h2 := (World.ownsRow.lt HO2.out y hy).2
          exact ⟨.inr ⟨by have := HWS.out; omega, h2, fun e => by simp [Value.ownBlock] at e; have := HG1.out; omega⟩, fun hf => by have := HF1.out y hf; omega⟩)
      rw [← HNV.out] at this
      exact this
    have HOF : Hid (Only (fun y => (Value.slice av nv cv).ownBlock = some y) w (w2.setCell ⟨g1, nv * 3, none⟩ (.slice a2 n2 c2))) := by
      refine (HO1.out.trans (only_of_below HWB.out _)).then (only_set (R := fun y => y = g1) rfl _) (fun y hy e => ?_)
      subst e
      rcases HV1.out y rfl with h | h
      · exact h
      · omega
    clear hO2 hg2 mf HN2' HO2
    go_wp2
    go_ret
    exact ⟨_, rfl, HFIN.out, HOF.out, fun y hy => (HV1.out y hy).imp id (fun h => by omega)⟩
  · have hlf' : lf = false := by rw [HLF.out]; simp [hk]
    subst hlf'
    have hkne : ks ≠ [] := by rintro rfl; have := HNK.out; simp at this; omega
    have HBR := hid (full_br HFU.out hkne)
    have HLY : Hid (ns ++ lay ns.length (T.mk ps ks) = ns ++ ⟨[], ks.tail.map T.least, places (ns.length + 1) ks⟩ :: layL (ns.length + 1) ks) := by show _ = _; simp [lay, hkne]
    have HSZK : Hid (ns.length + 1 + szL ks ≤ 1048576) := by have := HSZ.out; simp only [T.size] at this; show _ ≤ _; omega
    have HI0 : Hid (LyI w (w1.alloc (.cells #[.slice none 0 0, .slice none 0 0, .slice none 0 0] 158)) F (.slice av nv cv) (.slice (some ⟨g1, 0, none⟩) n1 c1) (.bool false) (.slice ap np cp) (.slice ak nk ck) w1.heap.size (.slice none 0 0) (.slice none 0 0) F (ns ++ [⟨[], [], []⟩]) [] []) := by
      have hF := fun y hy => (show y < w.heap.size from by obtain ⟨V, _, _, _, n4, _⟩ := HN.out; exact (n4 y hy).1)
      have hws := HWS.out
      refine ⟨hF, HVW.out, by omega, HN1.out.kept (below_new (Below.refl _ _)), KP1.out.alloc _, Bk.new w1 158 [.slice none 0 0, .slice none 0 0, .slice none 0 0], World.ownsRow_nil _ _ _ _, World.ownsRow_nil _ _ _ _, fun y hy => ⟨.inl hy, by have := hF y hy; omega, by simp [Value.ownBlock], by simp [Value.ownBlock]⟩, fun y hy => hy, fun y hy => ⟨(HV1.out y hy).imp id (fun h => by omega), ?_, by simp [Value.ownBlock], by simp [Value.ownBlock]⟩, fun y hy => (by cases hy), fun y hy => (by cases hy), HO1.out.trans (only_alloc _ _ _)⟩
      have := HN1.out.lt y hy
      omega
    have p2' := HI0.out.par.cell (j := 2) rfl
    clear hk HLF HN1 KP1 HN
    go_wp2_with fail
    go_loopw [0, 29] (fun x i wr => ∃ (k : Nat) (a' : Option Addr) (n' c' : Nat) (kx ki : Value) (Fk : Nat → Prop), k ≤ nk ∧ i = .int .i64 k ∧ x = .slice a' n' c' ∧ Hid (LyI w wr F (.slice av nv cv) (.slice a' n' c') (.bool false) (.slice ap np cp) (.slice ak nk ck) w1.heap.size kx ki Fk (ns ++ ⟨[], [], []⟩ :: layL (ns.length + 1) (ks.take k)) ((ks.take k).tail.map T.least) (places (ns.length + 1) (ks.take k)))) (fun _ i _ => nk - (intOf i).toNat)
    case atStart => exact ⟨0, _, _, _, _, _, F, Nat.zero_le _, rfl, rfl, by show LyI _ _ _ _ _ _ _ _ _ _ _ _ _ _ _; simpa [layL, places] using HI0.out⟩
    case round =>
      obtain ⟨k, a', n', c', kx, ki, Fk, hkn, rfl, rfl, HL⟩ := hrel
      by_cases hlt : k < nk
      · have hlt' : (k : Int) < (nk : Int) := by omega
        have hks : k < ks.length := by rw [← HNK.out]; exact hlt
        obtain ⟨aki, cki, hki⟩ := own_shape HL.out.ri
        generalize hnki : (places (ns.length + 1) (ks.take k)).length = nki at hki
        have HNKI := hid hnki
        clear hnki
        subst hki
        have HLu := hid (HL.out.keep (below_new (o := .cells #[.int .i64 (n' : Int)] 3) (Below.refl _ _)))
        have y2 := HL.out.nod.cell (j := 2) rfl
        obtain ⟨aq, nq', cq, eq, HNQ⟩ := HL.out.nodes.shape
        cases eq
        have HLN : Hid (n' = ns.length + 1 + szL (ks.take k)) := by show _ = _; rw [HNQ.out]; simp [layL_length]; omega
        have hkk : nki ≤ 1048576 := by
          have h1 := HNKI.out
          rw [places_length, List.length_take] at h1
          have h2 := HBR.out.2.1
          omega
        have HRI : Hid (World.ownsRow (wr.alloc (.cells #[.int .i64 (n' : Int)] 3)) 0 3 1 (.slice aki nki cki) (places (ns.length + 1) (ks.take k)).length ((places (ns.length + 1) (ks.take k)).map (Value.int .i64))) := HLu.out.ri
        rw [HNKI.out] at HRI
        go_wp2_with (at_builtin; refine wpList_append_int1 rfl _ _ rfl _ nki _ rfl HRI.out wr.heap.size (n' : Int) rfl (Bk.new wr 3 [.int .i64 (n' : Int)]) hkk ?_)
        intro ai2 ni2 ci2 w2 hO2 hg2 ha2
        have HL2 : Hid (LyI w (w2.setCell ⟨w1.heap.size, 2, none⟩ (.slice ai2 ni2 ci2)) F (.slice av nv cv) (.slice a' n' c') (.bool false) (.slice ap np cp) (.slice ak nk ck) w1.heap.size kx (.slice ai2 ni2 ci2) Fk (ns ++ ⟨[], [], []⟩ :: layL (ns.length + 1) (ks.take k)) ((ks.take k).tail.map T.least) (places (ns.length + 1) (ks.take (k + 1)))) := by
          have h1 := HLu.out.addKid (n' : Int) (by rw [HNKI.out]; exact hO2) hg2 (by simpa using ha2)
          have h2 : places (ns.length + 1) (ks.take (k + 1)) = places (ns.length + 1) (ks.take k) ++ [(n' : Int)] := by rw [places_take ks k _ hks, HLN.out]
          show LyI _ _ _ _ _ _ _ _ _ _ _ _ _ _ _
          rw [h2]
          exact h1
        have K2 := HLu.out.nod.to (only_of_grown (R := fun y => (Value.slice aki nki cki).ownBlock = some y) hg2 (fun y e => e)) (fun e => (HLu.out.ib _ e).2 rfl)
        have z2 := K2.cell (j := 2) rfl
        have zf := K2.free 2
        clear hO2 hg2 ha2 K2 HRI HLu HL y2
        cases k with
        | zero =>
          have HLX := HL2
          -- the kid's nodes
          have HSUBX := hid (HSUB.out.to HLX.out.only (fun y hy _ e => HSV.out y hy.1 e))
          obtain ⟨gk, ofk, hak, _, _, hkid⟩ := HSUBX.out.kids (by omega)
          try subst hak
          obtain ⟨l1, ap1, np1, cp1, ak1, nk1, ck1, x0, x1, x2, hs1⟩ := hkid 0 hlt
          simp only [Nat.zero_mul, Nat.add_zero] at x0 x1 x2
          have HS1 := hid hs1
          have pp2 := HLX.out.par.cell (j := 2) rfl
          have HLEN : Hid ((ns ++ ⟨[], [], []⟩ :: layL (ns.length + 1) (ks.take (0))).length = ns.length + 1 + szL (ks.take (0))) := by show _ = _; simp [layL_length]; omega
          have HEQ : Hid ((ns ++ ⟨[], [], []⟩ :: layL (ns.length + 1) (ks.take (0))) ++ lay (ns ++ ⟨[], [], []⟩ :: layL (ns.length + 1) (ks.take (0))).length (tAt ks (0)) = ns ++ ⟨[], [], []⟩ :: layL (ns.length + 1) (ks.take (0 + 1))) := by
            show _ = _
            rw [HLEN.out, layL_take ks (0) (ns.length + 1) hks]
            simp
          have HBND : Hid ((ns ++ ⟨[], [], []⟩ :: layL (ns.length + 1) (ks.take (0))).length + (tAt ks (0)).size ≤ 1048576) := by
            show _ ≤ _
            have h1 := szL_take_le ks (0 + 1)
            rw [szL_take ks (0) hks] at h1
            have h2 := HSZK.out
            rw [HLEN.out]
            omega
          have HVS : Hid (∀ y, (S y ∧ y < w.heap.size) → (Value.slice a' n' c').ownBlock ≠ some y) := by
            intro y hy e
            rcases (HLX.out.vb y e).1 with h | h
            · exact HSV.out y hy.1 h
            · omega
          simp only [T.ks] at HS1
          clear hkid hs1 HSUBX
          go_wp2_with fail
          refine (HIH.out (tAt ks (0)) (tAt_mem hks) (fun y => S y ∧ y < w.heap.size) l1 ap1 ak1 np1 cp1 nk1 ck1 _ Fk a' n' c' (ns ++ ⟨[], [], []⟩ :: layL (ns.length + 1) (ks.take (0))) false HS1.out HVS.out HLX.out.nodes HBND.out (HBR.out.2.2.2 _ (tAt_mem hks))).mono ?_
          rintro e w9 ⟨v9, rfl, hN9, ho9, hv9⟩
          rw [HEQ.out] at hN9
          obtain ⟨a9, n9, c9, e9, _⟩ := hN9.shape
          subst e9
          have HL9 := hid (HLX.out.sub hN9 ho9 hv9)
          clear hN9 ho9 hv9 x0 x1 x2 pp2 HLX HS1
          go_wp2
          go_roundw
          case rel => exact ⟨0 + 1, a9, n9, c9, _, _, _, by omega, by go_num, rfl, by show LyI _ _ _ _ _ _ _ _ _ _ _ _ _ _ _; have e : (ks.take (0 + 1)).tail.map T.least = (ks.take 0).tail.map T.least := (by cases ks <;> simp); rw [e]; exact HL9.out⟩
          case measure => simp [intOf]; omega
        | succ k' =>
          have hk1 : (0 : Int) < (k' : Int) + 1 := by omega
          have hk2 : (k' : Int) + 1 < (nk : Int) := by omega
          have hk3 : 0 ≤ (k' : Int) + 1 := by omega
          have hk4 : ((k' : Int) + 1).toNat = k' + 1 := by omega
          generalize hU2 : w2.setCell ⟨w1.heap.size, 2, none⟩ (.slice ai2 ni2 ci2) = u2 at HL2
          obtain ⟨akx, ckx, hkx⟩ := own_shape HL2.out.rx
          generalize hnkx : ((ks.take (k' + 1)).tail.map T.least).length = nkx at hkx
          have HNKX := hid hnkx
          clear hnkx
          subst hkx
          have HSUB2 := hid (HSUB.out.to HL2.out.only (fun y hy _ e => HSV.out y hy.1 e))
          obtain ⟨gk, ofk, hak, hgs, _, hkid⟩ := HSUB2.out.kids (by omega)
          subst hak
          obtain ⟨l1, ap1, np1, cp1, ak1, nk1, ck1, x0, x1, x2, hs1⟩ := hkid (k' + 1) hlt
          have n1c := HL2.out.nod.cell (j := 1) rfl
          have n1f := HL2.out.nod.free 1
          have pp2 := HL2.out.par.cell (j := 2) rfl
          have hnbx : (Value.slice akx nkx ckx).ownBlock ≠ some w1.heap.size := fun e => (HL2.out.xb _ e).2.1 rfl
          have hgk : ¬ ((Value.slice akx nkx ckx).ownBlock = some gk ∨ gk = w1.heap.size) := by
            have h1 : gk < w.heap.size := hgs.2
            have h2 := HL2.out.lo
            rintro (e | e)
            · have := (HL2.out.xb _ e).1; omega
            · omega
          have hpb : ¬ ((Value.slice akx nkx ckx).ownBlock = some w.heap.size ∨ w.heap.size = w1.heap.size) := by
            have h2 := HL2.out.lo
            rintro (e | e)
            · have := (HL2.out.xb _ e).1; omega
            · omega
          have T0 : Hid (KO (fun y => (Value.slice akx nkx ckx).ownBlock = some y ∨ y = w1.heap.size) u2 u2 [(⟨w.heap.size, 2, none⟩, .slice (some ⟨gk, ofk, none⟩) nk ck), (⟨gk, ofk + (k' + 1) * 3, none⟩, .bool l1), (⟨gk, ofk + (k' + 1) * 3 + 1, none⟩, .slice ap1 np1 cp1), (⟨gk, ofk + (k' + 1) * 3 + 2, none⟩, .slice ak1 nk1 ck1)]) := ⟨fun p hp => by simp at hp; rcases hp with rfl | rfl | rfl | rfl <;> exact ⟨by assumption, by assumption⟩, Only.refl _ _⟩
          have HLE : Hid (∀ z, Below u2.heap.size u2 z → Calls Try.prog 178 #[.agg #[.bool l1, .slice ap1 np1 cp1, .slice ak1 nk1 ck1]] z fun e w' => e = .returned (.string (tAt ks (k' + 1)).least) ∧ Below z.heap.size z w') := fun z hz => specLeast_any (tAt ks (k' + 1)) _ l1 ap1 ak1 np1 cp1 nk1 ck1 z (by simp only [T.ks] at hs1; exact hs1.kept hz)
          have HOW : Hid (∀ z o, Below u2.drew.heap.size u2.drew z → World.ownsRow (z.alloc o) 0 9 1 (.slice akx nkx ckx) nkx (((ks.take (k' + 1)).tail.map T.least).map Value.string)) := fun z o hz => by
            have h1 := ((HL2.out.keep (below_drew _)).keep hz).keep (below_new (o := o) (Below.refl _ _))
            have h2 := h1.rx
            rw [HNKX.out] at h2
            exact h2
          have HCK : Hid (∀ z, Below u2.drew.heap.size u2.drew z → z.cell? ⟨w1.heap.size, 1, none⟩ = some (.slice akx nkx ckx) ∧ ∀ o, (z.alloc o).cell? ⟨w1.heap.size, 1, none⟩ = some (.slice akx nkx ckx)) := fun z hz =>
            ⟨((HL2.out.keep (below_drew _)).keep hz).nod.cell (j := 1) rfl, fun o => (((HL2.out.keep (below_drew _)).keep hz).keep (below_new (o := o) (Below.refl _ _))).nod.cell (j := 1) rfl⟩
          have HFK : Hid (∀ z o, Below u2.drew.heap.size u2.drew z → (z.alloc o).frozen? ⟨w1.heap.size, 1, none⟩ = false) := fun z o hz => (((HL2.out.keep (below_drew _)).keep hz).keep (below_new (o := o) (Below.refl _ _))).nod.free 1
          have hkx2 : nkx ≤ 1048576 := by
            have h1 := HNKX.out
            simp at h1
            have h2 := HBR.out.2.1
            omega
          have HFIN : Hid (∀ z o, Below u2.drew.heap.size u2.drew z → ∀ a5 n5 c5 w5, w5.ownsRow 0 9 1 (.slice a5 n5 c5) (nkx + 1) (((ks.take (k' + 1)).tail.map T.least).map Value.string ++ [.string (tAt ks (k' + 1)).least]) → (z.alloc o).grownBy w5 (Value.slice akx nkx ckx).ownBlock → ((Value.slice a5 n5 c5).ownBlock = (Value.slice akx nkx ckx).ownBlock ∨ (Value.slice a5 n5 c5).ownBlock = some (z.alloc o).heap.size) →
              LyI w (w5.setCell ⟨w1.heap.size, 1, none⟩ (.slice a5 n5 c5)) F (.slice av nv cv) (.slice a' n' c') (.bool false) (.slice ap np cp) (.slice (some ⟨gk, ofk, none⟩) nk ck) w1.heap.size (.slice a5 n5 c5) (.slice ai2 ni2 ci2) Fk (ns ++ ⟨[], [], []⟩ :: layL (ns.length + 1) (ks.take (k' + 1))) ((ks.take (k' + 1 + 1)).tail.map T.least) (places (ns.length + 1) (ks.take (k' + 1 + 1)))) := fun z o hz a5 n5 c5 w5 hO hg ha => by
            have h1 := (((HL2.out.keep (below_drew _)).keep hz).keep (below_new (o := o) (Below.refl _ _))).addKey (tAt ks (k' + 1)).least (by rw [HNKX.out]; exact hO) hg ha
            rw [keys_take ks k' hks]
            exact h1
          clear hkid hs1 HSUB2
          go_wp2_with fail
          clear hU2
          refine wp_region_noPanic ?_
          refine wp_region_held_drew (S := (fun z => z.cell? ⟨w.heap.size, 2, none⟩ = some (.slice (some ⟨gk, ofk, none⟩) nk ck) ∧ z.cell? ⟨gk, ofk + (k' + 1) * 3, none⟩ = some (.bool l1) ∧ z.cell? ⟨gk, ofk + (k' + 1) * 3 + 1, none⟩ = some (.slice ap1 np1 cp1) ∧ z.cell? ⟨gk, ofk + (k' + 1) * 3 + 2, none⟩ = some (.slice ak1 nk1 ck1) ∧ KO (fun y => (Value.slice akx nkx ckx).ownBlock = some y ∨ y = w1.heap.size) u2 z [(⟨w.heap.size, 2, none⟩, .slice (some ⟨gk, ofk, none⟩) nk ck), (⟨gk, ofk + (k' + 1) * 3, none⟩, .bool l1), (⟨gk, ofk + (k' + 1) * 3 + 1, none⟩, .slice ap1 np1 cp1), (⟨gk, ofk + (k' + 1) * 3 + 2, none⟩, .slice ak1 nk1 ck1)])) (by kernel_rfl) ?_ (fun hHeld => ?_)
          · exact ko4 ⟨T0.out.cells, only_drew _ _ 1⟩
          simp only [List.size_toArray, List.length_cons, List.length_nil, Array.replicate_succ, Array.replicate_zero, Nat.reduceAdd, List.push_toArray, List.nil_append, List.cons_append]
          refine wpAnyH_take (i := 0) (v := .pointer (some ⟨w1.heap.size, 1, none⟩)) rfl (by kernel_rfl) (by kernel_rfl) (by kernel_rfl) (fun _ _ _ h => h) (Or.inl ⟨by rfl, ?_⟩) (by assumption) ?_
          · intro w hSw
            obtain ⟨g1', g2', g3', g4', _⟩ := hSw
            go_simp
          try simp only [List.getElem_toArray]
          try simp only [List.getElem_cons_succ]
          try simp only [List.getElem_cons_zero]
          try simp only [Act.put]
          try simp only [List.setIfInBounds_toArray]
          try simp only [List.set_cons_succ]
          try simp only [List.set_cons_zero]
          refine wpAnyH_take (i := 2) (v := .pointer (some ⟨w.heap.size, 2, none⟩)) rfl (by kernel_rfl) (by kernel_rfl) (by kernel_rfl) (fun _ _ _ h => h) (Or.inl ⟨by rfl, ?_⟩) (by assumption) ?_
          · intro w hSw
            obtain ⟨g1', g2', g3', g4', _⟩ := hSw
            go_simp
          try simp only [List.getElem_toArray]
          try simp only [List.getElem_cons_succ]
          try simp only [List.getElem_cons_zero]
          try simp only [Act.put]
          try simp only [List.setIfInBounds_toArray]
          try simp only [List.set_cons_succ]
          try simp only [List.set_cons_zero]
          refine wpAnyH_take (i := 3) (v := .slice (some ⟨gk, ofk, none⟩) nk ck) rfl (by kernel_rfl) (by kernel_rfl) (by kernel_rfl) (fun _ _ _ h => h) (Or.inl ⟨by rfl, ?_⟩) (by assumption) ?_
          · intro w hSw
            obtain ⟨g1', g2', g3', g4', _⟩ := hSw
            go_simp
          try simp only [List.getElem_toArray]
          try simp only [List.getElem_cons_succ]
          try simp only [List.getElem_cons_zero]
          try simp only [Act.put]
          try simp only [List.setIfInBounds_toArray]
          try simp only [List.set_cons_succ]
          try simp only [List.set_cons_zero]
          refine wpAnyH_take (i := 4) (v := .int .i64 ((k' + 1 : Nat) : Int)) rfl (by kernel_rfl) (by kernel_rfl) (by kernel_rfl) (fun _ _ _ h => h) (Or.inl ⟨by rfl, ?_⟩) (by assumption) ?_
          · intro w hSw
            obtain ⟨g1', g2', g3', g4', _⟩ := hSw
            go_simp
          try simp only [List.getElem_toArray]
          try simp only [List.getElem_cons_succ]
          try simp only [List.getElem_cons_zero]
          try simp only [Act.put]
          try simp only [List.setIfInBounds_toArray]
          try simp only [List.set_cons_succ]
          try simp only [List.set_cons_zero]
          refine wpAnyH_take (i := 5) (v := .pointer (some ⟨gk, ofk + (k' + 1) * 3, none⟩)) rfl (by kernel_rfl) (by kernel_rfl) (by kernel_rfl) (fun _ _ _ h => h) (Or.inl ⟨by rfl, ?_⟩) (by assumption) ?_
          · intro w hSw
            obtain ⟨g1', g2', g3', g4', _⟩ := hSw
            go_simp
          try simp only [List.getElem_toArray]
          try simp only [List.getElem_cons_succ]
          try simp only [List.getElem_cons_zero]
          try simp only [Act.put]
          try simp only [List.setIfInBounds_toArray]
          try simp only [List.set_cons_succ]
          try simp only [List.set_cons_zero]
          refine wpAnyH_take (i := 6) (v := .agg #[.bool l1, .slice ap1 np1 cp1, .slice ak1 nk1 ck1]) rfl (by kernel_rfl) (by kernel_rfl) (by kernel_rfl) (fun _ _ _ h => h) (Or.inl ⟨by rfl, ?_⟩) (by assumption) ?_
          · intro w hSw
            obtain ⟨g1', g2', g3', g4', _⟩ := hSw
            go_simp
          try simp only [List.getElem_toArray]
          try simp only [List.getElem_cons_succ]
          try simp only [List.getElem_cons_zero]
          try simp only [Act.put]
          try simp only [List.setIfInBounds_toArray]
          try simp only [List.set_cons_succ]
          try simp only [List.set_cons_zero]
          refine wpAnyH_ready (rs := [1, 7]) (by kernel_rfl) (by simp) ?_
          refine AllReadyH.cons rfl (fun K1 hK => ?_) (AllReadyH.cons rfl (fun K1 hK => ?_) AllReadyH.nil)
          · skip
            go_simp
            try go_wp2_with fail
            refine hK.out _ _ ?_ (fun hHeld => ?_)
            · first | assumption | exact ko4 ⟨T0.out.cells, only_drew _ _ 1⟩ | exact ko4o (only_of_below hbC _) (by assumption) | exact ko4o (only_alloc _ _ _) (by assumption) | exact ko4o (only_of_grown hg5 (fun y e => .inl e)) (by assumption) | exact ko4o (only_set (.inr rfl) _) (by assumption)
            clear hK K1
            try simp only [List.getElem_toArray]
            try simp only [List.getElem_cons_succ]
            try simp only [List.getElem_cons_zero]
            try simp only [Act.put]
            try simp only [List.setIfInBounds_toArray]
            try simp only [List.set_cons_succ]
            try simp only [List.set_cons_zero]
            refine wpAnyH_ready (rs := [7]) (by kernel_rfl) (by simp) ?_
            refine AllReadyH.cons rfl (fun K1 hK => ?_) AllReadyH.nil
            go_simp
            refine (HLE.out _ (below_drew _)).mono ?_
            rintro e w' ⟨rfl, hbC⟩
            have hq1 := (HCK.out _ hbC).1
            have hq2 := (HCK.out _ hbC).2
            go_wp2_with fail
            refine hK.out _ _ ?_ (fun hHeld => ?_)
            · first | assumption | exact ko4 ⟨T0.out.cells, only_drew _ _ 1⟩ | exact ko4o (only_of_below hbC _) (by assumption) | exact ko4o (only_alloc _ _ _) (by assumption) | exact ko4o (only_of_grown hg5 (fun y e => .inl e)) (by assumption) | exact ko4o (only_set (.inr rfl) _) (by assumption)
            clear hK K1
            try simp only [List.getElem_toArray]
            try simp only [List.getElem_cons_succ]
            try simp only [List.getElem_cons_zero]
            try simp only [Act.put]
            try simp only [List.setIfInBounds_toArray]
            try simp only [List.set_cons_succ]
            try simp only [List.set_cons_zero]
            refine wpAnyH_ready (rs := [8]) (by kernel_rfl) (by simp) ?_
            refine AllReadyH.cons rfl (fun K1 hK => ?_) AllReadyH.nil
            go_simp
            try go_wp2_with fail
            refine hK.out _ _ ?_ (fun hHeld => ?_)
            · first | assumption | exact ko4 ⟨T0.out.cells, only_drew _ _ 1⟩ | exact ko4o (only_of_below hbC _) (by assumption) | exact ko4o (only_alloc _ _ _) (by assumption) | exact ko4o (only_of_grown hg5 (fun y e => .inl e)) (by assumption) | exact ko4o (only_set (.inr rfl) _) (by assumption)
            clear hK K1
            try simp only [List.getElem_toArray]
            try simp only [List.getElem_cons_succ]
            try simp only [List.getElem_cons_zero]
            try simp only [Act.put]
            try simp only [List.setIfInBounds_toArray]
            try simp only [List.set_cons_succ]
            try simp only [List.set_cons_zero]
            refine wpAnyH_ready (rs := [9]) (by kernel_rfl) (by simp) ?_
            refine AllReadyH.cons rfl (fun K1 hK => ?_) AllReadyH.nil
            refine step_append_str1 rfl _ _ rfl _ nkx _ rfl (HOW.out _ _ hbC) _ (tAt ks (k' + 1)).least rfl (by simp) hkx2 w1.heap.size 1 _ (hq2 _) (HFK.out _ _ hbC) hnbx ?_
            intro a5 n5 c5 w5 hO5 hg5 ha5 hc5 hf5
            refine hK.out _ _ ?_ (fun hHeld => ?_)
            · first | assumption | exact ko4 ⟨T0.out.cells, only_drew _ _ 1⟩ | exact ko4o (only_of_below hbC _) (by assumption) | exact ko4o (only_alloc _ _ _) (by assumption) | exact ko4o (only_of_grown hg5 (fun y e => .inl e)) (by assumption) | exact ko4o (only_set (.inr rfl) _) (by assumption)
            clear hK K1
            try simp only [List.getElem_toArray]
            try simp only [List.getElem_cons_succ]
            try simp only [List.getElem_cons_zero]
            try simp only [Act.put]
            try simp only [List.setIfInBounds_toArray]
            try simp only [List.set_cons_succ]
            try simp only [List.set_cons_zero]
            refine wpAnyH_ready (rs := [10]) (by kernel_rfl) (by simp) ?_
            refine AllReadyH.cons rfl (fun K1 hK => ?_) AllReadyH.nil
            go_simp
            try go_wp2_with fail
            refine hK.out _ _ ?_ (fun hHeld => ?_)
            · first | assumption | exact ko4 ⟨T0.out.cells, only_drew _ _ 1⟩ | exact ko4o (only_of_below hbC _) (by assumption) | exact ko4o (only_alloc _ _ _) (by assumption) | exact ko4o (only_of_grown hg5 (fun y e => .inl e)) (by assumption) | exact ko4o (only_set (.inr rfl) _) (by assumption)
            clear hK K1
            try simp only [List.getElem_toArray]
            try simp only [List.getElem_cons_succ]
            try simp only [List.getElem_cons_zero]
            try simp only [Act.put]
            try simp only [List.setIfInBounds_toArray]
            try simp only [List.set_cons_succ]
            try simp only [List.set_cons_zero]
            refine wpAnyH_ready (rs := [11]) (by kernel_rfl) (by simp) ?_
            refine AllReadyH.cons rfl (fun K1 hK => ?_) AllReadyH.nil
            go_simp
            try go_wp2_with fail
            refine hK.out _ _ ?_ (fun hHeld => ?_)
            · first | assumption | exact ko4 ⟨T0.out.cells, only_drew _ _ 1⟩ | exact ko4o (only_of_below hbC _) (by assumption) | exact ko4o (only_alloc _ _ _) (by assumption) | exact ko4o (only_of_grown hg5 (fun y e => .inl e)) (by assumption) | exact ko4o (only_set (.inr rfl) _) (by assumption)
            clear hK K1
            try simp only [List.getElem_toArray]
            try simp only [List.getElem_cons_succ]
            try simp only [List.getElem_cons_zero]
            try simp only [Act.put]
            try simp only [List.setIfInBounds_toArray]
            try simp only [List.set_cons_succ]
            try simp only [List.set_cons_zero]
            refine wpAnyH_done (by kernel_rfl) ?_ _
            refine NoPanic.normal ?_
            have HLX := hid (HFIN.out _ _ hbC _ _ _ _ hO5 hg5 ha5)
            clear hO5 hg5 ha5 hc5 hf5 hbC hq1 hq2 HFIN HFK HCK HOW HLE T0 hgk hpb hnbx HL2 z2 zf n1c n1f pp2 x0 x1 x2 hHeld
            -- the kid's nodes
            have HSUBX := hid (HSUB.out.to HLX.out.only (fun y hy _ e => HSV.out y hy.1 e))
            obtain ⟨gk9, ofk9, hak, _, _, hkid⟩ := HSUBX.out.kids (by omega)
            cases hak
            obtain ⟨l9, ap9, np9, cp9, ak9, nk9, ck9, x0, x1, x2, hs1⟩ := hkid (k' + 1) hlt
            have HS1 := hid hs1
            have pp2 := HLX.out.par.cell (j := 2) rfl
            have HLEN : Hid ((ns ++ ⟨[], [], []⟩ :: layL (ns.length + 1) (ks.take (k' + 1))).length = ns.length + 1 + szL (ks.take (k' + 1))) := by show _ = _; simp [layL_length]; omega
            have HEQ : Hid ((ns ++ ⟨[], [], []⟩ :: layL (ns.length + 1) (ks.take (k' + 1))) ++ lay (ns ++ ⟨[], [], []⟩ :: layL (ns.length + 1) (ks.take (k' + 1))).length (tAt ks (k' + 1)) = ns ++ ⟨[], [], []⟩ :: layL (ns.length + 1) (ks.take (k' + 1 + 1))) := by
              show _ = _
              rw [HLEN.out, layL_take ks (k' + 1) (ns.length + 1) hks]
              simp
            have HBND : Hid ((ns ++ ⟨[], [], []⟩ :: layL (ns.length + 1) (ks.take (k' + 1))).length + (tAt ks (k' + 1)).size ≤ 1048576) := by
              show _ ≤ _
              have h1 := szL_take_le ks (k' + 1 + 1)
              rw [szL_take ks (k' + 1) hks] at h1
              have h2 := HSZK.out
              rw [HLEN.out]
              omega
            have HVS : Hid (∀ y, (S y ∧ y < w.heap.size) → (Value.slice a' n' c').ownBlock ≠ some y) := by
              intro y hy e
              rcases (HLX.out.vb y e).1 with h | h
              · exact HSV.out y hy.1 h
              · omega
            simp only [T.ks] at HS1
            clear hkid hs1 HSUBX
            go_wp2_with fail
            refine (HIH.out (tAt ks (k' + 1)) (tAt_mem hks) (fun y => S y ∧ y < w.heap.size) l9 ap9 ak9 np9 cp9 nk9 ck9 _ Fk a' n' c' (ns ++ ⟨[], [], []⟩ :: layL (ns.length + 1) (ks.take (k' + 1))) false HS1.out HVS.out HLX.out.nodes HBND.out (HBR.out.2.2.2 _ (tAt_mem hks))).mono ?_
            rintro e w9 ⟨v9, rfl, hN9, ho9, hv9⟩
            rw [HEQ.out] at hN9
            obtain ⟨aZ, nZ, cZ, e9, _⟩ := hN9.shape
            subst e9
            have HL9 := hid (HLX.out.sub hN9 ho9 hv9)
            clear hN9 ho9 hv9 x0 x1 x2 pp2 HLX HS1
            go_wp2
            go_roundw
            case rel => exact ⟨k' + 1 + 1, aZ, nZ, cZ, _, _, _, by omega, by go_num, rfl, HL9.out⟩
            case measure => simp [intOf]; omega
          · skip
            go_simp
            refine (HLE.out _ (below_drew _)).mono ?_
            rintro e w' ⟨rfl, hbC⟩
            have hq1 := (HCK.out _ hbC).1
            have hq2 := (HCK.out _ hbC).2
            go_wp2_with fail
            refine hK.out _ _ ?_ (fun hHeld => ?_)
            · first | assumption | exact ko4 ⟨T0.out.cells, only_drew _ _ 1⟩ | exact ko4o (only_of_below hbC _) (by assumption) | exact ko4o (only_alloc _ _ _) (by assumption) | exact ko4o (only_of_grown hg5 (fun y e => .inl e)) (by assumption) | exact ko4o (only_set (.inr rfl) _) (by assumption)
            clear hK K1
            try simp only [List.getElem_toArray]
            try simp only [List.getElem_cons_succ]
            try simp only [List.getElem_cons_zero]
            try simp only [Act.put]
            try simp only [List.setIfInBounds_toArray]
            try simp only [List.set_cons_succ]
            try simp only [List.set_cons_zero]
            refine wpAnyH_ready (rs := [1, 8]) (by kernel_rfl) (by simp) ?_
            refine AllReadyH.cons rfl (fun K1 hK => ?_) (AllReadyH.cons rfl (fun K1 hK => ?_) AllReadyH.nil)
            · skip
              go_simp
              try go_wp2_with fail
              refine hK.out _ _ ?_ (fun hHeld => ?_)
              · first | assumption | exact ko4 ⟨T0.out.cells, only_drew _ _ 1⟩ | exact ko4o (only_of_below hbC _) (by assumption) | exact ko4o (only_alloc _ _ _) (by assumption) | exact ko4o (only_of_grown hg5 (fun y e => .inl e)) (by assumption) | exact ko4o (only_set (.inr rfl) _) (by assumption)
              clear hK K1
              try simp only [List.getElem_toArray]
              try simp only [List.getElem_cons_succ]
              try simp only [List.getElem_cons_zero]
              try simp only [Act.put]
              try simp only [List.setIfInBounds_toArray]
              try simp only [List.set_cons_succ]
              try simp only [List.set_cons_zero]
              refine wpAnyH_ready (rs := [8]) (by kernel_rfl) (by simp) ?_
              refine AllReadyH.cons rfl (fun K1 hK => ?_) AllReadyH.nil
              go_simp
              try go_wp2_with fail
              refine hK.out _ _ ?_ (fun hHeld => ?_)
              · first | assumption | exact ko4 ⟨T0.out.cells, only_drew _ _ 1⟩ | exact ko4o (only_of_below hbC _) (by assumption) | exact ko4o (only_alloc _ _ _) (by assumption) | exact ko4o (only_of_grown hg5 (fun y e => .inl e)) (by assumption) | exact ko4o (only_set (.inr rfl) _) (by assumption)
              clear hK K1
              try simp only [List.getElem_toArray]
              try simp only [List.getElem_cons_succ]
              try simp only [List.getElem_cons_zero]
              try simp only [Act.put]
              try simp only [List.setIfInBounds_toArray]
              try simp only [List.set_cons_succ]
              try simp only [List.set_cons_zero]
              refine wpAnyH_ready (rs := [9]) (by kernel_rfl) (by simp) ?_
              refine AllReadyH.cons rfl (fun K1 hK => ?_) AllReadyH.nil
              refine step_append_str1 rfl _ _ rfl _ nkx _ rfl (HOW.out _ _ hbC) _ (tAt ks (k' + 1)).least rfl (by simp) hkx2 w1.heap.size 1 _ (hq2 _) (HFK.out _ _ hbC) hnbx ?_
              intro a5 n5 c5 w5 hO5 hg5 ha5 hc5 hf5
              refine hK.out _ _ ?_ (fun hHeld => ?_)
              · first | assumption | exact ko4 ⟨T0.out.cells, only_drew _ _ 1⟩ | exact ko4o (only_of_below hbC _) (by assumption) | exact ko4o (only_alloc _ _ _) (by assumption) | exact ko4o (only_of_grown hg5 (fun y e => .inl e)) (by assumption) | exact ko4o (only_set (.inr rfl) _) (by assumption)
              clear hK K1
              try simp only [List.getElem_toArray]
              try simp only [List.getElem_cons_succ]
              try simp only [List.getElem_cons_zero]
              try simp only [Act.put]
              try simp only [List.setIfInBounds_toArray]
              try simp only [List.set_cons_succ]
              try simp only [List.set_cons_zero]
              refine wpAnyH_ready (rs := [10]) (by kernel_rfl) (by simp) ?_
              refine AllReadyH.cons rfl (fun K1 hK => ?_) AllReadyH.nil
              go_simp
              try go_wp2_with fail
              refine hK.out _ _ ?_ (fun hHeld => ?_)
              · first | assumption | exact ko4 ⟨T0.out.cells, only_drew _ _ 1⟩ | exact ko4o (only_of_below hbC _) (by assumption) | exact ko4o (only_alloc _ _ _) (by assumption) | exact ko4o (only_of_grown hg5 (fun y e => .inl e)) (by assumption) | exact ko4o (only_set (.inr rfl) _) (by assumption)
              clear hK K1
              try simp only [List.getElem_toArray]
              try simp only [List.getElem_cons_succ]
              try simp only [List.getElem_cons_zero]
              try simp only [Act.put]
              try simp only [List.setIfInBounds_toArray]
              try simp only [List.set_cons_succ]
              try simp only [List.set_cons_zero]
              refine wpAnyH_ready (rs := [11]) (by kernel_rfl) (by simp) ?_
              refine AllReadyH.cons rfl (fun K1 hK => ?_) AllReadyH.nil
              go_simp
              try go_wp2_with fail
              refine hK.out _ _ ?_ (fun hHeld => ?_)
              · first | assumption | exact ko4 ⟨T0.out.cells, only_drew _ _ 1⟩ | exact ko4o (only_of_below hbC _) (by assumption) | exact ko4o (only_alloc _ _ _) (by assumption) | exact ko4o (only_of_grown hg5 (fun y e => .inl e)) (by assumption) | exact ko4o (only_set (.inr rfl) _) (by assumption)
              clear hK K1
              try simp only [List.getElem_toArray]
              try simp only [List.getElem_cons_succ]
              try simp only [List.getElem_cons_zero]
              try simp only [Act.put]
              try simp only [List.setIfInBounds_toArray]
              try simp only [List.set_cons_succ]
              try simp only [List.set_cons_zero]
              refine wpAnyH_done (by kernel_rfl) ?_ _
              refine NoPanic.normal ?_
              have HLX := hid (HFIN.out _ _ hbC _ _ _ _ hO5 hg5 ha5)
              clear hO5 hg5 ha5 hc5 hf5 hbC hq1 hq2 HFIN HFK HCK HOW HLE T0 hgk hpb hnbx HL2 z2 zf n1c n1f pp2 x0 x1 x2 hHeld
              -- the kid's nodes
              have HSUBX := hid (HSUB.out.to HLX.out.only (fun y hy _ e => HSV.out y hy.1 e))
              obtain ⟨gk9, ofk9, hak, _, _, hkid⟩ := HSUBX.out.kids (by omega)
              cases hak
              obtain ⟨l9, ap9, np9, cp9, ak9, nk9, ck9, x0, x1, x2, hs1⟩ := hkid (k' + 1) hlt
              have HS1 := hid hs1
              have pp2 := HLX.out.par.cell (j := 2) rfl
              have HLEN : Hid ((ns ++ ⟨[], [], []⟩ :: layL (ns.length + 1) (ks.take (k' + 1))).length = ns.length + 1 + szL (ks.take (k' + 1))) := by show _ = _; simp [layL_length]; omega
              have HEQ : Hid ((ns ++ ⟨[], [], []⟩ :: layL (ns.length + 1) (ks.take (k' + 1))) ++ lay (ns ++ ⟨[], [], []⟩ :: layL (ns.length + 1) (ks.take (k' + 1))).length (tAt ks (k' + 1)) = ns ++ ⟨[], [], []⟩ :: layL (ns.length + 1) (ks.take (k' + 1 + 1))) := by
                show _ = _
                rw [HLEN.out, layL_take ks (k' + 1) (ns.length + 1) hks]
                simp
              have HBND : Hid ((ns ++ ⟨[], [], []⟩ :: layL (ns.length + 1) (ks.take (k' + 1))).length + (tAt ks (k' + 1)).size ≤ 1048576) := by
                show _ ≤ _
                have h1 := szL_take_le ks (k' + 1 + 1)
                rw [szL_take ks (k' + 1) hks] at h1
                have h2 := HSZK.out
                rw [HLEN.out]
                omega
              have HVS : Hid (∀ y, (S y ∧ y < w.heap.size) → (Value.slice a' n' c').ownBlock ≠ some y) := by
                intro y hy e
                rcases (HLX.out.vb y e).1 with h | h
                · exact HSV.out y hy.1 h
                · omega
              simp only [T.ks] at HS1
              clear hkid hs1 HSUBX
              go_wp2_with fail
              refine (HIH.out (tAt ks (k' + 1)) (tAt_mem hks) (fun y => S y ∧ y < w.heap.size) l9 ap9 ak9 np9 cp9 nk9 ck9 _ Fk a' n' c' (ns ++ ⟨[], [], []⟩ :: layL (ns.length + 1) (ks.take (k' + 1))) false HS1.out HVS.out HLX.out.nodes HBND.out (HBR.out.2.2.2 _ (tAt_mem hks))).mono ?_
              rintro e w9 ⟨v9, rfl, hN9, ho9, hv9⟩
              rw [HEQ.out] at hN9
              obtain ⟨aZ, nZ, cZ, e9, _⟩ := hN9.shape
              subst e9
              have HL9 := hid (HLX.out.sub hN9 ho9 hv9)
              clear hN9 ho9 hv9 x0 x1 x2 pp2 HLX HS1
              go_wp2
              go_roundw
              case rel => exact ⟨k' + 1 + 1, aZ, nZ, cZ, _, _, _, by omega, by go_num, rfl, HL9.out⟩
              case measure => simp [intOf]; omega
            · skip
              go_simp
              try go_wp2_with fail
              refine hK.out _ _ ?_ (fun hHeld => ?_)
              · first | assumption | exact ko4 ⟨T0.out.cells, only_drew _ _ 1⟩ | exact ko4o (only_of_below hbC _) (by assumption) | exact ko4o (only_alloc _ _ _) (by assumption) | exact ko4o (only_of_grown hg5 (fun y e => .inl e)) (by assumption) | exact ko4o (only_set (.inr rfl) _) (by assumption)
              clear hK K1
              try simp only [List.getElem_toArray]
              try simp only [List.getElem_cons_succ]
              try simp only [List.getElem_cons_zero]
              try simp only [Act.put]
              try simp only [List.setIfInBounds_toArray]
              try simp only [List.set_cons_succ]
              try simp only [List.set_cons_zero]
              refine wpAnyH_ready (rs := [1]) (by kernel_rfl) (by simp) ?_
              refine AllReadyH.cons rfl (fun K1 hK => ?_) AllReadyH.nil
              go_simp
              try go_wp2_with fail
              refine hK.out _ _ ?_ (fun hHeld => ?_)
              · first | assumption | exact ko4 ⟨T0.out.cells, only_drew _ _ 1⟩ | exact ko4o (only_of_below hbC _) (by assumption) | exact ko4o (only_alloc _ _ _) (by assumption) | exact ko4o (only_of_grown hg5 (fun y e => .inl e)) (by assumption) | exact ko4o (only_set (.inr rfl) _) (by assumption)
              clear hK K1
              try simp only [List.getElem_toArray]
              try simp only [List.getElem_cons_succ]
              try simp only [List.getElem_cons_zero]
              try simp only [Act.put]
              try simp only [List.setIfInBounds_toArray]
              try simp only [List.set_cons_succ]
              try simp only [List.set_cons_zero]
              refine wpAnyH_ready (rs := [9]) (by kernel_rfl) (by simp) ?_
              refine AllReadyH.cons rfl (fun K1 hK => ?_) AllReadyH.nil
              refine step_append_str1 rfl _ _ rfl _ nkx _ rfl (HOW.out _ _ hbC) _ (tAt ks (k' + 1)).least rfl (by simp) hkx2 w1.heap.size 1 _ (hq2 _) (HFK.out _ _ hbC) hnbx ?_
              intro a5 n5 c5 w5 hO5 hg5 ha5 hc5 hf5
              refine hK.out _ _ ?_ (fun hHeld => ?_)
              · first | assumption | exact ko4 ⟨T0.out.cells, only_drew _ _ 1⟩ | exact ko4o (only_of_below hbC _) (by assumption) | exact ko4o (only_alloc _ _ _) (by assumption) | exact ko4o (only_of_grown hg5 (fun y e => .inl e)) (by assumption) | exact ko4o (only_set (.inr rfl) _) (by assumption)
              clear hK K1
              try simp only [List.getElem_toArray]
              try simp only [List.getElem_cons_succ]
              try simp only [List.getElem_cons_zero]
              try simp only [Act.put]
              try simp only [List.setIfInBounds_toArray]
              try simp only [List.set_cons_succ]
              try simp only [List.set_cons_zero]
              refine wpAnyH_ready (rs := [10]) (by kernel_rfl) (by simp) ?_
              refine AllReadyH.cons rfl (fun K1 hK => ?_) AllReadyH.nil
              go_simp
              try go_wp2_with fail
              refine hK.out _ _ ?_ (fun hHeld => ?_)
              · first | assumption | exact ko4 ⟨T0.out.cells, only_drew _ _ 1⟩ | exact ko4o (only_of_below hbC _) (by assumption) | exact ko4o (only_alloc _ _ _) (by assumption) | exact ko4o (only_of_grown hg5 (fun y e => .inl e)) (by assumption) | exact ko4o (only_set (.inr rfl) _) (by assumption)
              clear hK K1
              try simp only [List.getElem_toArray]
              try simp only [List.getElem_cons_succ]
              try simp only [List.getElem_cons_zero]
              try simp only [Act.put]
              try simp only [List.setIfInBounds_toArray]
              try simp only [List.set_cons_succ]
              try simp only [List.set_cons_zero]
              refine wpAnyH_ready (rs := [11]) (by kernel_rfl) (by simp) ?_
              refine AllReadyH.cons rfl (fun K1 hK => ?_) AllReadyH.nil
              go_simp
              try go_wp2_with fail
              refine hK.out _ _ ?_ (fun hHeld => ?_)
              · first | assumption | exact ko4 ⟨T0.out.cells, only_drew _ _ 1⟩ | exact ko4o (only_of_below hbC _) (by assumption) | exact ko4o (only_alloc _ _ _) (by assumption) | exact ko4o (only_of_grown hg5 (fun y e => .inl e)) (by assumption) | exact ko4o (only_set (.inr rfl) _) (by assumption)
              clear hK K1
              try simp only [List.getElem_toArray]
              try simp only [List.getElem_cons_succ]
              try simp only [List.getElem_cons_zero]
              try simp only [Act.put]
              try simp only [List.setIfInBounds_toArray]
              try simp only [List.set_cons_succ]
              try simp only [List.set_cons_zero]
              refine wpAnyH_done (by kernel_rfl) ?_ _
              refine NoPanic.normal ?_
              have HLX := hid (HFIN.out _ _ hbC _ _ _ _ hO5 hg5 ha5)
              clear hO5 hg5 ha5 hc5 hf5 hbC hq1 hq2 HFIN HFK HCK HOW HLE T0 hgk hpb hnbx HL2 z2 zf n1c n1f pp2 x0 x1 x2 hHeld
              -- the kid's nodes
              have HSUBX := hid (HSUB.out.to HLX.out.only (fun y hy _ e => HSV.out y hy.1 e))
              obtain ⟨gk9, ofk9, hak, _, _, hkid⟩ := HSUBX.out.kids (by omega)
              cases hak
              obtain ⟨l9, ap9, np9, cp9, ak9, nk9, ck9, x0, x1, x2, hs1⟩ := hkid (k' + 1) hlt
              have HS1 := hid hs1
              have pp2 := HLX.out.par.cell (j := 2) rfl
              have HLEN : Hid ((ns ++ ⟨[], [], []⟩ :: layL (ns.length + 1) (ks.take (k' + 1))).length = ns.length + 1 + szL (ks.take (k' + 1))) := by show _ = _; simp [layL_length]; omega
              have HEQ : Hid ((ns ++ ⟨[], [], []⟩ :: layL (ns.length + 1) (ks.take (k' + 1))) ++ lay (ns ++ ⟨[], [], []⟩ :: layL (ns.length + 1) (ks.take (k' + 1))).length (tAt ks (k' + 1)) = ns ++ ⟨[], [], []⟩ :: layL (ns.length + 1) (ks.take (k' + 1 + 1))) := by
                show _ = _
                rw [HLEN.out, layL_take ks (k' + 1) (ns.length + 1) hks]
                simp
              have HBND : Hid ((ns ++ ⟨[], [], []⟩ :: layL (ns.length + 1) (ks.take (k' + 1))).length + (tAt ks (k' + 1)).size ≤ 1048576) := by
                show _ ≤ _
                have h1 := szL_take_le ks (k' + 1 + 1)
                rw [szL_take ks (k' + 1) hks] at h1
                have h2 := HSZK.out
                rw [HLEN.out]
                omega
              have HVS : Hid (∀ y, (S y ∧ y < w.heap.size) → (Value.slice a' n' c').ownBlock ≠ some y) := by
                intro y hy e
                rcases (HLX.out.vb y e).1 with h | h
                · exact HSV.out y hy.1 h
                · omega
              simp only [T.ks] at HS1
              clear hkid hs1 HSUBX
              go_wp2_with fail
              refine (HIH.out (tAt ks (k' + 1)) (tAt_mem hks) (fun y => S y ∧ y < w.heap.size) l9 ap9 ak9 np9 cp9 nk9 ck9 _ Fk a' n' c' (ns ++ ⟨[], [], []⟩ :: layL (ns.length + 1) (ks.take (k' + 1))) false HS1.out HVS.out HLX.out.nodes HBND.out (HBR.out.2.2.2 _ (tAt_mem hks))).mono ?_
              rintro e w9 ⟨v9, rfl, hN9, ho9, hv9⟩
              rw [HEQ.out] at hN9
              obtain ⟨aZ, nZ, cZ, e9, _⟩ := hN9.shape
              subst e9
              have HL9 := hid (HLX.out.sub hN9 ho9 hv9)
              clear hN9 ho9 hv9 x0 x1 x2 pp2 HLX HS1
              go_wp2
              go_roundw
              case rel => exact ⟨k' + 1 + 1, aZ, nZ, cZ, _, _, _, by omega, by go_num, rfl, HL9.out⟩
              case measure => simp [intOf]; omega
      · have hk' : k = nk := by omega
        have HTK : Hid (ks.take k = ks) := by show _ = _; rw [hk', HNK.out, List.take_length]
        rw [HTK.out] at HL
        obtain ⟨g', ha', HNn⟩ := HL.out.nodes.rowAt (by simp; omega)
        subst ha'
        obtain ⟨akx, ckx, hkx⟩ := own_shape HL.out.rx
        generalize (ks.tail.map T.least).length = nkx at hkx
        subst hkx
        obtain ⟨aki, cki, hki⟩ := own_shape HL.out.ri
        generalize (places (ns.length + 1) ks).length = nki at hki
        subst hki
        have n0 := HL.out.nod.cell (j := 0) rfl
        have n1c := HL.out.nod.cell (j := 1) rfl
        have n2c := HL.out.nod.cell (j := 2) rfl
        obtain ⟨⟨x0, x1, x2, m0, m1, m2⟩, mf⟩ := HL.out.nodes.cells ns.length (by simp)
        rw [← HNV.out] at m0 m1 m2
        have mf0 := mf (nv * 3)
        have mf1 := mf (nv * 3 + 1)
        have mf2 := mf (nv * 3 + 2)
        have hltn : (nv : Int) < (n' : Int) := by
          have h1 := HNn.out
          simp at h1
          have h2 := HNV.out
          omega
        have HFIN : Hid (NO (((wr.setCell ⟨g', nv * 3, none⟩ (.slice none 0 0)).setCell ⟨g', nv * 3 + 1, none⟩ (.slice akx nkx ckx)).setCell ⟨g', nv * 3 + 2, none⟩ (.slice aki nki cki)) (fun y => F y ∨ (w.heap.size ≤ y ∧ y < (((wr.setCell ⟨g', nv * 3, none⟩ (.slice none 0 0)).setCell ⟨g', nv * 3 + 1, none⟩ (.slice akx nkx ckx)).setCell ⟨g', nv * 3 + 2, none⟩ (.slice aki nki cki)).heap.size ∧ (Value.slice (some ⟨g', 0, none⟩) n' c').ownBlock ≠ some y)) (.slice (some ⟨g', 0, none⟩) n' c') (ns ++ ⟨[], ks.tail.map T.least, places (ns.length + 1) ks⟩ :: layL (ns.length + 1) ks)) := by
          have hz : (((wr.setCell ⟨g', nv * 3, none⟩ (.slice none 0 0)).setCell ⟨g', nv * 3 + 1, none⟩ (.slice akx nkx ckx)).setCell ⟨g', nv * 3 + 2, none⟩ (.slice aki nki cki)).heap.size = wr.heap.size := by simp [World.setCell]
          rw [hz]
          have hG : ∀ y, (fun y => F y ∨ (w.heap.size ≤ y ∧ y < wr.heap.size ∧ (Value.slice (some ⟨g', 0, none⟩) n' c').ownBlock ≠ some y)) y → y < wr.heap.size ∧ (Value.slice (some ⟨g', 0, none⟩) n' c').ownBlock ≠ some y := by
            rintro y (hy | hy)
            · obtain ⟨V, _, _, _, n4, _⟩ := HL.out.nodes
              exact n4 y (HL.out.ff y hy)
            · exact hy.2
          have hbl : ∀ y, bl (.slice none 0 0, .slice akx nkx ckx, .slice aki nki cki) y → (w.heap.size ≤ y ∧ y < wr.heap.size ∧ (Value.slice (some ⟨g', 0, none⟩) n' c').ownBlock ≠ some y) := by
            rintro y (e | e | e)
            · cases e
            · exact ⟨by have := (HL.out.xb y e).1; omega, (World.ownsRow.lt HL.out.rx y e).2, fun d => (HL.out.vb y d).2.2.1 e⟩
            · exact ⟨by have := (HL.out.ib y e).1; omega, (World.ownsRow.lt HL.out.ri y e).2, fun d => (HL.out.vb y d).2.2.2 e⟩
          have hown : OwN wr (.slice none 0 0, .slice akx nkx ckx, .slice aki nki cki) ⟨[], ks.tail.map T.least, places (ns.length + 1) ks⟩ := ⟨World.ownsRow_nil _ _ _ _, HL.out.rx, HL.out.ri⟩
          have hp : N1K wr (fun y => F y ∨ (w.heap.size ≤ y ∧ y < wr.heap.size ∧ (Value.slice (some ⟨g', 0, none⟩) n' c').ownBlock ≠ some y)) (.slice none 0 0, .slice akx nkx ckx, .slice aki nki cki) ⟨[], ks.tail.map T.least, places (ns.length + 1) ks⟩ :=
            ⟨hown.n1 (fun y hy => .inr (hbl y hy)), hown, fun y => ⟨fun e => by (cases e), fun e => (HL.out.xb y e).2.2⟩, fun y hy => .inr (hbl y hy)⟩
          have := NO.put (ms := ns) (l := layL (ns.length + 1) ks) (z := ⟨[], [], []⟩) rfl HL.out.nodes (fun y hy => ?_) hG _ hp (fun y hy hf => ?_)
          · rw [← HNV.out] at this
            rw [← HNV.out]
            exact this
          · obtain ⟨V, _, _, _, n4, _⟩ := HL.out.nodes
            rcases (HL.out.fk y hy).1 with h | h
            · exact .inl h
            · exact .inr ⟨by omega, n4 y hy⟩
          · rcases hy with e | e | e
            · cases e
            · exact (HL.out.fk y hf).2.2.1 e
            · exact (HL.out.fk y hf).2.2.2 e
        have HOF : Hid (Only (fun y => (Value.slice av nv cv).ownBlock = some y) w (((wr.setCell ⟨g', nv * 3, none⟩ (.slice none 0 0)).setCell ⟨g', nv * 3 + 1, none⟩ (.slice akx nkx ckx)).setCell ⟨g', nv * 3 + 2, none⟩ (.slice aki nki cki))) := by
          refine HL.out.only.then (((only_set (R := fun y => y = g') rfl _).trans (only_set (R := fun y => y = g') rfl _)).trans (only_set (R := fun y => y = g') rfl _)) (fun y hy e => ?_)
          subst e
          rcases (HL.out.vb y rfl).1 with h | h
          · exact h
          · omega
        have HVB : Hid (∀ y, (Value.slice (some ⟨g', 0, none⟩) n' c').ownBlock = some y → (Value.slice av nv cv).ownBlock = some y ∨ w.heap.size ≤ y) := fun y hy => (HL.out.vb y hy).1.imp id (fun h => by omega)
        clear hk' HL mf HNn
        go_wp2
        go_ret
        refine ⟨_, rfl, ?_, HOF.out, HVB.out⟩
        rw [HLY.out]
        exact HFIN.out
end Go.Proofs.Ytcpdedpgjaimkaa
/-
  l03SameNode of the specification: it tells whether two nodes hold the same.
-/
namespace Go.Proofs.Ytcpdedpgjaimkaa
open Go.RowKit
theorem neq_pair (a b c d : ByteArray) (w : World) : (binOp .neq 33 (.agg #[.string a, .string b]) (.agg #[.string c, .string d])).run Try.prog w = .ok (.bool (!decide ((a, b) = (c, d)))) w := by
  have u9 := Try.underlying9
  have hS : Try.prog.underlying 33 = some (.struct (Try.prog.fieldsOf 33)) := by kernel_rfl
  have hp : Try.prog.stoodInHeld 33 = false := by kernel_rfl
  rw [run_neq_struct, show (10000 : Nat) = 9999 + 1 from rfl, run_equalIn_agg w 9999 33 _ _ hS hp]
  simp only [Program.fieldsOf, Try.underlying33]
  by_cases h1 : a = c
  · subst h1
    by_cases h2 : b = d
    · subst h2
      rw [decide_eq_true rfl]
      go_simp
    · have t2 := str_beq h2
      rw [decide_eq_false (by simp [h2])]
      clear h2
      go_simp
  · have t1 := str_beq h1
    rw [decide_eq_false (by simp [h1])]
    clear h1
    go_simp
set_option maxHeartbeats 8000000 in
theorem sameNode_any (S S' : Nat → Prop) (ap ax ai ap' ax' ai' : Option Addr) (np cp nx cx ni ci np' cp' nx' cx' ni' ci' : Nat) (x y : NB) (w : World)
    (hP : Pr w S (.slice ap np cp) x.ps) (hS : Sr w S (.slice ax nx cx) x.keys) (hI : Ir w S (.slice ai ni ci) x.kids) (hP' : Pr w S' (.slice ap' np' cp') y.ps) (hS' : Sr w S' (.slice ax' nx' cx') y.keys) (hI' : Ir w S' (.slice ai' ni' ci') y.kids) :
    Calls Try.prog 157 #[.agg #[.slice ap np cp, .slice ax nx cx, .slice ai ni ci], .agg #[.slice ap' np' cp', .slice ax' nx' cx', .slice ai' ni' ci']] w fun e w' => e = .returned (.bool (decide (x = y))) ∧ Below w.heap.size w w' := by
  have HP := hid hP
  have HS := hid hS
  have HI := hid hI
  have HP' := hid hP'
  have HS' := hid hS'
  have HI' := hid hI'
  have lp := hid (Rw.len hP).1
  have ls := hid (Rw.len hS).1
  have li := hid (Rw.len hI).1
  have lp' := hid (Rw.len hP').1
  have ls' := hid (Rw.len hS').1
  have li' := hid (Rw.len hI').1
  have b1 := (Rw.len hP).2
  have b2 := (Rw.len hS).2
  have b3 := (Rw.len hI).2
  have b1' := (Rw.len hP').2
  have b2' := (Rw.len hS').2
  have b3' := (Rw.len hI').2
  clear hP hS hI hP' hS' hI'
  have HB0 : Hid (Below w.heap.size w ((w.alloc (.cells #[.slice ap np cp, .slice ax nx cx, .slice ai ni ci] 158)).alloc (.cells #[.slice ap' np' cp', .slice ax' nx' cx', .slice ai' ni' ci'] 158))) := below_new (below_new (Below.refl _ _))
  have KA : Hid (Bk ((w.alloc (.cells #[.slice ap np cp, .slice ax nx cx, .slice ai ni ci] 158)).alloc (.cells #[.slice ap' np' cp', .slice ax' nx' cx', .slice ai' ni' ci'] 158)) w.heap.size 158 [.slice ap np cp, .slice ax nx cx, .slice ai ni ci]) := (Bk.new w 158 [.slice ap np cp, .slice ax nx cx, .slice ai ni ci]).alloc _
  have KB : Hid (Bk ((w.alloc (.cells #[.slice ap np cp, .slice ax nx cx, .slice ai ni ci] 158)).alloc (.cells #[.slice ap' np' cp', .slice ax' nx' cx', .slice ai' ni' ci'] 158)) (w.heap.size + 1) 158 [.slice ap' np' cp', .slice ax' nx' cx', .slice ai' ni' ci']) := by
    have := Bk.new (w.alloc (.cells #[.slice ap np cp, .slice ax nx cx, .slice ai ni ci] 158)) 158 [.slice ap' np' cp', .slice ax' nx' cx', .slice ai' ni' ci']
    show Bk _ _ _ _
    simpa using this
  by_cases h1 : np = np'
  · have e1 : ((np : Int) != (np' : Int)) = false := by simp [h1]
    by_cases h2 : nx = nx'
    · have e2 : ((nx : Int) != (nx' : Int)) = false := by simp [h2]
      by_cases h3 : ni = ni'
      · have e3 : ((ni : Int) != (ni' : Int)) = false := by simp [h3]
        subst h1 h2 h3
        have HXY : Hid (x.ps = y.ps → x.keys = y.keys → x.kids = y.kids → decide (x = y) = true) := by
          intro q1 q2 q3
          rw [decide_eq_true_eq]
          cases x; cases y; simp_all
        have HNE : Hid (∀ (P : Prop), (x = y → P) → ¬ P → decide (x = y) = false) := fun P q1 q2 => decide_eq_false (fun e => q2 (q1 e))
        go_enter Try.func157, Try.ntmps157
        go_wp2_with fail
        generalize (w.alloc (.cells #[.slice ap np cp, .slice ax nx cx, .slice ai ni ci] 158)).alloc (.cells #[.slice ap' np cp', .slice ax' nx cx', .slice ai' ni ci'] 158) = u at *
        have a0 := KA.out.cell (j := 0) rfl
        have a1 := KA.out.cell (j := 1) rfl
        have a2 := KA.out.cell (j := 2) rfl
        have d0 := KB.out.cell (j := 0) rfl
        have d1 := KB.out.cell (j := 1) rfl
        have d2 := KB.out.cell (j := 2) rfl
        have HPu := hid (HP.out.below HB0.out)
        have HPu' := hid (HP'.out.below HB0.out)
        have HSu := hid (HS.out.below HB0.out)
        have HSu' := hid (HS'.out.below HB0.out)
        have HIu := hid (HI.out.below HB0.out)
        have HIu' := hid (HI'.out.below HB0.out)
        clear KA KB HP HP' HS HS' HI HI'
        go_loopw [36] (fun i wr => ∃ k q : Nat, k ≤ np ∧ i = .int .i64 k ∧ wr = u.drewN q ∧ Hid (x.ps.take k = y.ps.take k)) (fun i _ => np - (intOf i).toNat)
        case atStart => exact ⟨0, 0, Nat.zero_le _, rfl, rfl, rfl⟩
        case round =>
          obtain ⟨k, q, hk, rfl, rfl, HT⟩ := hrel
          by_cases hlt : k < np
          · have hlt' : (k : Int) < (np : Int) := by omega
            obtain ⟨g, off, hap, _, _, hc⟩ := HPu.out.at (by omega)
            obtain ⟨g', off', hap', _, _, hc'⟩ := HPu'.out.at (by omega)
            subst hap hap'
            have m0 := (hc k hlt).1
            have m1 := (hc k hlt).2
            have m0' := (hc' k hlt).1
            have m1' := (hc' k hlt).2
            have HSS : Hid (pAtB x.ps k = pAtB y.ps k → x.ps.take (k + 1) = y.ps.take (k + 1)) := by
              intro e
              have hl : k < x.ps.length := by rw [← lp.out]; exact hlt
              have hl' : k < y.ps.length := by rw [← lp'.out]; exact hlt
              rw [List.take_succ_eq_append_getElem hl, List.take_succ_eq_append_getElem hl', HT.out]
              simp [pAtB, hl, hl'] at e
              rw [e]
            have HFF : Hid (pAtB x.ps k ≠ pAtB y.ps k → decide (x = y) = false) := fun e => HNE.out _ (fun q => by rw [q]) e
            clear hc hc'
            generalize pAtB x.ps k = cx1 at *
            generalize pAtB y.ps k = cx2 at *
            obtain ⟨k1, v1⟩ := cx1
            obtain ⟨k2, v2⟩ := cx2
            have hnq := neq_pair k1 v1 k2 v2
            by_cases he : (k1, v1) = (k2, v2)
            · have HS1 := hid (HSS.out he)
              rw [decide_eq_true he] at hnq
              clear he HSS HFF
              go_wp2_with fail
              go_quiet (fail)
              go_wp2
              go_roundw
              case rel => exact ⟨k + 1, q + nq, by omega, by go_num, rfl, HS1.out⟩
              case measure => simp [intOf]; omega
            · have HF1 := hid (HFF.out he)
              rw [decide_eq_false he] at hnq
              clear he HSS HFF
              go_wp2_with fail
              go_quiet (fail)
              go_wp2
              go_ret
              exact ⟨by rw [HF1.out]; rfl, Below.drewN' (Below.drewN' HB0.out _) _⟩
          · have HQ1 : Hid (x.ps = y.ps) := by
              show _ = _
              have e := HT.out
              rwa [List.take_of_length_le (by rw [← lp.out]; omega), List.take_of_length_le (by rw [← lp'.out]; omega)] at e
            clear HT
            go_wp2_with fail
            go_loopw [54] (fun i wr => ∃ k q : Nat, k ≤ nx ∧ i = .int .i64 k ∧ wr = u.drewN q ∧ Hid (x.keys.take k = y.keys.take k)) (fun i _ => nx - (intOf i).toNat)
            case atStart => exact ⟨0, q, Nat.zero_le _, rfl, rfl, rfl⟩
            case round =>
              clear hk hlt
              obtain ⟨k, q, hk, rfl, rfl, HT⟩ := hrel
              by_cases hlt : k < nx
              · have hlt' : (k : Int) < (nx : Int) := by omega
                obtain ⟨g, off, hap, _, _, hc⟩ := HSu.out.at (by omega)
                obtain ⟨g', off', hap', _, _, hc'⟩ := HSu'.out.at (by omega)
                subst hap hap'
                have m0 := hc k hlt
                have m0' := hc' k hlt
                have HSS : Hid (sAt x.keys k = sAt y.keys k → x.keys.take (k + 1) = y.keys.take (k + 1)) := by
                  intro e
                  have hl : k < x.keys.length := by rw [← ls.out]; exact hlt
                  have hl' : k < y.keys.length := by rw [← ls'.out]; exact hlt
                  rw [List.take_succ_eq_append_getElem hl, List.take_succ_eq_append_getElem hl', HT.out]
                  simp [sAt, hl, hl'] at e
                  rw [e]
                have HFF : Hid (sAt x.keys k ≠ sAt y.keys k → decide (x = y) = false) := fun e => HNE.out _ (fun q => by rw [q]) e
                clear hc hc'
                generalize sAt x.keys k = k1 at *
                generalize sAt y.keys k = k2 at *
                by_cases he : k1 = k2
                · have HS1 := hid (HSS.out he)
                  subst he
                  skip
                  clear HSS HFF
                  go_wp2_with fail
                  go_quiet (fail)
                  go_wp2
                  go_roundw
                  case rel => exact ⟨k + 1, q + nq, by omega, by go_num, rfl, HS1.out⟩
                  case measure => simp [intOf]; omega
                · have HF1 := hid (HFF.out he)
                  have t := str_beq he
                  clear he HSS HFF
                  go_wp2_with fail
                  go_quiet (fail)
                  go_wp2
                  go_ret
                  exact ⟨by rw [HF1.out]; rfl, Below.drewN' (Below.drewN' HB0.out _) _⟩
              · have HQ2 : Hid (x.keys = y.keys) := by
                  show _ = _
                  have e := HT.out
                  rwa [List.take_of_length_le (by rw [← ls.out]; omega), List.take_of_length_le (by rw [← ls'.out]; omega)] at e
                clear HT
                go_wp2_with fail
                go_loopw [72] (fun i wr => ∃ k q : Nat, k ≤ ni ∧ i = .int .i64 k ∧ wr = u.drewN q ∧ Hid (x.kids.take k = y.kids.take k)) (fun i _ => ni - (intOf i).toNat)
                case atStart => exact ⟨0, q, Nat.zero_le _, rfl, rfl, rfl⟩
                case round =>
                  clear hk hlt
                  obtain ⟨k, q, hk, rfl, rfl, HT⟩ := hrel
                  by_cases hlt : k < ni
                  · have hlt' : (k : Int) < (ni : Int) := by omega
                    obtain ⟨g, off, hap, _, _, hc⟩ := HIu.out.at (by omega)
                    obtain ⟨g', off', hap', _, _, hc'⟩ := HIu'.out.at (by omega)
                    subst hap hap'
                    have m0 := hc k hlt
                    have m0' := hc' k hlt
                    have HSS : Hid (iAt x.kids k = iAt y.kids k → x.kids.take (k + 1) = y.kids.take (k + 1)) := by
                      intro e
                      have hl : k < x.kids.length := by rw [← li.out]; exact hlt
                      have hl' : k < y.kids.length := by rw [← li'.out]; exact hlt
                      rw [List.take_succ_eq_append_getElem hl, List.take_succ_eq_append_getElem hl', HT.out]
                      simp [iAt, hl, hl'] at e
                      rw [e]
                    have HFF : Hid (iAt x.kids k ≠ iAt y.kids k → decide (x = y) = false) := fun e => HNE.out _ (fun q => by rw [q]) e
                    clear hc hc'
                    generalize iAt x.kids k = k1 at *
                    generalize iAt y.kids k = k2 at *
                    by_cases he : k1 = k2
                    · have HS1 := hid (HSS.out he)
                      subst he
                      have t : (k1 != k1) = false := by simp
                      clear HSS HFF
                      go_wp2_with fail
                      go_quiet (fail)
                      go_wp2
                      go_roundw
                      case rel => exact ⟨k + 1, q + nq, by omega, by go_num, rfl, HS1.out⟩
                      case measure => simp [intOf]; omega
                    · have HF1 := hid (HFF.out he)
                      have t : (k1 != k2) = true := by simp [he]
                      clear he HSS HFF
                      go_wp2_with fail
                      go_quiet (fail)
                      go_wp2
                      go_ret
                      exact ⟨by rw [HF1.out]; rfl, Below.drewN' (Below.drewN' HB0.out _) _⟩
                  · have HQ3 : Hid (x.kids = y.kids) := by
                      show _ = _
                      have e := HT.out
                      rwa [List.take_of_length_le (by rw [← li.out]; omega), List.take_of_length_le (by rw [← li'.out]; omega)] at e
                    clear HT
                    have HF := hid (HXY.out HQ1.out HQ2.out HQ3.out)
                    go_wp2
                    go_ret
                    exact ⟨by rw [HF.out]; rfl, Below.drewN' HB0.out _⟩
      · have HF : Hid (decide (x = y) = false) := by
          show _ = _
          rw [decide_eq_false_iff_not]
          rintro rfl
          exact h3 (by rw [li.out, li'.out])
        have e3 : ((ni : Int) != (ni' : Int)) = true := by simp; omega
        clear h3
        go_enter Try.func157, Try.ntmps157
        go_wp2
        go_ret
        exact ⟨by rw [HF.out]; rfl, below_new (below_new (Below.refl _ _))⟩
    · have HF : Hid (decide (x = y) = false) := by
        show _ = _
        rw [decide_eq_false_iff_not]
        rintro rfl
        exact h2 (by rw [ls.out, ls'.out])
      have e2 : ((nx : Int) != (nx' : Int)) = true := by simp; omega
      clear h2
      go_enter Try.func157, Try.ntmps157
      go_wp2
      go_ret
      exact ⟨by rw [HF.out]; rfl, below_new (below_new (Below.refl _ _))⟩
  · have HF : Hid (decide (x = y) = false) := by
      show _ = _
      rw [decide_eq_false_iff_not]
      rintro rfl
      exact h1 (by rw [lp.out, lp'.out])
    have e1 : ((np : Int) != (np' : Int)) = true := by simp; omega
    clear h1
    go_enter Try.func157, Try.ntmps157
    go_wp2
    go_ret
    exact ⟨by rw [HF.out]; rfl, below_new (below_new (Below.refl _ _))⟩
end Go.Proofs.Ytcpdedpgjaimkaa
/-
  TreeOk of the specification.
-/
namespace Go.Proofs.Ytcpdedpgjaimkaa
open Go.RowKit
theorem rdSL_info (f : Nat) (rd : Int → Option (T × Nat)) (hrd : ∀ a t n, rd a = some (t, n) → 0 ≤ a ∧ (n : Int) = a + t.size ∧ t.ht ≤ f) : ∀ (kids : List Int) (nx : Nat) (ts : List T) (n : Nat), rdSL rd kids nx = some (ts, n) → n = nx + szL ts ∧ htL ts ≤ f
  | [], nx, ts, n, h => by
    simp only [rdSL, Option.some.injEq, Prod.mk.injEq] at h
    obtain ⟨rfl, rfl⟩ := h
    simp [szL, htL]
  | k :: kids, nx, ts, n, h => by
    simp only [rdSL] at h
    split at h
    · cases h
    · rename_i he
      cases hr : rd k with
      | none => simp [hr] at h
      | some x =>
        obtain ⟨t, n1⟩ := x
        simp only [hr] at h
        cases hs : rdSL rd kids n1 with
        | none => simp [hs] at h
        | some y =>
          obtain ⟨ts', n2⟩ := y
          simp only [hs, Option.some.injEq, Prod.mk.injEq] at h
          obtain ⟨rfl, rfl⟩ := h
          have h1 := hrd k t n1 hr
          have h2 := rdSL_info f rd hrd kids n1 ts' n2 hs
          have he' : k = (nx : Int) := by
            by_cases q : k = (nx : Int)
            · exact q
            · exact absurd q he
          simp only [szL, htL]
          omega
theorem rdS_info (ns : List NB) : ∀ (f : Nat) (a : Int) (t : T) (n : Nat), rdS ns f a = some (t, n) → 0 ≤ a ∧ (n : Int) = a + t.size ∧ t.ht ≤ f
  | 0, a, t, n, h => by simp [rdS] at h
  | f + 1, a, t, n, h => by
    rw [rdS] at h
    split at h
    · cases h
    · rename_i hc
      cases hs : rdSL (rdS ns f) (nAt ns a.toNat).kids (a.toNat + 1) with
      | none => simp [hs] at h
      | some x =>
        obtain ⟨ts, n1⟩ := x
        simp only [hs, Option.some.injEq, Prod.mk.injEq] at h
        obtain ⟨rfl, rfl⟩ := h
        have := rdSL_info f (rdS ns f) (rdS_info ns f) _ _ _ _ hs
        simp only [T.size, T.ht]
        omega
theorem kc7 {u v : World} {a0 a1 a2 a3 a4 a5 a6 : Addr} {x0 x1 x2 x3 x4 x5 x6 : Value} (h : KC u v [(a0, x0), (a1, x1), (a2, x2), (a3, x3), (a4, x4), (a5, x5), (a6, x6)]) : v.cell? a0 = some x0 ∧ v.cell? a1 = some x1 ∧ v.cell? a2 = some x2 ∧ v.cell? a3 = some x3 ∧ v.cell? a4 = some x4 ∧ v.cell? a5 = some x5 ∧ v.cell? a6 = some x6 ∧ KC u v [(a0, x0), (a1, x1), (a2, x2), (a3, x3), (a4, x4), (a5, x5), (a6, x6)] := ⟨h.at (by simp), h.at (by simp), h.at (by simp), h.at (by simp), h.at (by simp), h.at (by simp), h.at (by simp), h⟩
theorem kc7c {u v v' : World} {a0 a1 a2 a3 a4 a5 a6 : Addr} {x0 x1 x2 x3 x4 x5 x6 : Value} (k : Below v.heap.size v v') (h : v.cell? a0 = some x0 ∧ v.cell? a1 = some x1 ∧ v.cell? a2 = some x2 ∧ v.cell? a3 = some x3 ∧ v.cell? a4 = some x4 ∧ v.cell? a5 = some x5 ∧ v.cell? a6 = some x6 ∧ KC u v [(a0, x0), (a1, x1), (a2, x2), (a3, x3), (a4, x4), (a5, x5), (a6, x6)]) : v'.cell? a0 = some x0 ∧ v'.cell? a1 = some x1 ∧ v'.cell? a2 = some x2 ∧ v'.cell? a3 = some x3 ∧ v'.cell? a4 = some x4 ∧ v'.cell? a5 = some x5 ∧ v'.cell? a6 = some x6 ∧ KC u v' [(a0, x0), (a1, x1), (a2, x2), (a3, x3), (a4, x4), (a5, x5), (a6, x6)] := kc7 (KC.call h.2.2.2.2.2.2.2 k)
set_option maxHeartbeats 8000000 in
theorem specTreeOk_any (ns : List NB) (hlen : ns.length ≤ 1048576) (hsm : smallN ns) (S : Nat → Prop) (an : Option Addr) (nn cn : Nat) (w : World) (hN : Nr w S (.slice an nn cn) ns) :
    Calls Try.prog 108 #[.agg #[.slice an nn cn]] w fun e w' => e = .returned (.bool (spOk ns)) ∧ Below w.heap.size w w' := by
  have hnn := hid hN.len.1
  have hnn2 := hN.len.2.1
  have hnn3 := hN.len.2.2
  have HN := hid hN
  clear hN
  have HB0 := hid (below_new (o := .cells #[.slice an nn cn] 25) (w := w) (Below.refl _ _))
  have KT := hid (Bk.new w 25 [.slice an nn cn])
  by_cases h0 : nn = 0
  · have HR : Hid (spOk ns = true) := by show _ = _; rw [spOk, if_pos]; rw [← hnn.out]; exact h0
    clear HN hnn
    subst h0
    go_enter Try.func108, Try.ntmps108
    go_wp2
    go_ret
    exact ⟨by rw [HR.out]; rfl, HB0.out⟩
  · have e1 : ((nn : Int) == 0) = false := by simp; omega
    by_cases h4 : 400 < nn
    · have e2 : (400 : Int) < (nn : Int) := by omega
      have HR : Hid (spOk ns = false) := by show _ = _; rw [spOk, if_neg, if_pos] <;> rw [← hnn.out] <;> assumption
      clear h0 h4
      go_enter Try.func108, Try.ntmps108
      go_wp2
      go_ret
      exact ⟨by rw [HR.out]; rfl, HB0.out⟩
    · have e2 : ¬ (400 : Int) < (nn : Int) := by omega
      have HRS : Hid (spOk ns = match rdS ns 13 0 with
          | none => false
          | some (t, n) => decide (n = ns.length) && t.full true && decide (0 ≤ t.dp) && pOk t.all && decide (lay 0 t = ns)) := by
        show _ = _
        rw [spOk, if_neg (by rw [← hnn.out]; exact h0), if_neg (by rw [← hnn.out]; exact h4)]
        try (cases rdS ns 13 0 <;> rfl)
      have HRT : Hid (rootS ns = match rdS ns 13 0 with
          | none => none
          | some (t, n) => if n = ns.length then some t else none) := by
        show _ = _
        rw [rootS, if_neg (by rw [← hnn.out]; exact h0)]
        try (cases rdS ns 13 0 <;> rfl)
      have hnl : nn ≤ 400 := by omega
      clear h0 h4
      go_enter Try.func108, Try.ntmps108
      go_wp2_with fail
      refine (specRoot_any ns hlen hsm S an nn cn _ (HN.out.below HB0.out)).mono ?_
      generalize w.alloc (.cells #[.slice an nn cn] 25) = U at *
      rintro e w1 ⟨hpost, hb1⟩
      have HB1 := hid (HB0.out.trans (hb1.mono HB0.out.size))
      have KT1 := hid (KT.out.below hb1)
      cases hr : rootS ns with
      | none =>
        rw [hr] at hpost
        obtain ⟨lf, ap, np, cp, ak, nk, ck, he⟩ := hpost
        subst he
        have HR : Hid (spOk ns = false) := by
          show _ = _
          rw [HRS.out]
          have h1 := HRT.out
          rw [hr] at h1
          cases hx : rdS ns 13 0 with
          | none => rfl
          | some x =>
            obtain ⟨t, n⟩ := x
            rw [hx] at h1
            simp only at h1 ⊢
            split at h1
            · cases h1
            · rename_i hn
              simp [hn]
        clear hb1 hr
        go_wp2
        go_ret
        exact ⟨by rw [HR.out]; rfl, HB1.out.alloc HB1.out.size _⟩
      | some t =>
        rw [hr] at hpost
        obtain ⟨lf, ap, np, cp, ak, nk, ck, he, hsub⟩ := hpost
        subst he
        have HRD : Hid (rdS ns 13 0 = some (t, ns.length)) := by
          show _ = _
          have h1 := HRT.out
          rw [hr] at h1
          cases hx : rdS ns 13 0 with
          | none => rw [hx] at h1; cases h1
          | some x =>
            obtain ⟨t', n⟩ := x
            rw [hx] at h1
            simp only at h1
            split at h1
            · rename_i hn; cases h1; rw [hn]
            · cases h1
        have HSP : Hid (spOk ns = (t.full true && decide (0 ≤ t.dp) && pOk t.all && decide (lay 0 t = ns))) := by
          show _ = _
          rw [HRS.out, HRD.out]
          simp
        have HTI := hid (rdS_info ns 13 0 t ns.length HRD.out)
        have HB2 := hid (HB1.out.alloc HB1.out.size (.cells #[.bool lf, .slice ap np cp, .slice ak nk ck] 169))
        have KT2 := hid (KT1.out.alloc (.cells #[.bool lf, .slice ap np cp, .slice ak nk ck] 169))
        have KS2 := hid (Bk.new w1 169 [.bool lf, .slice ap np cp, .slice ak nk ck])
        have HS2 : Hid (Sub (w1.alloc (.cells #[.bool lf, .slice ap np cp, .slice ak nk ck] 169)) (fun y => U.heap.size ≤ y ∧ y < w1.heap.size) lf (.slice ap np cp) (.slice ak nk ck) t) := hsub.kept (below_new (Below.refl _ _))
        clear hb1 hr hsub KT KT1 HB0 HB1 HRS HRT
        go_wp2_with fail
        refine (specFull_any t _ true lf ap ak np cp nk ck _ HS2.out).mono ?_
        generalize hgw : w1.heap.size = sb at *
        clear hgw
        generalize w1.alloc (.cells #[.bool lf, .slice ap np cp, .slice ak nk ck] 169) = w2 at *
        rintro e w3 ⟨rfl, hb3⟩
        have HB3 := hid (HB2.out.trans (hb3.mono HB2.out.size))
        have KT3 := hid (KT2.out.below hb3)
        have KS3 := hid (KS2.out.below hb3)
        have HS3 := hid (HS2.out.kept hb3)
        clear hb3 HB2 KT2 KS2 HS2
        cases hfu : t.full true
        · have HR : Hid (spOk ns = false) := by show _ = _; rw [HSP.out, hfu]; rfl
          clear hfu
          go_wp2
          go_ret
          exact ⟨by rw [HR.out]; rfl, HB3.out⟩
        · have HFU := hid hfu
          clear hfu
          have s0 := KS3.out.cell (j := 0) rfl
          have s1 := KS3.out.cell (j := 1) rfl
          have s2 := KS3.out.cell (j := 2) rfl
          go_wp2_with fail
          refine (specDeep_any t _ lf ap ak np cp nk ck w3 HS3.out (by have := HTI.out.2.2; omega)).mono ?_
          rintro e w4 ⟨rfl, hb4⟩
          have HB4 := hid (HB3.out.trans (hb4.mono HB3.out.size))
          have KT4 := hid (KT3.out.below hb4)
          have KS4 := hid (KS3.out.below hb4)
          have HS4 := hid (HS3.out.kept hb4)
          clear hb4 HB3 KT3 KS3 HS3 s0 s1 s2
          by_cases hdp : t.dp < 0
          · have HR : Hid (spOk ns = false) := by show _ = _; rw [HSP.out, decide_eq_false (by omega : ¬ 0 ≤ t.dp)]; simp
            generalize t.dp = dd at *
            go_wp2
            go_ret
            exact ⟨by rw [HR.out]; rfl, HB4.out⟩
          · have HDP := hid hdp
            have hal : t.all.length ≤ 1048576 := by
              have h1 := full_all_le t true HFU.out
              have h2 := HTI.out.2.1
              have h3 := hnn.out
              omega
            have s0 := KS4.out.cell (j := 0) rfl
            have s1 := KS4.out.cell (j := 1) rfl
            have s2 := KS4.out.cell (j := 2) rfl
            have HAL := hid hal
            clear hal
            generalize hdd : t.dp = dd at hdp
            clear hdd
            go_wp2_with fail
            refine (specPairs_any t _ lf ap ak np cp nk ck w4 HS4.out HAL.out).mono ?_
            rintro e w5 ⟨v5, rfl, hO5, hb5⟩
            obtain ⟨a5, n5, c5, hv5, HN5⟩ := hO5.shape'
            subst hv5
            have HO5 := hid hO5
            have HB5 := hid (HB4.out.trans (hb5.mono HB4.out.size))
            have KT5 := hid (KT4.out.below hb5)
            have KS5 := hid (KS4.out.below hb5)
            have HS5 := hid (HS4.out.kept hb5)
            clear hb5 hO5 HB4 KT4 KS4 HS4 s0 s1 s2
            go_wp2_with fail
            refine (specPairsOk_any (fun _ => True) _ t.all w5 (HO5.out.pr (fun _ _ _ _ => trivial))).mono ?_
            rintro e w6 ⟨rfl, hb6⟩
            have HB6 := hid (HB5.out.trans (hb6.mono HB5.out.size))
            have KT6 := hid (KT5.out.below hb6)
            have KS6 := hid (KS5.out.below hb6)
            have HS6 := hid (HS5.out.kept hb6)
            clear hb6 HB5 KT5 KS5 HS5 HO5 HN5
            cases hpk : pOk t.all
            · have HR : Hid (spOk ns = false) := by show _ = _; rw [HSP.out, hpk]; simp
              clear hpk
              go_wp2
              go_ret
              exact ⟨by rw [HR.out]; rfl, HB6.out⟩
            · have HRV : Hid (spOk ns = decide (lay 0 t = ns)) := by show _ = _; rw [HSP.out, hpk, HFU.out, decide_eq_true (by have := HDP.out; omega : 0 ≤ t.dp)]; simp
              have s0 := KS6.out.cell (j := 0) rfl
              have s1 := KS6.out.cell (j := 1) rfl
              have s2 := KS6.out.cell (j := 2) rfl
              clear hpk HSP
              go_wp2_with fail
              refine (specLay_any t _ lf ap ak np cp nk ck w6 (fun _ => False) none 0 0 [] true HS6.out (fun y _ => by simp [Value.ownBlock]) (no_nil w6) (by have h2 := HTI.out.2.1; have h3 := hnn.out; simp; omega) HFU.out).mono ?_
              rintro e w7 ⟨v7, rfl, hN7, ho7, _⟩
              have hb7 : Below w6.heap.size w6 w7 := ho7.below (Nat.le_refl _) (fun b _ => by simp [Value.ownBlock])
              obtain ⟨a7, n7, c7, hv7, HN7L⟩ := hN7.shape
              subst hv7
              have HNR : Hid (Nr w7 (fun _ => True) (.slice a7 n7 c7) (lay 0 t)) := hN7.nr (fun _ _ => trivial)
              have HB7 := hid (HB6.out.trans (hb7.mono HB6.out.size))
              have KT7 := hid (KT6.out.below hb7)
              have HLL : Hid (n7 = nn) := by
                have h1 := HN7L.out
                have h2 := HTI.out.2.1
                have h3 := hnn.out
                simp [lay_length] at h1
                show _ = _
                omega
              have hn7 : n7 = nn := HLL.out
              clear hN7 ho7 hb7 HB6 KT6 KS6 HS6 HN7L s0 s1 s2
              subst hn7
              have t0 := KT7.out.cell (j := 0) rfl
              have hz : ((n7 : Int) != (n7 : Int)) = false := by simp
              have HTN : Hid (n7 = (lay 0 t).length) := HNR.out.len.1
              go_wp2_with fail
              go_loopw [48] (fun i wr => ∃ k : Nat, k ≤ n7 ∧ i = .int .i64 k ∧ Hid (Below w7.heap.size w7 wr) ∧ Hid ((lay 0 t).take k = ns.take k)) (fun i _ => n7 - (intOf i).toNat)
              case atStart => exact ⟨0, Nat.zero_le _, rfl, Below.refl _ _, rfl⟩
              case round =>
                obtain ⟨k, hk, rfl, HB, HT⟩ := hrel
                have HBB := hid (HB7.out.trans (HB.out.mono HB7.out.size))
                by_cases hlt : k < n7
                · have hlt' : (k : Int) < (n7 : Int) := by omega
                  have HP := hid (HNR.out.below HB.out)
                  have HP' := hid (HN.out.below HBB.out)
                  obtain ⟨bA, oA, hA, _, _, hcell⟩ := HP.out.at (by omega)
                  obtain ⟨bT, oT, hT, _, _, hcell'⟩ := HP'.out.at (by omega)
                  subst hA hT
                  obtain ⟨ap1, np1, cp1, ax1, nx1, cx1, ai1, ni1, ci1, x0, x1, x2, hp, hx, hi⟩ := hcell k hlt
                  obtain ⟨ap2, np2, cp2, ax2, nx2, cx2, ai2, ni2, ci2, y0, y1, y2, hp', hx', hi'⟩ := hcell' k hlt
                  have tt := (KT7.out.below HB.out).cell (j := 0) rfl
                  have HC : Hid (∀ v, Below wr.heap.size wr v → Calls Try.prog 157 #[.agg #[.slice ap1 np1 cp1, .slice ax1 nx1 cx1, .slice ai1 ni1 ci1], .agg #[.slice ap2 np2 cp2, .slice ax2 nx2 cx2, .slice ai2 ni2 ci2]] v fun e w' => e = .returned (.bool (decide (nAt (lay 0 t) k = nAt ns k))) ∧ Below v.heap.size v w') := fun v hv =>
                    sameNode_any _ _ ap1 ax1 ai1 ap2 ax2 ai2 np1 cp1 nx1 cx1 ni1 ci1 np2 cp2 nx2 cx2 ni2 ci2 (nAt (lay 0 t) k) (nAt ns k) v (hp.below hv) (hx.below hv) (hi.below hv) (hp'.below hv) (hx'.below hv) (hi'.below hv)
                  have HSS : Hid (nAt (lay 0 t) k = nAt ns k → (lay 0 t).take (k + 1) = ns.take (k + 1)) := by
                    intro e
                    have hl : k < (lay 0 t).length := by rw [← HTN.out]; exact hlt
                    have hl' : k < ns.length := by rw [← hnn.out]; exact hlt
                    rw [List.take_succ_eq_append_getElem hl, List.take_succ_eq_append_getElem hl', HT.out]
                    simp [nAt, hl, hl'] at e
                    rw [e]
                  have HFF : Hid (nAt (lay 0 t) k ≠ nAt ns k → spOk ns = false) := by
                    intro e
                    rw [HRV.out, decide_eq_false_iff_not]
                    intro e'
                    exact e (by rw [e'])
                  have T0 : Hid (KC wr wr [(⟨bA, oA + k * 3, none⟩, .slice ap1 np1 cp1), (⟨bA, oA + k * 3 + 1, none⟩, .slice ax1 nx1 cx1), (⟨bA, oA + k * 3 + 2, none⟩, .slice ai1 ni1 ci1), (⟨bT, oT + k * 3, none⟩, .slice ap2 np2 cp2), (⟨bT, oT + k * 3 + 1, none⟩, .slice ax2 nx2 cx2), (⟨bT, oT + k * 3 + 2, none⟩, .slice ai2 ni2 ci2), (⟨w.heap.size, 0, none⟩, .slice (some ⟨bT, oT, none⟩) n7 cn)]) := ⟨fun p hp => by simp at hp; rcases hp with rfl | rfl | rfl | rfl | rfl | rfl | rfl <;> assumption, Below.refl _ _⟩
                  clear hcell hcell' HP HP' HT hp hx hi hp' hx' hi' x0 x1 x2 y0 y1 y2 tt t0
                  generalize nAt (lay 0 t) k = cx1' at *
                  generalize nAt ns k = cx2' at *
                  by_cases he : cx1' = cx2'
                  · have HS1 := hid (HSS.out he)
                    rw [decide_eq_true he] at HC
                    clear he HSS HFF
                    go_wp2_with fail
                    go_region_held3 (fun v => v.cell? ⟨bA, oA + k * 3, none⟩ = some (.slice ap1 np1 cp1) ∧ v.cell? ⟨bA, oA + k * 3 + 1, none⟩ = some (.slice ax1 nx1 cx1) ∧ v.cell? ⟨bA, oA + k * 3 + 2, none⟩ = some (.slice ai1 ni1 ci1) ∧ v.cell? ⟨bT, oT + k * 3, none⟩ = some (.slice ap2 np2 cp2) ∧ v.cell? ⟨bT, oT + k * 3 + 1, none⟩ = some (.slice ax2 nx2 cx2) ∧ v.cell? ⟨bT, oT + k * 3 + 2, none⟩ = some (.slice ai2 ni2 ci2) ∧ v.cell? ⟨w.heap.size, 0, none⟩ = some (.slice (some ⟨bT, oT, none⟩) n7 cn) ∧ KC wr v [(⟨bA, oA + k * 3, none⟩, .slice ap1 np1 cp1), (⟨bA, oA + k * 3 + 1, none⟩, .slice ax1 nx1 cx1), (⟨bA, oA + k * 3 + 2, none⟩, .slice ai1 ni1 ci1), (⟨bT, oT + k * 3, none⟩, .slice ap2 np2 cp2), (⟨bT, oT + k * 3 + 1, none⟩, .slice ax2 nx2 cx2), (⟨bT, oT + k * 3 + 2, none⟩, .slice ai2 ni2 ci2), (⟨w.heap.size, 0, none⟩, .slice (some ⟨bT, oT, none⟩) n7 cn)])
                      (first | assumption | exact kc7 (T0.out.call (below_drew _)) | exact kc7c hbC (by assumption))
                      (first | (go_at_call 157; refine (HC.out _ (KC.bel (by first | exact (by assumption : _ ∧ _ ∧ _ ∧ _ ∧ _ ∧ _ ∧ _ ∧ _).2.2.2.2.2.2.2))).mono ?_; rintro e w' ⟨rfl, hbC⟩))
                    all_goals (rename_i hS; have HB8 := hid (Below.then' HB.out hS.2.2.2.2.2.2.2.bel (Nat.le_refl _)); clear hS; go_wp2)
                    go_roundw
                    case rel => exact ⟨k + 1, by omega, by go_num, HB8.out, HS1.out⟩
                    case measure => simp [intOf]; omega
                  · have HF1 := hid (HFF.out he)
                    rw [decide_eq_false he] at HC
                    clear he HSS HFF
                    go_wp2_with fail
                    go_region_held3 (fun v => v.cell? ⟨bA, oA + k * 3, none⟩ = some (.slice ap1 np1 cp1) ∧ v.cell? ⟨bA, oA + k * 3 + 1, none⟩ = some (.slice ax1 nx1 cx1) ∧ v.cell? ⟨bA, oA + k * 3 + 2, none⟩ = some (.slice ai1 ni1 ci1) ∧ v.cell? ⟨bT, oT + k * 3, none⟩ = some (.slice ap2 np2 cp2) ∧ v.cell? ⟨bT, oT + k * 3 + 1, none⟩ = some (.slice ax2 nx2 cx2) ∧ v.cell? ⟨bT, oT + k * 3 + 2, none⟩ = some (.slice ai2 ni2 ci2) ∧ v.cell? ⟨w.heap.size, 0, none⟩ = some (.slice (some ⟨bT, oT, none⟩) n7 cn) ∧ KC wr v [(⟨bA, oA + k * 3, none⟩, .slice ap1 np1 cp1), (⟨bA, oA + k * 3 + 1, none⟩, .slice ax1 nx1 cx1), (⟨bA, oA + k * 3 + 2, none⟩, .slice ai1 ni1 ci1), (⟨bT, oT + k * 3, none⟩, .slice ap2 np2 cp2), (⟨bT, oT + k * 3 + 1, none⟩, .slice ax2 nx2 cx2), (⟨bT, oT + k * 3 + 2, none⟩, .slice ai2 ni2 ci2), (⟨w.heap.size, 0, none⟩, .slice (some ⟨bT, oT, none⟩) n7 cn)])
                      (first | assumption | exact kc7 (T0.out.call (below_drew _)) | exact kc7c hbC (by assumption))
                      (first | (go_at_call 157; refine (HC.out _ (KC.bel (by first | exact (by assumption : _ ∧ _ ∧ _ ∧ _ ∧ _ ∧ _ ∧ _ ∧ _).2.2.2.2.2.2.2))).mono ?_; rintro e w' ⟨rfl, hbC⟩))
                    all_goals (rename_i hS; have HB8 := hid (Below.then' HBB.out hS.2.2.2.2.2.2.2.bel (Nat.le_refl _)); clear hS; go_wp2)
                    go_ret
                    exact ⟨by rw [HF1.out]; rfl, HB8.out⟩
                · have HF : Hid (spOk ns = true) := by
                    show _ = _
                    rw [HRV.out, decide_eq_true_eq]
                    have e := HT.out
                    rwa [List.take_of_length_le (by rw [← HTN.out]; omega), List.take_of_length_le (by rw [← hnn.out]; omega)] at e
                  clear HT
                  go_wp2
                  go_ret
                  exact ⟨by rw [HF.out]; rfl, HBB.out⟩
end Go.Proofs.Ytcpdedpgjaimkaa
/-
  What is known of a tree that is read.
-/
namespace Go.Proofs.Ytcpdedpgjaimkaa
open Go.RowKit
structure OkF (ns : List NB) (t : T) : Prop where
  root : rootS ns = some t
  few : t.ps.length + t.ks.length ≤ 8
  lv : t.lv ≤ 13
  ht : t.ht ≤ 13
  all : t.all.length ≤ 200
  ok : pOk t.all = true
  dp : ns.length ≠ 0 → t.dp = t.dpt
  nil : ns.length = 0 → t = .mk [] []
theorem okT_facts {ns : List NB} {t : T} (h : okT ns = some t) : OkF ns t := by
  by_cases hne : ns.length = 0
  · rw [okT, if_pos hne] at h
    cases h
    exact ⟨by rw [rootS, if_pos hne], by decide, by decide, by decide, by decide, by decide, fun h => absurd hne h, fun _ => rfl⟩
  · have g := (okT_good hne).1 h
    have hr := g.read
    have hi := rdS_info ns 13 0 t ns.length hr
    have hf := g.full
    obtain ⟨e, he⟩ := g.even
    obtain ⟨ps, ks⟩ := t
    have hfew : (T.mk ps ks).ps.length + (T.mk ps ks).ks.length ≤ 8 ∧ (T.mk ps ks).bare = false := by
      show ps.length + ks.length ≤ 8 ∧ (decide (ps.length + ks.length = 0) = false)
      rw [T.full] at hf
      split at hf
      · rename_i hk
        subst hk
        simp at hf
        constructor
        · simp; omega
        · simp; intro h0; subst h0; simp at hf
      · simp at hf
        constructor
        · have hp0 : ps.length = 0 := by rw [hf.1.2]; rfl
          omega
        · simp; intro h0 h1; subst h1; simp at hf
    refine ⟨?_, hfew.1, ?_, hi.2.2, ?_, g.ok, fun _ => ?_, fun h => absurd h hne⟩
    · rw [rootS, if_neg hne, hr]; simp
    · rw [ev_lv e _ he]; exact Nat.le_trans (ev_ht e _ he) hi.2.2
    · exact pOk_len g.ok
    · rw [g.dp, T.dpt, hfew.2]; rfl
end Go.Proofs.Ytcpdedpgjaimkaa
/-
  spec.TreeAll, impl.TreeAll: the same pairs, in new memory.
-/
namespace Go.Proofs.Ytcpdedpgjaimkaa
open Go.RowKit
def alV (ns : List NB) : List PB := match okT ns with | none => [] | some t => t.all
theorem alV_len (ns : List NB) : (alV ns).length ≤ 200 := by
  unfold alV
  cases h : okT ns with
  | none => exact Nat.zero_le _
  | some t => exact (okT_facts h).all
def OwPost (l : List PB) (w : World) (e : Ending) (w' : World) : Prop := ∃ v, e = .returned v ∧ Ow w' w.heap.size v l ∧ Below w.heap.size w w'
set_option maxHeartbeats 2000000 in
theorem implTreeAll_any (S : Nat → Prop) (an : Option Addr) (nn cn : Nat) (ns : List NB) (w : World) (hN : Nr w S (.slice an nn cn) ns) :
    Calls Try.prog 42 #[.agg #[.slice an nn cn]] w fun e w' => OwPost (alV ns) w e w' := by
  have HN := hid hN
  have h1 := hN.len.2.1
  have h2 := hN.len.2.2
  clear hN
  have HB0 := hid (below_new (o := .cells #[.slice an nn cn] 25) (w := w) (Below.refl _ _))
  go_enter Try.func42, Try.ntmps42
  go_wp2_with fail
  refine (rootOf_any S an nn cn ns _ (HN.out.below HB0.out)).mono ?_
  generalize w.alloc (.cells #[.slice an nn cn] 25) = U at *
  rintro e w1 ⟨hpost, hb1⟩
  have HB1 : Hid (Below w.heap.size w w1) := HB0.out.trans (hb1.mono HB0.out.size)
  clear hb1
  cases hr : okT ns with
  | none =>
    rw [hr] at hpost
    have he : e = .returned (.pointer none) := hpost
    subst he
    have HR : Hid (alV ns = []) := by show _ = _; rw [alV, hr]
    clear hpost hr
    go_wp2
    go_ret
    exact ⟨_, rfl, by rw [HR.out]; exact ow_nil _ _, HB1.out⟩
  | some t =>
    rw [hr] at hpost
    obtain ⟨b, he, hL⟩ := hpost
    subst he
    have HR : Hid (alV ns = t.all) := by show _ = _; rw [alV, hr]
    have HF := hid (okT_facts hr)
    have HL := hid hL
    clear hL hr
    go_wp2_with fail
    refine (all_any t _ b w1 w1.heap.size (.slice none 0 0) [] HL.out (fun x hx => hx.2) (Nat.le_refl _) (ow_nil _ _) (by have := HF.out.all; simp; omega)).mono ?_
    rintro e w2 ⟨v, rfl, hO, hb⟩
    have HB2 : Hid (Below w.heap.size w w2) := HB1.out.trans (hb.mono HB1.out.size)
    have HO : Hid (Ow w2 w.heap.size v t.all) := own_mono hO HB1.out.size
    clear hO hb
    go_wp2
    go_ret
    exact ⟨_, rfl, by rw [HR.out]; exact HO.out, HB2.out⟩
set_option maxHeartbeats 2000000 in
theorem specTreeAll_any (ns : List NB) (hlen : ns.length ≤ 1048576) (hsm : smallN ns) (S : Nat → Prop) (an : Option Addr) (nn cn : Nat) (w : World) (hN : Nr w S (.slice an nn cn) ns) :
    Calls Try.prog 43 #[.agg #[.slice an nn cn]] w fun e w' => OwPost (alV ns) w e w' := by
  have h1 := hN.len.2.1
  have h2 := hN.len.2.2
  have HB0 := hid (below_new (o := .cells #[.slice an nn cn] 25) (w := w) (Below.refl _ _))
  have K0 := hid (Bk.new w 25 [.slice an nn cn])
  have H0 := hid (hN.below HB0.out)
  have HLS := hid (And.intro hlen hsm)
  clear hN hlen hsm
  go_enter Try.func43, Try.ntmps43
  go_wp2_with fail
  refine (specTreeOk_any ns HLS.out.1 HLS.out.2 S an nn cn _ H0.out).mono ?_
  generalize w.alloc (.cells #[.slice an nn cn] 25) = U at *
  rintro e w1 ⟨rfl, hb⟩
  have HB1 := hid (HB0.out.trans (hb.mono HB0.out.size))
  have K1 := hid (K0.out.below hb)
  have H1 := hid (H0.out.below hb)
  clear hb HB0 K0 H0
  rw [spOk_eq]
  cases hr : okT ns with
  | none =>
    have HR : Hid (alV ns = []) := by show _ = _; rw [alV, hr]
    clear hr
    go_wp2
    go_ret
    exact ⟨_, rfl, by rw [HR.out]; exact ow_nil _ _, HB1.out⟩
  | some t =>
    have HR : Hid (alV ns = t.all) := by show _ = _; rw [alV, hr]
    have HF := hid (okT_facts hr)
    clear hr
    have c1 := K1.out.cell (j := 0) rfl
    go_wp2_with fail
    refine (specRoot_any ns HLS.out.1 HLS.out.2 S an nn cn _ H1.out).mono ?_
    rintro e w2 ⟨hpost, hb⟩
    rw [HF.out.root] at hpost
    obtain ⟨lf, ap, np, cp, ak, nk, ck, he, hsub⟩ := hpost
    subst he
    have HB2 := hid (Below.then' HB1.out hb (Nat.le_refl _))
    have HB3 := hid (HB2.out.alloc HB2.out.size (.cells #[.bool lf, .slice ap np cp, .slice ak nk ck] 169))
    have HS2 := hid (hsub.kept (below_new (o := .cells #[.bool lf, .slice ap np cp, .slice ak nk ck] 169) (w := w2) (Below.refl _ _)))
    clear hb hsub K1 H1 HB1 HB2 c1
    go_wp2_with fail
    refine (specPairs_any t _ lf ap ak np cp nk ck _ HS2.out (by have := HF.out.all; omega)).mono ?_
    generalize w2.alloc (.cells #[.bool lf, .slice ap np cp, .slice ak nk ck] 169) = w3 at *
    rintro e w4 ⟨v, rfl, hO, hb⟩
    have HB4 := hid (Below.then' HB3.out hb (Nat.le_refl _))
    have HO : Hid (Ow w4 w.heap.size v t.all) := own_mono hO HB3.out.size
    clear hb hO
    go_wp2
    go_ret
    exact ⟨_, rfl, by rw [HR.out]; exact HO.out, HB4.out⟩
end Go.Proofs.Ytcpdedpgjaimkaa
/-
  impl.treeFrom and impl.TreePut.
-/
namespace Go.Proofs.Ytcpdedpgjaimkaa
open Go.RowKit
/-- A tree's nodes: none where there is nothing. -/
def layT (t : T) : List NB := if t.bare = true then [] else lay 0 t
/-- A list of nodes in rows of its own, apart from each other, all new. -/
def TRow (w w' : World) (v : Value) (ms : List NB) : Prop := ∃ V, NA w' v V ms ∧ (∀ y, v.ownBlock = some y → w.heap.size ≤ y) ∧ (∀ i, i < ms.length → ∀ y, bl (vAt V i) y → w.heap.size ≤ y)
theorem TRow.nil (w w' : World) : TRow w w' (.slice none 0 0) [] := ⟨[], na_nil _, fun y hy => (by cases hy), fun i hi => (by simp at hi)⟩
theorem TRow.kept {w w' w2 : World} {v : Value} {ms : List NB} (h : TRow w w' v ms) (hb : Below w'.heap.size w' w2) : TRow w w2 v ms := by
  obtain ⟨V, h1, h2, h3⟩ := h
  exact ⟨V, h1.kept hb, h2, h3⟩
theorem TRow.shape {w w' : World} {v : Value} {ms : List NB} (h : TRow w w' v ms) : ∃ a n c, v = .slice a n c ∧ Hid (n = ms.length) := by
  obtain ⟨V, h1, _⟩ := h
  exact h1.shape
def TreePost (o : Option (List NB)) (w : World) (e : Ending) (w' : World) : Prop := ∃ v, e = .returned (.tuple #[.agg #[v], .bool o.isSome]) ∧ TRow w w' v (o.getD []) ∧ Below w.heap.size w w'
theorem results_tree2 {fn : Func} {p u : Tmp} (h : fn.results = #[.cell p 25, .tmp u]) (tmps : Array Value) (w : World) (g : Nat) {x b : Value} (hp : tmps.getD p undef = .pointer (some ⟨g, 0, none⟩)) (hb : tmps.getD u undef = b)
    (c0 : w.cell? ⟨g, 0, none⟩ = some x) : (results fn tmps).run Try.prog w = .ok (.tuple #[.agg #[x], b]) w := by
  have hp' : tmps[p]?.getD undef = .pointer (some ⟨g, 0, none⟩) := by simpa using hp
  have hb' : tmps[u]?.getD undef = b := by simpa using hb
  have hl : (loadVar 25 ⟨g, 0, none⟩).run Try.prog w = .ok (.agg #[x]) w := by go_simp
  simp [results, h, hp', hb', asAddr, hl, Result.andThen]
theorem results_tree1 {fn : Func} {p : Tmp} (h : fn.results = #[.cell p 25]) (tmps : Array Value) (w : World) (g : Nat) {x : Value} (hp : tmps.getD p undef = .pointer (some ⟨g, 0, none⟩))
    (c0 : w.cell? ⟨g, 0, none⟩ = some x) : (results fn tmps).run Try.prog w = .ok (.agg #[x]) w := by
  have hp' : tmps[p]?.getD undef = .pointer (some ⟨g, 0, none⟩) := by simpa using hp
  have hl : (loadVar 25 ⟨g, 0, none⟩).run Try.prog w = .ok (.agg #[x]) w := by go_simp
  simp [results, h, hp', asAddr, hl]
theorem okT_putIn {ns : List NB} {t : T} (h : okT ns = some t) : PutIn t.lv true t := by
  have hf := okT_facts h
  by_cases hne : ns.length = 0
  · rw [hf.nil hne]
    exact ⟨.inl ⟨rfl, rfl⟩, .inr ⟨rfl, rfl⟩, List.Pairwise.nil⟩
  · have g := (okT_good hne).1 h
    obtain ⟨e, he⟩ := g.even
    rw [ev_lv e t he]
    exact ⟨he, .inl g.full, pOk_asc hf.ok⟩
/-- The tree behind a put. -/
def putV (ns : List NB) (k v : ByteArray) : Option (List NB) := match okT ns with
  | none => none
  | some t => if kOk k = true ∧ vOk v = true then (if 200 < (rootT (putF t.lv t (k, v))).all.length then none else some (layT (rootT (putF t.lv t (k, v))))) else none
theorem rootT_ok {ns : List NB} {t : T} (h : okT ns = some t) (p : PB) : (rootT (putF t.lv t p)).full true = true ∧ (∃ h, Ev h (rootT (putF t.lv t p))) ∧ (rootT (putF t.lv t p)).all = insP t.all p := rootT_full (putF_out t.lv true t p (okT_putIn h))
theorem putV_size {ns : List NB} {t : T} (h : okT ns = some t) (p : PB) : (rootT (putF t.lv t p)).all.length ≤ 201 ∧ (rootT (putF t.lv t p)).size ≤ 201 ∧ (rootT (putF t.lv t p)).ps.length + (rootT (putF t.lv t p)).ks.length ≤ 8 := by
  obtain ⟨h1, h2, h3⟩ := rootT_ok h p
  have h4 := insP_len t.all p
  have h5 := (okT_facts h).all
  have h6 := full_root h1
  rw [h3] at h6
  refine ⟨by rw [h3]; omega, by omega, ?_⟩
  generalize rootT (putF t.lv t p) = y at *
  obtain ⟨ps, ks⟩ := y
  simp only [T.ps, T.ks]
  by_cases hk : ks = []
  · subst hk; have := full_lf h1; simp; omega
  · obtain ⟨_, h2, rfl, _⟩ := full_br h1 hk; simp; omega
end Go.Proofs.Ytcpdedpgjaimkaa
/-
  impl.rootDrop and impl.TreeDrop.
-/
namespace Go.Proofs.Ytcpdedpgjaimkaa
open Go.RowKit
/-- The tree behind a drop. -/
def dropV (ns : List NB) (k : ByteArray) : Option (List NB) := match okT ns with
  | none => none
  | some t => if kOk k = true then some (layT (rootD (dropF t.lv t k))) else none
theorem dropV_size {ns : List NB} {t : T} (h : okT ns = some t) (k : ByteArray) : (rootD (dropF t.lv t k)).all.length ≤ 201 ∧ (rootD (dropF t.lv t k)).size ≤ 201 ∧ (rootD (dropF t.lv t k)).ps.length + (rootD (dropF t.lv t k)).ks.length ≤ 8 := by
  obtain ⟨h1, h2, h3⟩ := rootD_out (k := k) (okT_putIn h)
  have h4 := delP_len t.all k
  have h5 := (okT_facts h).all
  refine ⟨by rw [h3]; omega, ?_⟩
  rcases h1 with h1 | h1
  · have h6 := full_root h1
    rw [h3] at h6
    have := full_small h1
    exact ⟨by omega, by omega⟩
  · rw [h1]; exact ⟨by decide, by decide⟩
end Go.Proofs.Ytcpdedpgjaimkaa
/-
  What the law's helper markText does: it answers with one text for each number (for trees: greater numbers).
-/
namespace Go.Proofs.Ytcpdedpgjaimkaa
open Go.RowKit
/-- The decimal digits of k ahead of acc. -/
def mtG : Nat → Nat → ByteArray → ByteArray
  | 0, _, acc => acc
  | f + 1, k, acc => if k = 0 then acc else mtG f (k / 10) (strOf [48 + ((k % 10 : Nat) : Int)] ++ acc)
theorem mtG_end (f : Nat) (acc : ByteArray) : mtG f 0 acc = acc := by cases f <;> simp [mtG]
theorem mtG_step (f k : Nat) (acc : ByteArray) (h : 0 < k) : mtG (f + 1) k acc = mtG f (k / 10) (strOf [48 + ((k % 10 : Nat) : Int)] ++ acc) := by
  simp [mtG]; omega
/-- The text for k. -/
def mt (k : Nat) : ByteArray := ⟨#[109]⟩ ++ mtG k k ⟨#[]⟩
end Go.Proofs.Ytcpdedpgjaimkaa
/-
  Writing marks into slices: texts into cells of texts, numbers into cells of numbers; nothing else turns.
-/
namespace Go.Proofs.Ytcpdedpgjaimkaa
open Go.RowKit
set_option linter.unusedVariables false
def isStr (u : Value) : Prop := ∃ s, u = .string s
def isInt (u : Value) : Prop := ∃ i, u = .int .i64 i
/-- The cell is the same, or both are texts, or both are numbers. -/
def simV (x y : Value) : Prop := x = y ∨ (isStr x ∧ isStr y) ∨ (isInt x ∧ isInt y)
theorem simV.trans {x y z : Value} (h : simV x y) (k : simV y z) : simV x z := by
  rcases h with rfl | ⟨h1, h2⟩ | ⟨h1, h2⟩
  · exact k
  · rcases k with rfl | ⟨k1, k2⟩ | ⟨k1, k2⟩
    · exact .inr (.inl ⟨h1, h2⟩)
    · exact .inr (.inl ⟨h1, k2⟩)
    · obtain ⟨s, rfl⟩ := h2; obtain ⟨i, hi⟩ := k1; cases hi
  · rcases k with rfl | ⟨k1, k2⟩ | ⟨k1, k2⟩
    · exact .inr (.inr ⟨h1, h2⟩)
    · obtain ⟨s, rfl⟩ := h2; obtain ⟨i, hi⟩ := k1; cases hi
    · exact .inr (.inr ⟨h1, k2⟩)
def Kind (K : Value → Prop) : Prop := ∀ x y, K x → simV x y → K y
theorem kind_str : Kind isStr := by
  rintro x y hx (rfl | ⟨_, h⟩ | ⟨h, _⟩)
  · exact hx
  · exact h
  · obtain ⟨s, rfl⟩ := hx; obtain ⟨i, hi⟩ := h; cases hi
theorem kind_int : Kind isInt := by
  rintro x y hx (rfl | ⟨h, _⟩ | ⟨_, h⟩)
  · exact hx
  · obtain ⟨s, rfl⟩ := hx; obtain ⟨i, hi⟩ := h; cases hi
  · exact h
theorem kind_slice (v : Value) (hv : ∃ a n c, v = .slice a n c) : Kind (fun u => u = v) := by
  obtain ⟨a, n, c, rfl⟩ := hv
  rintro x y rfl (rfl | ⟨h, _⟩ | ⟨h, _⟩)
  · rfl
  · obtain ⟨s, hs⟩ := h; cases hs
  · obtain ⟨s, hs⟩ := h; cases hs
/-- From w to w' only rows of S have turned, and of these each cell keeps its kind. -/
structure Mk (S : Nat → Prop) (w w' : World) : Prop where
  only : Only S w w'
  sim : ∀ b T xs, Bk w b T xs → S b → ∃ ys, Bk w' b T ys ∧ ∀ (j : Nat) u, xs[j]? = some u → ∃ u', ys[j]? = some u' ∧ simV u u'
theorem Mk.refl (S : Nat → Prop) (w : World) : Mk S w w := ⟨Only.refl _ _, fun b T xs h _ => ⟨xs, h, fun j u hu => ⟨u, hu, .inl rfl⟩⟩⟩
theorem Mk.trans {S : Nat → Prop} {a b c : World} (h : Mk S a b) (k : Mk S b c) : Mk S a c := by
  refine ⟨h.only.trans k.only, fun g T xs hb hS => ?_⟩
  obtain ⟨ys, h1, h2⟩ := h.sim g T xs hb hS
  obtain ⟨zs, h3, h4⟩ := k.sim g T ys h1 hS
  refine ⟨zs, h3, fun j u hu => ?_⟩
  obtain ⟨u', h5, h6⟩ := h2 j u hu
  obtain ⟨u'', h7, h8⟩ := h4 j u' h5
  exact ⟨u'', h7, h6.trans h8⟩
theorem mk_below {S : Nat → Prop} {w w' : World} (h : Below w.heap.size w w') : Mk S w w' := ⟨only_of_below h S, fun b T xs hb _ => ⟨xs, hb.below h, fun j u hu => ⟨u, hu, .inl rfl⟩⟩⟩
theorem mk_set {S : Nat → Prop} {w : World} {b o : Nat} {T : TypeId} {xs : List Value} {x y : Value} (hb : Bk w b T xs) (hS : S b) (hx : xs[o]? = some x) (hs : simV x y) : Mk S w (w.setCell ⟨b, o, none⟩ y) := by
  refine ⟨only_set hS y, fun g T' zs hg _ => ?_⟩
  by_cases e : g = b
  · subst e
    refine ⟨_, hg.set o y, fun j u hu => ?_⟩
    have hz : some (Obj.cells xs.toArray T (0, 0)) = some (Obj.cells zs.toArray T' (0, 0)) := hb.symm.trans hg
    simp at hz
    obtain ⟨rfl, rfl⟩ := hz
    by_cases ej : j = o
    · subst ej
      rw [hx] at hu
      cases hu
      exact ⟨y, by simp [(List.getElem?_eq_some_iff.1 hx).1], hs⟩
    · exact ⟨u, by rw [List.getElem?_set_ne (Ne.symm ej)]; exact hu, .inl rfl⟩
  · exact ⟨zs, hg.setOther e _ _, fun j u hu => ⟨u, hu, .inl rfl⟩⟩
theorem Uf.bk {w : World} {b : Nat} (h : Uf w b) : ∃ T xs, Bk w b T xs := by
  obtain ⟨xs, T, h⟩ := h
  exact ⟨T, xs.toList, by show _ = _; simpa using h⟩
theorem Mk.uf {S : Nat → Prop} {w w' : World} (m : Mk S w w') {b : Nat} (h : Uf w b) : Uf w' b := by
  obtain ⟨T, xs, hb⟩ := h.bk
  by_cases hS : S b
  · obtain ⟨ys, h1, _⟩ := m.sim b T xs hb hS
    exact h1.uf
  · exact (hb.to m.only hS).uf
theorem bk_cell {w : World} {b o : Nat} {T : TypeId} {xs : List Value} {u : Value} (h : Bk w b T xs) (hc : w.cell? ⟨b, o, none⟩ = some u) : xs[o]? = some u := by
  have h' : w.heap[b]? = some (.cells xs.toArray T (0, 0)) := h
  simpa [World.cell?, h'] using hc
theorem Mk.cell {S : Nat → Prop} {w w' : World} (m : Mk S w w') {b o : Nat} {u : Value} (hu : Uf w b) (hc : w.cell? ⟨b, o, none⟩ = some u) : ∃ u', w'.cell? ⟨b, o, none⟩ = some u' ∧ simV u u' := by
  obtain ⟨T, xs, hb⟩ := hu.bk
  have hx := bk_cell hb hc
  by_cases hS : S b
  · obtain ⟨ys, h1, h2⟩ := m.sim b T xs hb hS
    obtain ⟨u', h3, h4⟩ := h2 o u hx
    exact ⟨u', h1.cell h3, h4⟩
  · exact ⟨u, (hb.to m.only hS).cell hx, .inl rfl⟩
/-- The slice value v leads to n elements of m cells of the kind K, in a row of S that may be written. -/
def Kw (w : World) (S : Nat → Prop) (v : Value) (n m : Nat) (K : Value → Prop) : Prop :=
  ∃ a c, v = .slice a n c ∧ n ≤ c ∧ c ≤ 9223372036854775807 ∧ (0 < n → ∃ b off, a = some ⟨b, off, none⟩ ∧ S b ∧ Uf w b ∧ ∀ j, j < m → ∃ u, w.cell? ⟨b, off + j, none⟩ = some u ∧ K u)
theorem Kw.mk {S S' : Nat → Prop} {w w' : World} {v : Value} {n m : Nat} {K : Value → Prop} (h : Kw w S v n m K) (hm : Mk S' w w') (hK : Kind K) : Kw w' S v n m K := by
  obtain ⟨a, c, h1, h2, h3, h4⟩ := h
  refine ⟨a, c, h1, h2, h3, fun hn => ?_⟩
  obtain ⟨b, off, h5, h6, h7, h8⟩ := h4 hn
  refine ⟨b, off, h5, h6, hm.uf h7, fun j hj => ?_⟩
  obtain ⟨u, h9, h10⟩ := h8 j hj
  obtain ⟨u', h11, h12⟩ := hm.cell h7 h9
  exact ⟨u', h11, hK _ _ h10 h12⟩
theorem kw_of {w : World} {S S' : Nat → Prop} {v : Value} {n : Nat} {xs : List Value} {K : Value → Prop} (h : Rw w S v n xs) (hx : ∀ u ∈ xs, K u) (hS : ∀ b, S b → b < w.heap.size → S' b ∧ Uf w b) : Kw w S' v n xs.length K := by
  obtain ⟨a, c, h1, h2, h3, h4, hn, h5⟩ := h
  refine ⟨a, c, h1, h2, h3, fun hp => ?_⟩
  obtain ⟨b, off, h6, h7, h8, h9⟩ := h5 hp
  refine ⟨b, off, h6, (hS b h8 h7).1, (hS b h8 h7).2, fun j hj => ?_⟩
  exact ⟨xs[j], h9 j _ (by simp [hj]), hx _ (by simp)⟩
/-- Of the m cells from off on the first i are V's. -/
def Mi (w : World) (b off m i : Nat) (V : Nat → Value) (K : Value → Prop) : Prop := ∃ T xs, Bk w b T xs ∧ (∀ j, j < m → ∃ u, xs[off + j]? = some u ∧ K u) ∧ ∀ j, j < i → xs[off + j]? = some (V j)
theorem Mi.start {w : World} {b off m : Nat} {V : Nat → Value} {K : Value → Prop} (hu : Uf w b) (h : ∀ j, j < m → ∃ u, w.cell? ⟨b, off + j, none⟩ = some u ∧ K u) : Mi w b off m 0 V K := by
  obtain ⟨T, xs, hb⟩ := hu.bk
  refine ⟨T, xs, hb, fun j hj => ?_, fun j hj => absurd hj (Nat.not_lt_zero _)⟩
  obtain ⟨u, h1, h2⟩ := h j hj
  exact ⟨u, bk_cell hb h1, h2⟩
theorem Mi.below {w w' : World} {b off m i : Nat} {V : Nat → Value} {K : Value → Prop} (h : Mi w b off m i V K) (hb : Below w.heap.size w w') : Mi w' b off m i V K := by
  obtain ⟨T, xs, h1, h2, h3⟩ := h
  exact ⟨T, xs, h1.below hb, h2, h3⟩
theorem Mi.cell {w : World} {b off m i : Nat} {V : Nat → Value} {K : Value → Prop} (h : Mi w b off m i V K) {j : Nat} (hj : j < m) : (∃ u, w.cell? ⟨b, off + j, none⟩ = some u ∧ K u) ∧ w.frozen? ⟨b, off + j, none⟩ = false := by
  obtain ⟨T, xs, h1, h2, h3⟩ := h
  obtain ⟨u, h4, h5⟩ := h2 j hj
  exact ⟨⟨u, h1.cell h4, h5⟩, h1.free _⟩
theorem Mi.set {w : World} {b off m i : Nat} {V : Nat → Value} {K : Value → Prop} (h : Mi w b off m i V K) {o : Nat} (ho : o = off + i) (hi : i < m) (hK : K (V i)) : Mi (w.setCell ⟨b, o, none⟩ (V i)) b off m (i + 1) V K := by
  subst ho
  obtain ⟨T, xs, h1, h2, h3⟩ := h
  refine ⟨T, _, h1.set _ _, fun j hj => ?_, fun j hj => ?_⟩
  · obtain ⟨u, h4, h5⟩ := h2 j hj
    by_cases e : j = i
    · subst e
      exact ⟨V j, by simp [(List.getElem?_eq_some_iff.1 h4).1], hK⟩
    · exact ⟨u, by rw [List.getElem?_set_ne (by omega)]; exact h4, h5⟩
  · by_cases e : j = i
    · subst e
      obtain ⟨u, h4, _⟩ := h2 j hi
      simp [(List.getElem?_eq_some_iff.1 h4).1]
    · rw [List.getElem?_set_ne (by omega)]
      exact h3 j (by omega)
end Go.Proofs.Ytcpdedpgjaimkaa
/-
  The law's helpers that write marks into slices: of pairs, of texts, of numbers.
-/
namespace Go.Proofs.Ytcpdedpgjaimkaa
open Go.RowKit
def mV (k : Nat) (j : Nat) : Value := .string (mt (k + j))
def mI (k : Nat) (j : Nat) : Value := .int .i64 ((k + j : Nat) : Int)
theorem mi_mk {S : Nat → Prop} {w : World} {b off m i : Nat} {V : Nat → Value} {K : Value → Prop} (h : Mi w b off m i V K) (hS : S b) {o : Nat} (ho : o = off + i) (hi : i < m) (hs : ∀ u, K u → simV u (V i)) : Mk S w (w.setCell ⟨b, o, none⟩ (V i)) := by
  subst ho
  obtain ⟨T, xs, h1, h2, h3⟩ := h
  obtain ⟨u, h4, h5⟩ := h2 i hi
  exact mk_set h1 hS h4 (hs u h5)
theorem sim_mV (k i : Nat) : ∀ u, isStr u → simV u (mV k i) := fun _ hu => .inr (.inl ⟨hu, _, rfl⟩)
theorem sim_mI (k i : Nat) : ∀ u, isInt u → simV u (mI k i) := fun _ hu => .inr (.inr ⟨hu, _, rfl⟩)
/-- What comes of writing marks into the m cells of a slice. -/
def Marked (S : Nat → Prop) (w : World) (a : Option Addr) (n m : Nat) (V : Nat → Value) (K : Value → Prop) (w' : World) : Prop := Mk S w w' ∧ (0 < n → ∃ b off, a = some ⟨b, off, none⟩ ∧ S b ∧ Mi w' b off m m V K)
end Go.Proofs.Ytcpdedpgjaimkaa
/-
  The law's helpers that write marks into a tree: nothing but its own rows turns.
-/
namespace Go.Proofs.Ytcpdedpgjaimkaa
open Go.RowKit
set_option linter.unusedVariables false
/-- The slice value v leads to n nodes whose cells are V's and stay; the rows behind them may be written. -/
def Nk (w : World) (S : Nat → Prop) (v : Value) (n : Nat) (V : Nat → V3) : Prop :=
  (∀ i, i < n → ∃ np nx ni, np ≤ 1048576 ∧ nx ≤ 1048576 ∧ ni ≤ 1048576 ∧ Kw w S (V i).1 np (np * 2) isStr ∧ Kw w S (V i).2.1 nx nx isStr ∧ Kw w S (V i).2.2 ni ni isInt) ∧
    ∃ a c, v = .slice a n c ∧ n ≤ c ∧ c ≤ 9223372036854775807 ∧ (0 < n → ∃ b off, a = some ⟨b, off, none⟩ ∧ Uf w b ∧ ∀ i, i < n → w.cell? ⟨b, off + i * 3, none⟩ = some (V i).1 ∧ w.cell? ⟨b, off + i * 3 + 1, none⟩ = some (V i).2.1 ∧ w.cell? ⟨b, off + i * 3 + 2, none⟩ = some (V i).2.2)
theorem Kw.slice {w : World} {S : Nat → Prop} {v : Value} {n m : Nat} {K : Value → Prop} (h : Kw w S v n m K) : ∃ a n c, v = .slice a n c := by
  obtain ⟨a, c, h, _⟩ := h
  exact ⟨a, n, c, h⟩
theorem Mk.slice {S : Nat → Prop} {w w' : World} (hm : Mk S w w') {b o n c : Nat} {a : Option Addr} (hu : Uf w b) (hc : w.cell? ⟨b, o, none⟩ = some (.slice a n c)) : w'.cell? ⟨b, o, none⟩ = some (.slice a n c) := by
  obtain ⟨u, d, e⟩ := hm.cell hu hc
  rw [d, kind_slice _ ⟨a, n, c, rfl⟩ _ _ rfl e]
theorem pcs_str (ps : List PB) : ∀ u ∈ pcs ps, isStr u := by
  induction ps with
  | nil => intro u hu; cases hu
  | cons p ps ih =>
    intro u hu
    simp only [pcs, List.mem_cons] at hu
    rcases hu with rfl | rfl | hu
    · exact ⟨_, rfl⟩
    · exact ⟨_, rfl⟩
    · exact ih u hu
theorem Nk.mk {S S' : Nat → Prop} {w w' : World} {v : Value} {n : Nat} {V : Nat → V3} (h : Nk w S v n V) (hm : Mk S' w w') : Nk w' S v n V := by
  obtain ⟨h0, a, c, h1, h2, h3, h4⟩ := h
  refine ⟨fun i hi => ?_, a, c, h1, h2, h3, fun hn => ?_⟩
  · obtain ⟨np, nx, ni, b1, b2, b3, k1, k2, k3⟩ := h0 i hi
    exact ⟨np, nx, ni, b1, b2, b3, k1.mk hm kind_str, k2.mk hm kind_str, k3.mk hm kind_int⟩
  · obtain ⟨b, off, h5, h7, h8⟩ := h4 hn
    refine ⟨b, off, h5, hm.uf h7, fun i hi => ?_⟩
    obtain ⟨np, nx, ni, b1, b2, b3, k1, k2, k3⟩ := h0 i hi
    obtain ⟨c0, c1, c2⟩ := h8 i hi
    obtain ⟨u0, d0, e0⟩ := hm.cell h7 c0
    obtain ⟨u1, d1, e1⟩ := hm.cell h7 c1
    obtain ⟨u2, d2, e2⟩ := hm.cell h7 c2
    rw [d0, d1, d2, kind_slice _ k1.slice _ _ rfl e0, kind_slice _ k2.slice _ _ rfl e1, kind_slice _ k3.slice _ _ rfl e2]
    exact ⟨rfl, rfl, rfl⟩
theorem Nk.below {S : Nat → Prop} {w w' : World} {v : Value} {n : Nat} {V : Nat → V3} (h : Nk w S v n V) (hb : Below w.heap.size w w') : Nk w' S v n V := h.mk (mk_below (S := fun _ => False) hb)
theorem nk_of {w : World} {S S' : Nat → Prop} {v : Value} {ns : List NB} (h : Nr w S v ns) (hs : smallN ns) (hS : ∀ b, S b → b < w.heap.size → S' b ∧ Uf w b) : ∃ V, Nk w S' v ns.length V := by
  obtain ⟨V, h1, h2, h3⟩ := h
  refine ⟨vAt V, fun i hi => ?_, ?_⟩
  · obtain ⟨k1, k2, k3⟩ := h3 i hi
    have hb := hs i hi
    refine ⟨_, _, _, hb.1, hb.2.1, hb.2.2, ?_, ?_, ?_⟩
    · have := kw_of (K := isStr) k1 (fun u hu => pcs_str _ u hu) hS
      rwa [pcs_length] at this
    · have := kw_of (K := isStr) k2 (fun u hu => by simp at hu; obtain ⟨s, _, rfl⟩ := hu; exact ⟨s, rfl⟩) hS
      rwa [List.length_map] at this
    · have := kw_of (K := isInt) k3 (fun u hu => by simp at hu; obtain ⟨s, _, rfl⟩ := hu; exact ⟨s, rfl⟩) hS
      rwa [List.length_map] at this
  · obtain ⟨a, c, e1, e2, e3, e4, en, e5⟩ := h2
    refine ⟨a, c, e1, e2, e3, fun hp => ?_⟩
    obtain ⟨b, off, e6, e7, e8, e9⟩ := e5 hp
    refine ⟨b, off, e6, (hS b e8 e7).2, fun i hi => ?_⟩
    obtain ⟨c0, c1, c2⟩ := ncs_at V i (by omega)
    exact ⟨e9 _ _ c0, e9 _ _ c1, e9 _ _ c2⟩
def NkPost (S : Nat → Prop) (w : World) (k n : Nat) (e : Ending) (w' : World) : Prop := ∃ k' : Nat, e = .returned (.int .i64 (k' : Int)) ∧ k ≤ k' ∧ k' ≤ k + n * 4194304 ∧ Mk S w w'
end Go.Proofs.Ytcpdedpgjaimkaa
/-
  The law's helper that looks for marks in a slice of pairs: it finds them all.
-/
namespace Go.Proofs.Ytcpdedpgjaimkaa
open Go.RowKit
theorem kc1 {u v : World} {a0 : Addr} {x0 : Value} (h : KC u v [(a0, x0)]) : v.cell? a0 = some x0 ∧ KC u v [(a0, x0)] := ⟨h.at (by simp), h⟩
theorem kc0_1 {u : World} {a0 : Addr} {x0 : Value} (h0 : u.cell? a0 = some x0) : KC u u [(a0, x0)] := ⟨fun p hp => by simp at hp; rcases hp with rfl; assumption, Below.refl _ _⟩
theorem kc1c {u v v' : World} {a0 : Addr} {x0 : Value} (k : Below v.heap.size v v') (h : v.cell? a0 = some x0 ∧ KC u v [(a0, x0)]) : v'.cell? a0 = some x0 ∧ KC u v' [(a0, x0)] := kc1 (KC.call h.2 k)
/-- The marks lie there. -/
def Lies (w : World) (a : Option Addr) (n m : Nat) (V : Nat → Value) : Prop := 0 < n → ∃ b off, a = some ⟨b, off, none⟩ ∧ b < w.heap.size ∧ ∀ j, j < m → w.cell? ⟨b, off + j, none⟩ = some (V j)
theorem Lies.below {w w' : World} {a : Option Addr} {n m : Nat} {V : Nat → Value} (h : Lies w a n m V) (hb : Below w.heap.size w w') : Lies w' a n m V := by
  intro hn
  obtain ⟨b, off, h1, h2, h3⟩ := h hn
  exact ⟨b, off, h1, Nat.lt_of_lt_of_le h2 hb.size, fun j hj => by rw [hb.cell (p := ⟨b, off + j, none⟩) h2]; exact h3 j hj⟩
theorem Marked.lies {S : Nat → Prop} {w w' : World} {a : Option Addr} {n m : Nat} {V : Nat → Value} {K : Value → Prop} (h : Marked S w a n m V K w') : Lies w' a n m V := by
  intro hn
  obtain ⟨b, off, h1, _, T, xs, h2, _, h3⟩ := h.2 hn
  exact ⟨b, off, h1, h2.lt, fun j hj => h2.cell (h3 j hj)⟩
end Go.Proofs.Ytcpdedpgjaimkaa
/-
  The law's helpers that look whether marks are still there, in rows of strings and of numbers.
-/
namespace Go.Proofs.Ytcpdedpgjaimkaa
open Go.RowKit
set_option linter.unusedVariables false
end Go.Proofs.Ytcpdedpgjaimkaa
/-
  The law's helpers that write marks into an answer's tree and look whether they are still there: where all rows are apart, they are.
-/
namespace Go.Proofs.Ytcpdedpgjaimkaa
open Go.RowKit
set_option linter.unusedVariables false
def cntN (x : NB) : Nat := x.ps.length * 2 + x.keys.length + x.kids.length
def offN (ns : List NB) : Nat → Nat
  | 0 => 0
  | i + 1 => offN ns i + cntN (nAt ns i)
def LiesV (w : World) (v : Value) (n m : Nat) (V : Nat → Value) : Prop := ∃ a c, v = .slice a n c ∧ n ≤ c ∧ Lies w a n m V
theorem LiesV.to {w w' : World} {R : Nat → Prop} {v : Value} {n m : Nat} {V : Nat → Value} (h : LiesV w v n m V) (ho : Only R w w') (hR : ∀ y, v.ownBlock = some y → ¬ R y) : LiesV w' v n m V := by
  obtain ⟨a, c, rfl, h1, h2⟩ := h
  refine ⟨a, c, rfl, h1, fun hn => ?_⟩
  obtain ⟨b, off, rfl, h4, h5⟩ := h2 hn
  exact ⟨b, off, rfl, Nat.lt_of_lt_of_le h4 ho.size, fun j hj => (World.cell?_of_block (w := w) (a := ⟨b, off + j, none⟩) (ho.block b h4 (hR b rfl))).trans (h5 j hj)⟩
def LiesN (w : World) (p : V3) (x : NB) (q : Nat) : Prop := LiesV w p.1 x.ps.length (x.ps.length * 2) (mV q) ∧ LiesV w p.2.1 x.keys.length x.keys.length (mV (q + x.ps.length * 2)) ∧ LiesV w p.2.2 x.kids.length x.kids.length (mI (q + x.ps.length * 2 + x.keys.length))
theorem LiesN.to {w w' : World} {R : Nat → Prop} {p : V3} {x : NB} {q : Nat} (h : LiesN w p x q) (ho : Only R w w') (hR : ∀ y, bl p y → ¬ R y) : LiesN w' p x q := ⟨h.1.to ho (fun y e => hR y (.inl e)), h.2.1.to ho (fun y e => hR y (.inr (.inl e))), h.2.2.to ho (fun y e => hR y (.inr (.inr e)))⟩
/-- The marks stand in all rows. -/
structure MkT (w : World) (v : Value) (V : List V3) (ns : List NB) (k : Nat) : Prop where
  len : V.length = ns.length
  row : w.ownsRow 0 158 3 v ns.length (ncs V)
  lie : ∀ i, i < ns.length → LiesN w (vAt V i) (nAt ns i) (k + offN ns i)
theorem MkT.below {w w' : World} {v : Value} {V : List V3} {ns : List NB} {k : Nat} (h : MkT w v V ns k) (hb : Below w.heap.size w w') : MkT w' v V ns k := ⟨h.len, own_kept h.row (only_of_below hb (fun _ => False)) (fun _ _ h => h), fun i hi => (h.lie i hi).to (only_of_below hb (fun _ => False)) (fun _ _ h => h)⟩
def smallK (ns : List NB) : Prop := ∀ i, i < ns.length → (nAt ns i).ps.length ≤ 1000 ∧ (nAt ns i).keys.length ≤ 1000 ∧ (nAt ns i).kids.length ≤ 1000
theorem offN_le {ns : List NB} (h : smallK ns) : ∀ i, i ≤ ns.length → offN ns i ≤ i * 4000
  | 0, _ => by simp [offN]
  | i + 1, hi => by
    have := offN_le h i (by omega)
    have h2 := h i (by omega)
    simp only [offN, cntN]
    omega
theorem kw_own {w : World} {base : Nat} {e : TypeId} {size : Nat} {v : Value} {n : Nat} {xs : List Value} {K : Value → Prop} (h : w.ownsRow base e size v n xs) (hx : ∀ u ∈ xs, K u) : Kw w (fun y => v.ownBlock = some y) v n xs.length K :=
  kw_of (rw_own h (S := fun y => v.ownBlock = some y) (fun k hk _ _ => hk)) hx (fun b hb _ => ⟨hb, by
    rcases h.2 with ⟨rfl, _⟩ | ⟨g, cap, cur, rfl, _, h4, _⟩
    · cases hb
    · have e : g = b := by simpa [Value.ownBlock] using hb
      subst e
      exact ⟨_, _, h4⟩⟩)
theorem row_cells {w : World} {g n c m : Nat} {V : List V3} (h : w.ownsRow 0 158 3 (.slice (some ⟨g, 0, none⟩) n c) m (ncs V)) {i : Nat} (hi : i < V.length) : w.cell? ⟨g, i * 3, none⟩ = some (vAt V i).1 ∧ w.cell? ⟨g, i * 3 + 1, none⟩ = some (vAt V i).2.1 ∧ w.cell? ⟨g, i * 3 + 2, none⟩ = some (vAt V i).2.2 := by
  have hc := World.ownsRow.cells h (g := g) rfl
  obtain ⟨c0, c1, c2⟩ := ncs_at V i hi
  have d0 := hc _ _ c0
  have d1 := hc _ _ c1
  have d2 := hc _ _ c2
  rw [Addr.add_lit, Nat.zero_add] at d0 d1 d2
  exact ⟨d0, d1, d2⟩
theorem row_cap {w : World} {base : Nat} {e : TypeId} {size : Nat} {a : Option Addr} {n c m : Nat} {xs : List Value} (h : w.ownsRow base e size (.slice a n c) m xs) : n = m ∧ n ≤ c ∧ c ≤ 9223372036854775807 := by
  rcases h.2 with ⟨h1, h2⟩ | ⟨g, cap, cur, h1, _, _, h3, h4, _⟩
  · cases h1; exact ⟨h2.symm, Nat.le_refl _, by omega⟩
  · cases h1; unfold maxLen at h4; exact ⟨rfl, h3, by omega⟩
end Go.Proofs.Ytcpdedpgjaimkaa
/-
  Marks in an answer's tree, and whether they are still there: the lists of nodes.
-/
namespace Go.Proofs.Ytcpdedpgjaimkaa
open Go.RowKit
set_option linter.unusedVariables false
def MarkPost (w : World) (v : Value) (V : List V3) (ns : List NB) (k : Nat) (e : Ending) (w' : World) : Prop := e = .returned (.int .i64 ((k + offN ns ns.length : Nat) : Int)) ∧ MkT w' v V ns k ∧ Only (fun y => ∃ i, i < ns.length ∧ bl (vAt V i) y) w w'
mutual
theorem lay_small : ∀ (t : T) (r : Bool) (a : Nat), t.full r = true → ∀ x ∈ lay a t, x.ps.length ≤ 1000 ∧ x.keys.length ≤ 1000 ∧ x.kids.length ≤ 1000
  | .mk ps ks, r, a, h, x, hx => by
    by_cases hk : ks = []
    · subst hk
      have := (full_lf h).1
      simp [lay] at hx
      subst hx
      simp; omega
    · obtain ⟨_, h2, rfl, h3⟩ := full_br h hk
      simp only [lay, hk, if_false, List.mem_cons] at hx
      rcases hx with rfl | hx
      · simp only [List.length_nil, List.length_map, List.length_tail, places_length]; omega
      · exact layL_small ks (a + 1) h3 x hx
theorem layL_small : ∀ (ks : List T) (a : Nat), (∀ k ∈ ks, k.full false = true) → ∀ x ∈ layL a ks, x.ps.length ≤ 1000 ∧ x.keys.length ≤ 1000 ∧ x.kids.length ≤ 1000
  | [], a, _, x, hx => by simp [layL] at hx
  | k :: ks, a, h, x, hx => by
    rw [layL] at hx
    rcases List.mem_append.1 hx with hx | hx
    · exact lay_small k false a (h k (by simp)) x hx
    · exact layL_small ks (a + k.size) (fun y hy => h y (by simp [hy])) x hx
end
theorem smallK_of {ns : List NB} (h : ∀ x ∈ ns, x.ps.length ≤ 1000 ∧ x.keys.length ≤ 1000 ∧ x.kids.length ≤ 1000) : smallK ns := by
  intro i hi
  have : nAt ns i ∈ ns := by simp [nAt, hi]
  exact h _ this
end Go.Proofs.Ytcpdedpgjaimkaa
/-
  l03Tree and TreePut of the specification.
-/
namespace Go.Proofs.Ytcpdedpgjaimkaa
open Go.RowKit
/-- A root that has one kid alone gives way to it. -/
def strip1 (t : T) : T := if t.ks.length = 1 then tAt t.ks 0 else t
theorem strip1_id {t : T} (h : t.ks.length ≠ 1) : strip1 t = t := by rw [strip1, if_neg h]
def kidsN (w : World) (a : Addr) : Nat := match w.cell? a with
  | some (.slice _ n _) => if n = 1 then 1 else 0
  | _ => 0
/-- A list of nodes that is there to be read, in new blocks. -/
def NewN (w w' : World) (v : Value) (ms : List NB) : Prop := Nr w' (fun y => w.heap.size ≤ y ∧ y < w'.heap.size) v ms
theorem NewN.kept {w w' w2 : World} {v : Value} {ms : List NB} (h : NewN w w' v ms) (hb : Below w'.heap.size w' w2) : NewN w w2 v ms := (Nr.below h hb).mono (fun _ hy _ => ⟨hy.1, Nat.lt_of_lt_of_le hy.2 hb.size⟩)
theorem NewN.nil (w w' : World) : NewN w w' (.slice none 0 0) [] := ⟨[], rfl, rw_nil _ _, fun i hi => by simp at hi⟩
def NewK (w w' : World) (v : Value) (ms : List NB) : Prop := NrK w' (fun y => w.heap.size ≤ y ∧ y < w'.heap.size) v ms
theorem NewK.nil (w w' : World) : NewK w w' (.slice none 0 0) [] := nrK_nil _ _
theorem NewK.new {w w' : World} {v : Value} {ms : List NB} (h : NewK w w' v ms) : NewN w w' v ms := NrK.nr h
def STree (w : World) (ms : List NB) (e : Ending) (w' : World) : Prop := ∃ a n c, e = .returned (.agg #[.slice a n c]) ∧ NewK w w' (.slice a n c) ms ∧ Below w.heap.size w w'
set_option maxHeartbeats 2000000 in
set_option maxRecDepth 20000 in
theorem specTree_any (S : Nat → Prop) (lf : Bool) (ap ak : Option Addr) (np cp nk ck : Nat) (t : T) (w : World) (h : Sub w S lf (.slice ap np cp) (.slice ak nk ck) t) (h1 : (strip1 t).ks.length ≠ 1) (hf : (strip1 t).full true = true ∨ strip1 t = bareT) (hz : (strip1 t).size ≤ 1048576) :
    Calls Try.prog 170 #[.agg #[.bool lf, .slice ap np cp, .slice ak nk ck]] w fun e w' => STree w (layT (strip1 t)) e w' := by
  obtain ⟨_, _, _, _, _, _, e1, e2, -, -, -, -, -, -⟩ := h.shape
  cases e1
  cases e2
  have H0 : Hid (Sub w (fun y => y < w.heap.size) lf (.slice ap np cp) (.slice ak nk ck) t) := h.mono (fun y hy hl => hl)
  have HB0 : Hid (Below w.heap.size w ((w.alloc (.cells #[.bool lf, .slice ap np cp, .slice ak nk ck] 169)).alloc (.cells #[.slice none 0 0] 25))) := below_new (below_new (Below.refl _ _))
  have K0 : Hid (Bk ((w.alloc (.cells #[.bool lf, .slice ap np cp, .slice ak nk ck] 169)).alloc (.cells #[.slice none 0 0] 25)) w.heap.size 169 [.bool lf, .slice ap np cp, .slice ak nk ck]) := (Bk.new w 169 [.bool lf, .slice ap np cp, .slice ak nk ck]).alloc _
  have KR : Hid (Bk ((w.alloc (.cells #[.bool lf, .slice ap np cp, .slice ak nk ck] 169)).alloc (.cells #[.slice none 0 0] 25)) (w.heap.size + 1) 25 [.slice none 0 0]) := by
    have := Bk.new (w.alloc (.cells #[.bool lf, .slice ap np cp, .slice ak nk ck] 169)) 25 [.slice none 0 0]
    show Bk _ _ _ _
    simpa using this
  have HS := hid h1
  have HF := hid hf
  have HZ := hid hz
  clear h h1 hf hz
  generalize hT : strip1 t = T0 at *
  have HT := hid hT
  clear hT
  go_enter Try.func170, Try.ntmps170
  go_wp2_with fail
  go_loopw [3] (fun x wr => ∃ (l : Bool) (a0 b0 : Option Addr) (n0 c0 m0 d0 : Nat) (t' : T), x = x ∧ Hid (Bk wr w.heap.size 169 [.bool l, .slice a0 n0 c0, .slice b0 m0 d0]) ∧ Hid (Sub wr (fun y => y < w.heap.size) l (.slice a0 n0 c0) (.slice b0 m0 d0) t') ∧ Hid (strip1 t' = T0) ∧ Hid (Bk wr (w.heap.size + 1) 25 [.slice none 0 0]) ∧ Hid (Below w.heap.size w wr)) (fun _ wr => kidsN wr ⟨w.heap.size, 2, none⟩)
  case atStart => exact ⟨lf, ap, ak, np, cp, nk, ck, t, rfl, K0.out, H0.out.kept HB0.out, HT.out, KR.out, HB0.out⟩
  case round =>
    obtain ⟨l, a0, b0, n0, c0, m0, d0, t', -, HK, HSB, HE, HR, HB⟩ := hrel
    obtain ⟨_, _, _, _, _, _, e1, e2, HN0, HM0, -, -, hl, -⟩ := HSB.out.shape
    cases e1
    cases e2
    have q0 := HK.out.cell (j := 0) rfl
    have q1 := HK.out.cell (j := 1) rfl
    have q2 := HK.out.cell (j := 2) rfl
    have f0 := HK.out.free 0
    have f1 := HK.out.free 1
    have f2 := HK.out.free 2
    by_cases hm : m0 = 1
    · have hl' : l = false := by rw [hl, hm]; rfl
      subst hm
      subst hl'
      obtain ⟨g, off, hab, hg1, hg2, hkid⟩ := HSB.out.kids (by omega)
      subst hab
      obtain ⟨l9, ap9, np9, cp9, ak9, nk9, ck9, x0, x1, x2, hs9⟩ := hkid 0 (by omega)
      simp only [Nat.zero_mul, Nat.add_zero] at x0 x1 x2
      have hE : tAt t'.ks 0 = T0 := by
        have := HE.out
        rwa [strip1, if_pos HM0.out.symm] at this
      have HN9 : Hid (nk9 ≠ 1) := by
        obtain ⟨_, _, _, _, _, _, _, e2, -, h5, -⟩ := hs9.shape
        cases e2
        rw [hE] at h5
        show _ ≠ _
        rw [h5.out]; exact HS.out
      rw [hE] at hs9
      have hon : Only (fun y => y = w.heap.size) wr (((wr.setCell ⟨w.heap.size, 0, none⟩ (.bool l9)).setCell ⟨w.heap.size, 1, none⟩ (.slice ap9 np9 cp9)).setCell ⟨w.heap.size, 2, none⟩ (.slice ak9 nk9 ck9)) := ((only_set (R := fun y => y = w.heap.size) rfl _).trans (only_set (R := fun y => y = w.heap.size) rfl _)).trans (only_set (R := fun y => y = w.heap.size) rfl _)
      have HK2 := hid (((HK.out.set 0 (.bool l9)).set 1 (.slice ap9 np9 cp9)).set 2 (.slice ak9 nk9 ck9))
      have HS2 := hid (hs9.to hon (fun y hy _ e => by omega))
      have HR2 := hid (HR.out.to hon (by omega))
      have HB2 : Hid (Below w.heap.size w (((wr.setCell ⟨w.heap.size, 0, none⟩ (.bool l9)).setCell ⟨w.heap.size, 1, none⟩ (.slice ap9 np9 cp9)).setCell ⟨w.heap.size, 2, none⟩ (.slice ak9 nk9 ck9))) := HB.out.trans (hon.below HB.out.size (fun b hb e => by omega))
      have HM1 : Hid (kidsN wr ⟨w.heap.size, 2, none⟩ = 1) := by show _ = _; rw [kidsN, q2]; simp
      have HM2 : Hid (kidsN (((wr.setCell ⟨w.heap.size, 0, none⟩ (.bool l9)).setCell ⟨w.heap.size, 1, none⟩ (.slice ap9 np9 cp9)).setCell ⟨w.heap.size, 2, none⟩ (.slice ak9 nk9 ck9)) ⟨w.heap.size, 2, none⟩ = 0) := by
        show _ = _
        rw [kidsN, HK2.out.cell (j := 2) rfl]
        simp [HN9.out]
      clear hkid hs9 hon hg1 hg2 hl hE
      go_wp2
      go_roundw
      case rel => exact ⟨l9, ap9, ak9, np9, cp9, nk9, ck9, T0, trivial, HK2.out, HS2.out, strip1_id HS.out, HR2.out, HB2.out⟩
      case measure => rw [HM2.out, HM1.out]; omega
    · have hE : t' = T0 := by
        have := HE.out
        rwa [strip1, if_neg (by rw [← HM0.out]; exact hm)] at this
      subst hE
      have hm' : ¬ (m0 : Int) = 1 := by omega
      have r0 := HR.out.cell (j := 0) rfl
      have rf := HR.out.free 0
      by_cases hm0 : m0 = 0
      · have hl' : l = true := by rw [hl, hm0]; rfl
        subst hm0 hl'
        clear hl
        by_cases hn0 : n0 = 0
        · subst hn0
          have HBA : Hid (layT t' = []) := by
            show _ = _
            rw [layT, if_pos]
            exact decide_eq_true (by have h1 := HN0.out; have h2 := HM0.out; omega)
          have HFB : Hid (Below w.heap.size w (wr.setCell ⟨w.heap.size + 1, 0, none⟩ (.slice none 0 0))) := ⟨HB.out.os, HB.out.tape, HB.out.output, by simp [World.setCell]; exact HB.out.size, fun i hi => (Below.heap_setCell _ _ _ _ (show i ≠ w.heap.size + 1 by omega)).trans (HB.out.block i hi)⟩
          have d1 := (HR.out.set 0 (.slice none 0 0)).cell (j := 0) rfl
          go_wp2
          refine bodyPost_ret (v := .agg #[.slice none 0 0]) ?_ rfl ?_
          · refine results_tree1 rfl _ _ _ rfl ?_
            exact d1
          · rw [HBA.out]; exact ⟨_, _, _, rfl, NewK.nil _ _, HFB.out⟩
        · have hn1 : ¬ (n0 : Int) = 0 := by omega
          have HFU : Hid (t'.full true = true) := by
            rcases HF.out with h | h
            · exact h
            · exfalso
              have h1 := HN0.out
              have h2 := HM0.out
              rw [h] at h1 h2
              simp [bareT, T.ps, T.ks] at h1 h2
              omega
          have HBA : Hid (layT t' = lay 0 t') := by
            show _ = _
            rw [layT, if_neg]
            rw [show t'.bare = false from decide_eq_false (by have h1 := HN0.out; have h2 := HM0.out; omega)]; simp
          go_wp2_with fail
          refine (specLay_any t' (fun y => y < w.heap.size) true a0 b0 n0 c0 0 d0 wr (fun _ => False) none 0 0 [] true HSB.out (fun y _ => by simp [Value.ownBlock]) (no_nil wr) (by have := HZ.out; simpa using this) HFU.out).mono ?_
          rintro e w2 ⟨v2, rfl, hN2, ho2, hv2⟩
          have hb2 : Below wr.heap.size wr w2 := ho2.below (Nat.le_refl _) (fun b _ h => by cases h)
          obtain ⟨a2, n2, c2, e2, -⟩ := hN2.shape
          subst e2
          simp only [List.nil_append, List.length_nil] at hN2
          have HR2 := hid (HR.out.below hb2)
          have HB2 := hid (Below.then' HB.out hb2 (Nat.le_refl _))
          have hwr : w.heap.size + 1 < wr.heap.size := HR.out.lt
          have HFB : Hid (Below w.heap.size w (w2.setCell ⟨w.heap.size + 1, 0, none⟩ (.slice a2 n2 c2))) := ⟨HB2.out.os, HB2.out.tape, HB2.out.output, by simp [World.setCell]; exact HB2.out.size, fun i hi => (Below.heap_setCell _ _ _ _ (show i ≠ w.heap.size + 1 by omega)).trans (HB2.out.block i hi)⟩
          have HNN : Hid (NewK w (w2.setCell ⟨w.heap.size + 1, 0, none⟩ (.slice a2 n2 c2)) (.slice a2 n2 c2) (layT t')) := by
            show NewK _ _ _ _
            rw [HBA.out]
            have hzz : (w2.setCell ⟨w.heap.size + 1, 0, none⟩ (.slice a2 n2 c2)).heap.size = w2.heap.size := by simp [World.setCell]
            have hlt := hN2.lt
            obtain ⟨V, n1, n2', n3, n4, n5⟩ := hN2
            have hn : NrK w2 (fun y => wr.heap.size ≤ y) (.slice a2 n2 c2) (lay 0 t') := by
              refine ⟨V, n1, ⟨n2', fun y hy => ?_⟩, fun i hi => (n3 i hi).mono (fun y hy _ => ?_), n5, fun i hi y hy => (n4 y ((n3 i hi).2.2.2 y hy)).2⟩
              · rcases hv2 y hy with h | h
                · cases h
                · exact h
              · rcases hy with h | h
                · exact h.elim
                · exact h.1
            refine (hn.to (only_set (R := fun y => y = w.heap.size + 1) rfl _) (fun y hy _ e => by omega)).mono (fun y hy hl => ⟨by omega, hl⟩)
          have e0 := HR2.out.cell (j := 0) rfl
          have e1 := HR2.out.free 0
          have d1 := (HR2.out.set 0 (.slice a2 n2 c2)).cell (j := 0) rfl
          clear hN2 ho2 hv2 hb2 r0 rf
          go_wp2
          refine bodyPost_ret (v := .agg #[.slice a2 n2 c2]) ?_ rfl ?_
          · refine results_tree1 rfl _ _ _ rfl ?_
            exact d1
          · exact ⟨_, _, _, rfl, HNN.out, HFB.out⟩
      · have hl' : l = false := by rw [hl]; exact decide_eq_false hm0
        subst hl'
        clear hl
        have HFU : Hid (t'.full true = true) := by
          rcases HF.out with h | h
          · exact h
          · exfalso
            have h1 := HN0.out
            have h2 := HM0.out
            rw [h] at h1 h2
            simp [bareT, T.ps, T.ks] at h1 h2
            omega
        have HBA : Hid (layT t' = lay 0 t') := by
          show _ = _
          rw [layT, if_neg]
          rw [show t'.bare = false from decide_eq_false (by have h1 := HN0.out; have h2 := HM0.out; omega)]; simp
        go_wp2_with fail
        refine (specLay_any t' (fun y => y < w.heap.size) false a0 b0 n0 c0 m0 d0 wr (fun _ => False) none 0 0 [] true HSB.out (fun y _ => by simp [Value.ownBlock]) (no_nil wr) (by have := HZ.out; simpa using this) HFU.out).mono ?_
        rintro e w2 ⟨v2, rfl, hN2, ho2, hv2⟩
        have hb2 : Below wr.heap.size wr w2 := ho2.below (Nat.le_refl _) (fun b _ h => by cases h)
        obtain ⟨a2, n2, c2, e2, -⟩ := hN2.shape
        subst e2
        simp only [List.nil_append, List.length_nil] at hN2
        have HR2 := hid (HR.out.below hb2)
        have HB2 := hid (Below.then' HB.out hb2 (Nat.le_refl _))
        have hwr : w.heap.size + 1 < wr.heap.size := HR.out.lt
        have HFB : Hid (Below w.heap.size w (w2.setCell ⟨w.heap.size + 1, 0, none⟩ (.slice a2 n2 c2))) := ⟨HB2.out.os, HB2.out.tape, HB2.out.output, by simp [World.setCell]; exact HB2.out.size, fun i hi => (Below.heap_setCell _ _ _ _ (show i ≠ w.heap.size + 1 by omega)).trans (HB2.out.block i hi)⟩
        have HNN : Hid (NewK w (w2.setCell ⟨w.heap.size + 1, 0, none⟩ (.slice a2 n2 c2)) (.slice a2 n2 c2) (layT t')) := by
          show NewK _ _ _ _
          rw [HBA.out]
          have hzz : (w2.setCell ⟨w.heap.size + 1, 0, none⟩ (.slice a2 n2 c2)).heap.size = w2.heap.size := by simp [World.setCell]
          have hlt := hN2.lt
          obtain ⟨V, n1, n2', n3, n4, n5⟩ := hN2
          have hn : NrK w2 (fun y => wr.heap.size ≤ y) (.slice a2 n2 c2) (lay 0 t') := by
            refine ⟨V, n1, ⟨n2', fun y hy => ?_⟩, fun i hi => (n3 i hi).mono (fun y hy _ => ?_), n5, fun i hi y hy => (n4 y ((n3 i hi).2.2.2 y hy)).2⟩
            · rcases hv2 y hy with h | h
              · cases h
              · exact h
            · rcases hy with h | h
              · exact h.elim
              · exact h.1
          refine (hn.to (only_set (R := fun y => y = w.heap.size + 1) rfl _) (fun y hy _ e => by omega)).mono (fun y hy hl => ⟨by omega, hl⟩)
        have e0 := HR2.out.cell (j := 0) rfl
        have e1 := HR2.out.free 0
        have d1 := (HR2.out.set 0 (.slice a2 n2 c2)).cell (j := 0) rfl
        clear hN2 ho2 hv2 hb2 r0 rf
        go_wp2
        refine bodyPost_ret (v := .agg #[.slice a2 n2 c2]) ?_ rfl ?_
        · refine results_tree1 rfl _ _ _ rfl ?_
          exact d1
        · exact ⟨_, _, _, rfl, HNN.out, HFB.out⟩
theorem strip1_two (x : T × T) : strip1 (.mk [] (two x)) = rootT x := by
  unfold strip1 rootT two
  cases h : x.2.bare with
  | true => simp [T.ks, tAt]
  | false => simp [T.ks]
theorem two_all (x : T × T) : (T.mk [] (two x)).all = (rootT x).all := by
  have : (T.mk [] (two x)).all = allL (two x) := by simp [T.all]
  rw [this]
  unfold rootT two
  cases h : x.2.bare with
  | true => simp [allL]
  | false => simp [allL, T.all]
theorem full_ks1 {t : T} {r : Bool} (h : t.full r = true) : t.ks.length ≠ 1 := by
  obtain ⟨ps, ks⟩ := t
  simp only [T.ks]
  by_cases hk : ks = []
  · subst hk; simp
  · obtain ⟨h1, _⟩ := full_br h hk; omega
def STPost (o : Option (List NB)) (w : World) (e : Ending) (w' : World) : Prop := ∃ a n c, e = .returned (.tuple #[.agg #[.slice a n c], .bool o.isSome]) ∧ NewK w w' (.slice a n c) (o.getD []) ∧ Below w.heap.size w w'
set_option maxHeartbeats 2000000 in
set_option maxRecDepth 20000 in
theorem specTreePut_any (ns : List NB) (hlen : ns.length ≤ 1048576) (hsm : smallN ns) (S : Nat → Prop) (an : Option Addr) (nn cn : Nat) (k v : ByteArray) (w : World) (hN : Nr w S (.slice an nn cn) ns) :
    Calls Try.prog 146 #[.agg #[.slice an nn cn], .string k, .string v] w fun e w' => STPost (putV ns k v) w e w' := by
  have h1 := hN.len.2.1
  have h2 := hN.len.2.2
  have HB0 : Hid (Below w.heap.size w ((w.alloc (.cells #[.slice an nn cn] 25)).alloc (.cells #[.slice none 0 0] 25))) := below_new (below_new (Below.refl _ _))
  have K0 : Hid (Bk ((w.alloc (.cells #[.slice an nn cn] 25)).alloc (.cells #[.slice none 0 0] 25)) (w.heap.size + 1) 25 [.slice none 0 0]) := by
    have := Bk.new (w.alloc (.cells #[.slice an nn cn] 25)) 25 [.slice none 0 0]
    show Bk _ _ _ _
    simpa using this
  have KA : Hid (Bk ((w.alloc (.cells #[.slice an nn cn] 25)).alloc (.cells #[.slice none 0 0] 25)) w.heap.size 25 [.slice an nn cn]) := (Bk.new w 25 [.slice an nn cn]).alloc _
  have a0 := KA.out.cell (j := 0) rfl
  have H0 := hid (hN.below HB0.out)
  have HLS := hid (And.intro hlen hsm)
  clear hN hlen hsm
  go_enter Try.func146, Try.ntmps146
  go_wp2_with fail
  refine (specTreeOk_any ns HLS.out.1 HLS.out.2 S an nn cn _ H0.out).mono ?_
  generalize (w.alloc (.cells #[.slice an nn cn] 25)).alloc (.cells #[.slice none 0 0] 25) = U at *
  rintro e w1 ⟨rfl, hb⟩
  have HB1 := hid (HB0.out.trans (hb.mono HB0.out.size))
  have K1 := hid (K0.out.below hb)
  have KA1 := hid (KA.out.below hb)
  have H1 := hid (H0.out.below hb)
  clear hb HB0 K0 H0 KA a0
  have HNO : Hid (∀ (X : World) (u : Value), Below w.heap.size w X → Below w.heap.size w (X.setCell ⟨w.heap.size + 1, 0, none⟩ u)) := fun X u hb => ⟨hb.os, hb.tape, hb.output, by simp [World.setCell]; exact hb.size, fun i hi => (Below.heap_setCell _ _ _ _ (show i ≠ w.heap.size + 1 by omega)).trans (hb.block i hi)⟩
  rw [spOk_eq]
  have c0 := K1.out.cell (j := 0) rfl
  have f0 := K1.out.free 0
  have d0 := (K1.out.set 0 (.slice none 0 0)).cell (j := 0) rfl
  cases hr : okT ns with
  | none =>
    have HR : Hid (putV ns k v = none) := by show _ = _; rw [putV, hr]
    clear hr
    go_wp2
    refine bodyPost_ret (v := .tuple #[.agg #[.slice none 0 0], .bool false]) ?_ rfl ?_
    · refine results_tree2 rfl _ _ _ rfl rfl ?_
      exact d0
    · rw [HR.out]; exact ⟨_, _, _, rfl, NewK.nil _ _, HNO.out _ _ HB1.out⟩
  | some t =>
    have HR : Hid (putV ns k v = if kOk k = true ∧ vOk v = true then (if 200 < (rootT (putF t.lv t (k, v))).all.length then none else some (layT (rootT (putF t.lv t (k, v))))) else none) := by show _ = _; rw [putV, hr]
    cases hk : kOk k with
    | false =>
      have HR2 : Hid (putV ns k v = none) := by show _ = _; rw [HR.out, hk]; simp
      have HKO := hid (specKeyOk_is k false hk)
      clear hk HR hr
      go_wp2_with fail
      refine (HKO.out w1).mono ?_
      rintro e w2 ⟨rfl, rfl⟩
      go_wp2
      refine bodyPost_ret (v := .tuple #[.agg #[.slice none 0 0], .bool false]) ?_ rfl ?_
      · refine results_tree2 rfl _ _ _ rfl rfl ?_
        exact d0
      · rw [HR2.out]; exact ⟨_, _, _, rfl, NewK.nil _ _, HNO.out _ _ HB1.out⟩
    | true =>
      have HKO := hid (specKeyOk_is k true hk)
      cases hv : vOk v with
      | false =>
        have HR2 : Hid (putV ns k v = none) := by show _ = _; rw [HR.out, hv]; simp
        have HVO := hid (specValOk_any v)
        rw [hv] at HVO
        clear hk hv HR hr
        go_wp2_with fail
        refine (HKO.out w1).mono ?_
        rintro e w2 ⟨rfl, rfl⟩
        go_wp2_with fail
        refine (HVO.out w2).mono ?_
        rintro e w3 ⟨rfl, rfl⟩
        go_wp2
        refine bodyPost_ret (v := .tuple #[.agg #[.slice none 0 0], .bool false]) ?_ rfl ?_
        · refine results_tree2 rfl _ _ _ rfl rfl ?_
          exact d0
        · rw [HR2.out]; exact ⟨_, _, _, rfl, NewK.nil _ _, HNO.out _ _ HB1.out⟩
      | true =>
        have HR2 : Hid (putV ns k v = if 200 < (rootT (putF t.lv t (k, v))).all.length then none else some (layT (rootT (putF t.lv t (k, v))))) := by show _ = _; rw [HR.out, hk, hv]; simp
        have HVO := hid (specValOk_any v)
        rw [hv] at HVO
        have HOK := hid (okT_facts hr)
        have HG := hid (okT_putIn hr)
        have HRO := hid (rootT_ok hr (k, v))
        have HSZ := hid (putV_size hr (k, v))
        have HPS : Hid (putS t.lv t (k, v) = two (putF t.lv t (k, v))) := putS_eq t.lv true t (k, v) HG.out
        clear hk hv HR hr
        have g0 := KA1.out.cell (j := 0) rfl
        go_wp2_with fail
        refine (HKO.out w1).mono ?_
        rintro e w2 ⟨rfl, rfl⟩
        go_wp2_with fail
        refine (HVO.out w2).mono ?_
        rintro e w3 ⟨rfl, rfl⟩
        clear HKO HVO c0 f0 d0
        go_wp2_with fail
        refine (specRoot_any ns HLS.out.1 HLS.out.2 S an nn cn w2 H1.out).mono ?_
        rintro e w3 ⟨hpost, hb⟩
        rw [HOK.out.root] at hpost
        obtain ⟨lf, ap, np, cp, ak, nk, ck, rfl, hs⟩ := hpost
        have HS3 := hid hs
        have HB3 := hid (Below.then' HB1.out hb (Nat.le_refl _))
        have K3 := hid (K1.out.below hb)
        clear hs hb K1 KA1 g0 HB1 H1
        have HB4 := hid (below_new (o := .cells #[.bool lf, .slice ap np cp, .slice ak nk ck] 169) (w := w3) (Below.refl _ _))
        have KS := hid (Bk.new w3 169 [.bool lf, .slice ap np cp, .slice ak nk ck])
        have k0 := KS.out.cell (j := 0) rfl
        have k1 := KS.out.cell (j := 1) rfl
        have k2 := KS.out.cell (j := 2) rfl
        go_wp2_with fail
        refine (specPut_any t.lv true _ lf ap ak np cp nk ck t k v _ (HS3.out.kept HB4.out) HG.out).mono ?_
        rintro e w5 ⟨v5, rfl, hR5, hb5⟩
        rw [HPS.out] at hR5
        obtain ⟨a5, n5, c5, e5, -⟩ := hR5.shape
        subst e5
        have HR5 : Hid (SubR w5 (fun _ => True) (.slice a5 n5 c5) (two (putF t.lv t (k, v)))) := hR5.mono (fun _ _ _ => trivial)
        have HB5 := hid (Below.then' (Below.then' HB3.out HB4.out (Nat.le_refl _)) hb5 (Nat.le_refl _))
        have K5 := hid ((K3.out.below HB4.out).below hb5)
        clear hR5 hb5 k0 k1 k2 KS HB4 HB3 K3 HS3
        generalize putF t.lv t (k, v) = rr at *
        have HST := hid (strip1_two rr)
        have HAL := hid (two_all rr)
        have HNE : Hid (two rr ≠ []) := fun e => by have := (two_len rr).1; rw [e] at this; simp at this
        have HB6 := hid (below_new (o := .cells #[.bool false, .slice none 0 0, .slice a5 n5 c5] 169) (w := w5) (Below.refl _ _))
        have KS := hid (Bk.new w5 169 [.bool false, .slice none 0 0, .slice a5 n5 c5])
        have HS6 := hid ((HR5.out.kept HB6.out).sub HNE.out)
        have HBW := hid (Below.then' HB5.out HB6.out (Nat.le_refl _))
        have K6 := hid (K5.out.below HB6.out)
        have k0 := KS.out.cell (j := 0) rfl
        have k1 := KS.out.cell (j := 1) rfl
        have k2 := KS.out.cell (j := 2) rfl
        go_wp2_with fail
        refine (specPairs_any (.mk [] (two rr)) _ false none a5 0 0 n5 c5 _ HS6.out (by rw [HAL.out]; have := HSZ.out.1; omega)).mono ?_
        generalize w5.alloc (.cells #[.bool false, .slice none 0 0, .slice a5 n5 c5] 169) = X at *
        rintro e w7 ⟨v7, rfl, hO, hb⟩
        rw [HAL.out] at hO
        obtain ⟨a7, n7, c7, e7, hn7⟩ := hO.shape'
        subst e7
        have HN7 := hid hn7.out
        have hn5 : n7 ≤ 201 := by have := HN7.out; have := HSZ.out.1; omega
        have HB7 := hid (Below.then' HBW.out hb (Nat.le_refl _))
        have K7 := hid (K6.out.below hb)
        have KS7 := hid (KS.out.below hb)
        have HS7 := hid (HS6.out.kept hb)
        clear hO hb hn7 k0 k1 k2 KS K6 HS6 HBW HB6 HB5 K5 HR5
        have c0 := K7.out.cell (j := 0) rfl
        have f0 := K7.out.free 0
        have d0 := (K7.out.set 0 (.slice none 0 0)).cell (j := 0) rfl
        have k0 := KS7.out.cell (j := 0) rfl
        have k1 := KS7.out.cell (j := 1) rfl
        have k2 := KS7.out.cell (j := 2) rfl
        by_cases hlen : 200 < n7
        · have hlen' : (200 : Int) < (n7 : Int) := by omega
          have HR3 : Hid (putV ns k v = none) := by
            show _ = _
            rw [HR2.out, if_pos]
            have := HN7.out; omega
          go_wp2
          refine bodyPost_ret (v := .tuple #[.agg #[.slice none 0 0], .bool false]) ?_ rfl ?_
          · refine results_tree2 rfl _ _ _ rfl rfl ?_
            exact d0
          · rw [HR3.out]; exact ⟨_, _, _, rfl, NewK.nil _ _, HNO.out _ _ HB7.out⟩
        · have hlen' : ¬ (200 : Int) < (n7 : Int) := by omega
          have HR3 : Hid (putV ns k v = some (layT (rootT rr))) := by
            show _ = _
            rw [HR2.out, if_neg]
            have := HN7.out; omega
          clear d0
          go_wp2_with fail
          refine (specTree_any _ false none a5 0 0 n5 c5 (.mk [] (two rr)) w7 HS7.out (by rw [HST.out]; exact full_ks1 HRO.out.1) (by rw [HST.out]; exact .inl HRO.out.1) (by rw [HST.out]; have := HSZ.out.2.1; omega)).mono ?_
          rintro e w8 ⟨a8, n8, c8, rfl, hN8, hb8⟩
          rw [HST.out] at hN8
          have K8 := hid (K7.out.below hb8)
          have HB8 := hid (Below.then' HB7.out hb8 (Nat.le_refl _))
          have hwx : w.heap.size + 1 < w7.heap.size := K7.out.lt
          have HNN : Hid (NewK w (w8.setCell ⟨w.heap.size + 1, 0, none⟩ (.slice a8 n8 c8)) (.slice a8 n8 c8) (layT (rootT rr))) := (NrK.to hN8 (only_set (R := fun y => y = w.heap.size + 1) rfl _) (fun y hy _ e => by have := hy.1; omega)).mono (fun y hy hl => ⟨by have := hy.1; omega, hl⟩)
          have e0 := K8.out.cell (j := 0) rfl
          have e1 := K8.out.free 0
          have d1 := (K8.out.set 0 (.slice a8 n8 c8)).cell (j := 0) rfl
          clear hN8 hb8 c0 f0
          go_wp2
          refine bodyPost_ret (v := .tuple #[.agg #[.slice a8 n8 c8], .bool true]) ?_ rfl ?_
          · refine results_tree2 rfl _ _ _ rfl rfl ?_
            exact d1
          · rw [HR3.out]; exact ⟨_, _, _, rfl, HNN.out, HNO.out _ _ HB8.out⟩
theorem layT_small {t : T} (h : t.full true = true ∨ t = bareT) (hz : t.size ≤ 1000) : smallK (layT t) ∧ (layT t).length ≤ 100000 := by
  unfold layT
  split
  · exact ⟨fun i hi => by simp at hi, by simp⟩
  · rename_i hb
    rcases h with h | h
    · exact ⟨smallK_of (lay_small t true 0 h), by rw [lay_length]; omega⟩
    · rw [h] at hb; exact absurd rfl hb
theorem putV_small (ns : List NB) (k v : ByteArray) : smallK ((putV ns k v).getD []) ∧ ((putV ns k v).getD []).length ≤ 100000 := by
  have h0 : smallK (([] : List NB)) ∧ ([] : List NB).length ≤ 100000 := ⟨fun i hi => by simp at hi, by simp⟩
  unfold putV
  split
  · exact h0
  · rename_i t h
    split
    · split
      · exact h0
      · exact layT_small (.inl (rootT_ok h (k, v)).1) (by have := (putV_size h (k, v)).2.1; omega)
    · exact h0
end Go.Proofs.Ytcpdedpgjaimkaa
/-
  l03Drop and TreeDrop of the specification.
-/
namespace Go.Proofs.Ytcpdedpgjaimkaa
open Go.RowKit
theorem results_sub1 {fn : Func} {p : Tmp} (h : fn.results = #[.cell p 169]) (tmps : Array Value) (w : World) (g : Nat) {x y z : Value} (hp : tmps.getD p undef = .pointer (some ⟨g, 0, none⟩)) (c0 : w.cell? ⟨g, 0, none⟩ = some x) (c1 : w.cell? ⟨g, 1, none⟩ = some y) (c2 : w.cell? ⟨g, 2, none⟩ = some z) : (results fn tmps).run Try.prog w = .ok (.agg #[x, y, z]) w := by
  have hp' : tmps[p]?.getD undef = .pointer (some ⟨g, 0, none⟩) := by simpa using hp
  simp [results, h, hp', asAddr, load_sub c0 c1 c2]
def DropPost (w : World) (S : Nat → Prop) (t : T) (e : Ending) (w' : World) : Prop := ∃ lf ap np cp ak nk ck, e = .returned (.agg #[.bool lf, .slice ap np cp, .slice ak nk ck]) ∧ Sub w' (fun y => S y ∨ w.heap.size ≤ y) lf (.slice ap np cp) (.slice ak nk ck) t ∧ Below w.heap.size w w'
/-- What is kept: the sub, the cells of the answer. -/
structure DrI (w wr : World) (lf : Bool) (pv kv : Value) : Prop where
  s : Bk wr w.heap.size 169 [.bool lf, pv, kv]
  r : Bk wr (w.heap.size + 1) 169 [.bool false, .slice none 0 0, .slice none 0 0]
  b : Below w.heap.size w wr
  z : w.heap.size + 2 ≤ wr.heap.size
theorem DrI.keep {w wr w1 : World} {lf : Bool} {pv kv : Value} (h : DrI w wr lf pv kv) (hb : Below wr.heap.size wr w1) : DrI w w1 lf pv kv := ⟨h.s.below hb, h.r.below hb, Below.then' h.b hb (Nat.le_refl _), Nat.le_trans h.z hb.size⟩
theorem DrI.only {w u w2 : World} {lf : Bool} {pv kv : Value} {R : Nat → Prop} (h : DrI w u lf pv kv) (hon : Only R u w2) (ho : ∀ x, R x → w.heap.size + 2 ≤ x) : DrI w w2 lf pv kv :=
  ⟨h.s.to hon (fun e => by have := ho _ e; omega), h.r.to hon (fun e => by have := ho _ e; omega), h.b.trans (hon.below h.b.size (fun b hb e => by have := ho _ e; omega)), Nat.le_trans h.z hon.size⟩
theorem DrI.grow {w u w2 : World} {lf : Bool} {pv kv : Value} {o : Option Nat} (h : DrI w u lf pv kv) (hg : u.grownBy w2 o) (ho : ∀ x, o = some x → w.heap.size + 2 ≤ x) : DrI w w2 lf pv kv := h.only (only_of_grown hg (R := fun y => o = some y) (fun _ e => e)) (fun x e => ho x e)
theorem dri_start (w : World) (lf : Bool) (pv kv : Value) : DrI w ((w.alloc (.cells #[.bool lf, pv, kv] 169)).alloc (.cells #[.bool false, .slice none 0 0, .slice none 0 0] 169)) lf pv kv := by
  refine ⟨(Bk.new w 169 [.bool lf, pv, kv]).alloc _, ?_, below_new (below_new (Below.refl _ _)), by simp⟩
  have := Bk.new (w.alloc (.cells #[.bool lf, pv, kv] 169)) 169 [.bool false, .slice none 0 0, .slice none 0 0]
  simpa using this
/-- The answer is stored. -/
theorem DrI.done {w wr : World} {lf lf' : Bool} {pv kv pv' kv' : Value} {S : Nat → Prop} {t : T} (h : DrI w wr lf pv kv) (hs : Sub wr (fun y => S y ∨ w.heap.size + 2 ≤ y) lf' pv' kv' t) (hS : ∀ y, S y → y < w.heap.size) :
    Sub (((wr.setCell ⟨w.heap.size + 1, 0, none⟩ (.bool lf')).setCell ⟨w.heap.size + 1, 1, none⟩ pv').setCell ⟨w.heap.size + 1, 2, none⟩ kv') (fun y => S y ∨ w.heap.size ≤ y) lf' pv' kv' t ∧ Below w.heap.size w (((wr.setCell ⟨w.heap.size + 1, 0, none⟩ (.bool lf')).setCell ⟨w.heap.size + 1, 1, none⟩ pv').setCell ⟨w.heap.size + 1, 2, none⟩ kv') ∧
      Bk (((wr.setCell ⟨w.heap.size + 1, 0, none⟩ (.bool lf')).setCell ⟨w.heap.size + 1, 1, none⟩ pv').setCell ⟨w.heap.size + 1, 2, none⟩ kv') (w.heap.size + 1) 169 [.bool lf', pv', kv'] := by
  have hon : Only (fun y => y = w.heap.size + 1) wr (((wr.setCell ⟨w.heap.size + 1, 0, none⟩ (.bool lf')).setCell ⟨w.heap.size + 1, 1, none⟩ pv').setCell ⟨w.heap.size + 1, 2, none⟩ kv') := ((only_set (R := fun y => y = w.heap.size + 1) rfl _).trans (only_set (R := fun y => y = w.heap.size + 1) rfl _)).trans (only_set (R := fun y => y = w.heap.size + 1) rfl _)
  refine ⟨(hs.to hon (fun y hy _ e => ?_)).mono (fun y hy _ => hy.imp id (fun h => by omega)), h.b.trans (hon.below h.b.size (fun b hb e => by omega)), ((h.r.set 0 _).set 1 _).set 2 _⟩
  rcases hy with hy | hy
  · have := hS y hy; omega
  · omega
theorem row_setB {w : World} {base : Nat} {E : TypeId} {s g n c m : Nat} {xs : List Value} (h : w.ownsRow base E s (.slice (some ⟨g, 0, none⟩) n c) m xs) (j : Nat) (u : Value) : (w.setCell ⟨g, j, none⟩ u).ownsRow base E s (.slice (some ⟨g, 0, none⟩) n c) m (xs.set j u) := by
  obtain ⟨k1, k2⟩ := h
  rcases k2 with ⟨k2, _⟩ | ⟨g', cap, cur, e, k3, k4, k5, k6, k7, k8⟩
  · cases k2
  · cases e
    refine ⟨by simpa using k1, .inr ⟨g, c, cur.setIfInBounds j u, rfl, k3, ?_, k5, k6, by simpa using k7, ?_⟩⟩
    · simp [World.setCell, Array.getElem?_modify, k4]
    · rw [← k8]
      simp only [Array.toList_setIfInBounds, List.take_set]
theorem mkV_set (L : Nat → Bool) (P K : Nat → Value) (n q : Nat) (l : Bool) (p k : Value) : (mkV L P K n).set q (.bool l, p, k) = mkV (fun i => if i = q then l else L i) (fun i => if i = q then p else P i) (fun i => if i = q then k else K i) n := by
  apply List.ext_getElem
  · simp [mkV]
  · intro i h1 h2
    rw [List.getElem_set]
    by_cases e : q = i
    · subst e; simp [mkV]
    · rw [if_neg e]; simp [mkV, Ne.symm e]
/-- One sub of the row is stored anew. -/
theorem SO.set {w : World} {base g n c q : Nat} {S S' : Nat → Prop} {ts : List T} {lf : Bool} {pv kv : Value} {t : T} (h : SO w base S (.slice (some ⟨g, 0, none⟩) n c) ts) (hq : q < ts.length) (hs : Sub w S' lf pv kv t) (hg : ∀ y, S' y → y ≠ g) :
    SO (((w.setCell ⟨g, q * 3, none⟩ (.bool lf)).setCell ⟨g, q * 3 + 1, none⟩ pv).setCell ⟨g, q * 3 + 2, none⟩ kv) base (fun y => S y ∨ S' y) (.slice (some ⟨g, 0, none⟩) n c) (ts.set q t) := by
  obtain ⟨L, P, K, h1, h2, h3⟩ := h
  have hon : Only (fun y => y = g) w (((w.setCell ⟨g, q * 3, none⟩ (.bool lf)).setCell ⟨g, q * 3 + 1, none⟩ pv).setCell ⟨g, q * 3 + 2, none⟩ kv) := ((only_set (R := fun y => y = g) rfl _).trans (only_set (R := fun y => y = g) rfl _)).trans (only_set (R := fun y => y = g) rfl _)
  have hS : ∀ y, S y → y ≠ g := fun y hy e => h3 y hy (by rw [e]; rfl)
  refine ⟨fun i => if i = q then lf else L i, fun i => if i = q then pv else P i, fun i => if i = q then kv else K i, ?_, fun i hi => ?_, fun y hy e => ?_⟩
  · rw [List.length_set, ← mkV_set, ncs_set _ _ _ (by rw [mkV_length]; exact hq)]
    exact row_setB (row_setB (row_setB h1 _ _) _ _) _ _
  · rw [List.length_set] at hi
    by_cases e : i = q
    · subst e
      simp only [if_true]
      rw [show tAt (ts.set i t) i = t by simp [tAt, hi]]
      exact (hs.to hon (fun y hy _ => hg y hy)).mono (fun y hy _ => .inr hy)
    · simp only [e, if_false]
      rw [show tAt (ts.set q t) i = tAt ts i by simp [tAt, Ne.symm e]]
      exact ((h2 i hi).to hon (fun y hy _ => hS y hy)).mono (fun y hy _ => .inl hy)
  · have e' : g = y := by simpa [Value.ownBlock] using e
    rcases hy with hy | hy
    · exact hS y hy e'.symm
    · exact hg y hy e'.symm
/-- What is read of a row of subs. -/
theorem SO.at {w : World} {base : Nat} {S : Nat → Prop} {a : Option Addr} {n c : Nat} {ts : List T} (h : SO w base S (.slice a n c) ts) (hp : 0 < ts.length) : ∃ g, a = some ⟨g, 0, none⟩ ∧ (∀ o, w.frozen? ⟨g, o, none⟩ = false) ∧ ∀ i, i < ts.length → ∃ l ap np cp ak nk ck,
    w.cell? ⟨g, i * 3, none⟩ = some (.bool l) ∧ w.cell? ⟨g, i * 3 + 1, none⟩ = some (.slice ap np cp) ∧ w.cell? ⟨g, i * 3 + 2, none⟩ = some (.slice ak nk ck) ∧ Sub w S l (.slice ap np cp) (.slice ak nk ck) (tAt ts i) := by
  obtain ⟨L, P, K, h1, h2, h3⟩ := h
  rcases h1.2 with ⟨_, h0⟩ | ⟨g, cap, cur, e, _, k4, _⟩
  · omega
  cases e
  refine ⟨g, rfl, fun o => by simp [World.frozen?, k4], fun i hi => ?_⟩
  have hc := World.ownsRow.cells h1 (g := g) rfl
  obtain ⟨c0, c1, c2⟩ := ncs_at (mkV L P K ts.length) i (by rw [mkV_length]; exact hi)
  rw [mkV_at _ _ _ _ _ hi] at c0 c1 c2
  have d0 := hc _ _ c0
  have d1 := hc _ _ c1
  have d2 := hc _ _ c2
  rw [Addr.add_lit, Nat.zero_add] at d0 d1 d2
  have hs := h2 i hi
  obtain ⟨ap, np, cp, ak, nk, ck, e1, e2, _⟩ := hs.shape
  simp only at d1 d2
  rw [e1] at d1 hs
  rw [e2] at d2 hs
  exact ⟨L i, ap, np, cp, ak, nk, ck, d0, d1, d2, hs⟩
theorem ev_leaf {h : Nat} {a b : T} (ha : Ev h a) (hb : Ev h b) : a.ks = [] ↔ b.ks = [] := by
  obtain ⟨pa, ka⟩ := a
  obtain ⟨pb, kb⟩ := b
  cases h with
  | zero => exact ha.elim
  | succ h =>
    rcases ha with ⟨rfl, rfl⟩ | ⟨h1, h2⟩
    · rcases hb with ⟨rfl, _⟩ | ⟨h3, h4⟩
      · exact ⟨fun _ => rfl, fun _ => rfl⟩
      · obtain ⟨x, hx⟩ := List.exists_mem_of_ne_nil kb h3
        exact (h4 x hx).elim
    · rcases hb with ⟨rfl, rfl⟩ | ⟨h3, h4⟩
      · obtain ⟨x, hx⟩ := List.exists_mem_of_ne_nil ka h1
        exact (h2 x hx).elim
      · exact ⟨fun e => absurd e h1, fun e => absurd e h3⟩
theorem delS_cons (x : PB) (l : List PB) (k : ByteArray) : delS (x :: l) k = (if x.1 = k then [] else [x]) ++ delS l k := by
  unfold delS
  rw [List.filter_cons]
  by_cases e : x.1 = k <;> simp [e]
set_option maxHeartbeats 2000000 in
set_option maxRecDepth 20000 in
theorem specDrop_leaf (S : Nat → Prop) (ap ak : Option Addr) (np cp ck : Nat) (t : T) (k : ByteArray) (w : World) (h : Sub w S true (.slice ap np cp) (.slice ak 0 ck) t) (hs : t.ps.length ≤ 4) :
    Calls Try.prog 171 #[.agg #[.bool true, .slice ap np cp, .slice ak 0 ck], .string k] w fun e w' => DropPost w S (.mk (delS t.ps k) []) e w' := by
  obtain ⟨_, _, _, _, _, _, e1, e2, HNP, HNK, b1, b2, -, hP⟩ := h.shape
  cases e1
  cases e2
  have hnp : np ≤ 4 := by rw [HNP.out]; exact hs
  have HP := hid hP
  have HI0 := hid (dri_start w true (.slice ap np cp) (.slice ak 0 ck))
  have c0 := HI0.out.s.cell (j := 0) rfl
  have HIb := hid (HI0.out.keep (below_new (o := .cells #[] 33) (Below.refl _ _)))
  have c1 := HIb.out.s.cell (j := 1) rfl
  have HO0 : Hid (Ow (((w.alloc (.cells #[.bool true, .slice ap np cp, .slice ak 0 ck] 169)).alloc (.cells #[.bool false, .slice none 0 0, .slice none 0 0] 169)).alloc (.cells #[] 33)) (w.heap.size + 2) (.slice (some ⟨w.heap.size + 2, 0, none⟩) 0 0) []) := by
    have := ow_new ((w.alloc (.cells #[.bool true, .slice ap np cp, .slice ak 0 ck] 169)).alloc (.cells #[.bool false, .slice none 0 0, .slice none 0 0] 169)) (w.heap.size + 2) (by simp)
    show Ow _ _ _ _
    simpa using this
  clear h hs b1 b2 hP
  go_enter Try.func171, Try.ntmps171
  go_wp2_with fail
  go_loopw [5, 17] (fun x z wr => ∃ (i : Nat) (a : Option Addr) (n c : Nat) (l : List PB), i ≤ np ∧ x = .slice a n c ∧ z = .int .i64 (i : Int) ∧ Hid (DrI w wr true (.slice ap np cp) (.slice ak 0 ck)) ∧ Hid (Ow wr (w.heap.size + 2) (.slice a n c) l) ∧ Hid (l ++ delS (t.ps.drop i) k = delS t.ps k) ∧ Hid (l.length ≤ i)) (fun _ z _ => np - (intOf z).toNat)
  case atStart => exact ⟨0, _, _, _, [], Nat.zero_le _, rfl, rfl, HIb.out, by have := HO0.out; show Ow _ _ _ _; simpa using this, rfl, Nat.zero_le _⟩
  case round =>
    obtain ⟨i, a, n, c, l, hi, rfl, rfl, HI, HO, HE, HLL⟩ := hrel
    by_cases hlt : i < np
    · have hlt' : (i : Int) < (np : Int) := by omega
      have hi0 : (0 : Int) ≤ (i : Int) := by omega
      obtain ⟨g, off, hap, _, _, hc⟩ := (HP.out.below HI.out.b).at (by omega)
      subst hap
      obtain ⟨x0, x1⟩ := hc i hlt
      have HD : Hid (t.ps.drop i = pAtB t.ps i :: t.ps.drop (i + 1)) := drop_pAtB (by rw [← HNP.out]; exact hlt)
      rw [HD.out, delS_cons] at HE
      clear hc
      generalize pAtB t.ps i = xx at *
      obtain ⟨y0, y1⟩ := xx
      simp only at x0 x1 HE
      have hbx := below_new (o := .cells #[.string y0, .string y1] 33) (w := wr) (Below.refl _ _)
      have HIX := hid (HI.out.keep hbx)
      have HOX := hid (HO.out.kept hbx)
      have KX := hid (Bk.new wr 33 [.string y0, .string y1])
      have k0 := KX.out.cell (j := 0) rfl
      have k1 := KX.out.cell (j := 1) rfl
      clear hbx
      by_cases e : y0 = k
      · have HEQ : Hid (l ++ delS (t.ps.drop (i + 1)) k = delS t.ps k) := by have := HE.out; show _ = _; simpa [e] using this
        subst e
        clear HE
        go_wp2
        go_roundw
        case rel => exact ⟨i + 1, a, n, c, l, by omega, rfl, by go_num, HIX.out, HOX.out, HEQ.out, by have := HLL.out; show _ ≤ _; omega⟩
        case measure => simp [intOf]; omega
      · have HEQ : Hid ((l ++ [(y0, y1)]) ++ delS (t.ps.drop (i + 1)) k = delS t.ps k) := by have := HE.out; show _ = _; simpa [e] using this
        have hne : (y0.toList == k.toList) = false := by
          rw [beq_eq_false_iff_ne]; exact fun h => e (str_ext h)
        have hby := below_new (o := .cells #[.string y0, .string y1] 33) (w := wr.alloc (.cells #[.string y0, .string y1] 33)) (Below.refl _ _)
        have HIY := hid (HIX.out.keep hby)
        have HOY := hid (HOX.out.kept hby)
        have HPa : Hid (Pr ((wr.alloc (.cells #[.string y0, .string y1] 33)).alloc (.cells #[.string y0, .string y1] 33)) (fun _ => True) (.slice (some ⟨wr.heap.size + 1, 0, none⟩) 1 1) [(y0, y1)]) := by
          have := (Bk.new (wr.alloc (.cells #[.string y0, .string y1] 33)) 33 [.string y0, .string y1]).pr (n := 1) (ps := [(y0, y1)]) rfl (by omega) (fun _ => True) trivial
          have hz : (wr.alloc (.cells #[.string y0, .string y1] 33)).heap.size = wr.heap.size + 1 := by simp
          rw [hz] at this
          exact this
        clear HE hby
        go_wp2_with (at_builtin; refine wpList_append_pairs rfl _ _ rfl (w.heap.size + 2) _ _ rfl HOY.out (fun _ => True) _ [(y0, y1)] rfl HPa.out ?q1 ?q2 ?_)
        case q1 => have := HLL.out; simp; omega
        case q2 => have h9 := HI.out.z; first | omega | (simp; omega)
        intro v2 w2 hO2 hg2
        obtain ⟨a2, n2, c2, e2, -⟩ := hO2.shape'
        subst e2
        have HI2 := hid (HIY.out.grow hg2 (fun x e => (World.ownsRow.lt HOY.out x e).1))
        have HO2 := hid hO2
        clear hO2 hg2
        go_wp2
        go_roundw
        case rel => exact ⟨i + 1, a2, n2, c2, _, by omega, rfl, by go_num, HI2.out, HO2.out, HEQ.out, by have := HLL.out; show _ ≤ _; simp; omega⟩
        case measure => simp [intOf]; omega
    · have hlt' : ¬ (i : Int) < (np : Int) := by omega
      have HD : Hid (t.ps.drop i = []) := List.drop_eq_nil_of_le (by rw [← HNP.out]; omega)
      rw [HD.out] at HE
      have HEQ : Hid (delS t.ps k = l) := by have := HE.out; show _ = _; simpa [delS] using this.symm
      have r0 := HI.out.r.cell (j := 0) rfl
      have r1 := HI.out.r.cell (j := 1) rfl
      have r2 := HI.out.r.cell (j := 2) rfl
      have rf0 := HI.out.r.free 0
      have rf1 := HI.out.r.free 1
      have rf2 := HI.out.r.free 2
      have HD2 := hid (HI.out.done (S := fun y => S y ∧ y < w.heap.size) (Sub.leafOf (HO.out.pr (fun y _ h1 _ => .inr h1))) (fun y hy => hy.2))
      have z0 := HD2.out.2.2.cell (j := 0) rfl
      have z1 := HD2.out.2.2.cell (j := 1) rfl
      have z2 := HD2.out.2.2.cell (j := 2) rfl
      clear HE HP
      go_wp2
      refine bodyPost_ret (v := .agg #[.bool true, .slice a n c, .slice none 0 0]) ?_ rfl ?_
      · refine results_sub1 rfl _ _ _ rfl ?_ ?_ ?_
        · exact z0
        · exact z1
        · exact z2
      · refine ⟨_, _, _, _, _, _, _, rfl, ?_, HD2.out.2.1⟩
        rw [HEQ.out]
        exact HD2.out.1.mono (fun y hy _ => hy.imp (fun h => h.1) id)
end Go.Proofs.Ytcpdedpgjaimkaa
/-
  l03Drop of the specification: it drops as the plain function drops.
-/
namespace Go.Proofs.Ytcpdedpgjaimkaa
open Go.RowKit
set_option maxHeartbeats 4000000 in
set_option maxRecDepth 20000 in
theorem specDrop_any : ∀ (f : Nat) (r : Bool) (S : Nat → Prop) (lf : Bool) (ap ak : Option Addr) (np cp nk ck : Nat) (t : T) (k : ByteArray) (w : World), Sub w S lf (.slice ap np cp) (.slice ak nk ck) t → PutIn f r t →
    Calls Try.prog 171 #[.agg #[.bool lf, .slice ap np cp, .slice ak nk ck], .string k] w fun e w' => DropPost w S (dropS f t k) e w' := by
  intro f
  induction f with
  | zero => intro r S lf ap ak np cp nk ck t k w _ g; exact g.ev.elim
  | succ f ih =>
  intro r S lf ap ak np cp nk ck t k w h g
  obtain ⟨_, _, _, _, _, _, e1, e2, HNP, HNK, b1, b2, hlf, -⟩ := h.shape
  cases e1
  cases e2
  by_cases hk : t.ks = []
  · have hn : nk = 0 := by rw [HNK.out, hk]; rfl
    have hl : lf = true := by rw [hlf, hn]; rfl
    have HF : dropS (f + 1) t k = .mk (delS t.ps k) [] := by rw [dropS, if_pos hk]
    subst hn hl
    rw [HF]
    exact specDrop_leaf S ap ak np cp ck t k w h (by obtain ⟨ps, ks⟩ := t; cases (show ks = [] from hk); exact g.leaf.2.1)
  · obtain ⟨ps, ks⟩ := t
    simp only [T.ks, T.ps] at hk HNK HNP
    obtain ⟨hp0, hl1, hl2, hf3, he4, ha5⟩ := g.kids hk
    have hn0 : nk ≠ 0 := by rw [HNK.out]; have := List.length_pos_iff.2 hk; omega
    have hl : lf = false := by rw [hlf]; exact decide_eq_false hn0
    subst hl
    obtain ⟨hq, _, _⟩ := kidOf_spec k hk
    have hw := wayOf_eq (k := k) hk hf3 ha5
    have HF : Hid (dropS (f + 1) (.mk ps ks) k = if (dropS f (tAt ks (wayOf ks k)) k).poor = true then .mk [] ((ks.set (wayOf ks k) (dropS f (tAt ks (wayOf ks k)) k)).take (max (wayOf ks k) 1 - 1) ++ togS (tAt (ks.set (wayOf ks k) (dropS f (tAt ks (wayOf ks k)) k)) (max (wayOf ks k) 1 - 1)) (tAt (ks.set (wayOf ks k) (dropS f (tAt ks (wayOf ks k)) k)) (max (wayOf ks k) 1)) ++ (ks.set (wayOf ks k) (dropS f (tAt ks (wayOf ks k)) k)).drop (max (wayOf ks k) 1 + 1)) else .mk [] (ks.set (wayOf ks k) (dropS f (tAt ks (wayOf ks k)) k))) := by
      show _ = _; rw [dropS, if_neg (show ¬ (T.mk ps ks).ks = [] from hk)]; rfl
    have HKG := hid (g.kid hk k)
    rw [← hw] at hq HKG
    have HNR : Hid (Near f (dropS f (tAt ks (wayOf ks k)) k) (delP (tAt ks (wayOf ks k)).all k)) := by
      show Near _ _ _
      rw [dropS_eq f false _ k HKG.out]; exact (dropF_out f false _ k HKG.out).1
    have HKF : Hid (∀ x ∈ ks, x.full false = true) := hf3
    have HKE : Hid (∀ x ∈ ks, Ev f x) := he4
    have H0 : Hid (Sub w (fun y => S y ∧ y < w.heap.size) false (.slice ap np cp) (.slice ak nk ck) (.mk ps ks)) := h.mono (fun y hy hl => ⟨hy, hl⟩)
    have hnk : nk ≤ 4 := by rw [HNK.out]; exact hl2
    have hnk2 : 2 ≤ nk := by rw [HNK.out]; exact hl1
    have HWY := hid (fun (w' : World) (h' : Sub w' (fun y => S y ∧ y < w.heap.size) false (.slice ap np cp) (.slice ak nk ck) (.mk ps ks)) => specWay_any _ false ap ak np cp nk ck (.mk ps ks) k w' h' (by simp only [T.ks]; omega))
    simp only [T.ks] at HWY
    have IH := hid ih
    have hqn : wayOf ks k < nk := by rw [HNK.out]; exact hq
    have HQ := hid hq
    generalize hqq : wayOf ks k = q at *
    clear hqq hw h g ih hlf b1 b2 hp0 hl1 hl2 hf3 he4 ha5 hq
    have HI0 := hid (dri_start w false (.slice ap np cp) (.slice ak nk ck))
    have s0 := HI0.out.s.cell (j := 0) rfl
    have s1 := HI0.out.s.cell (j := 1) rfl
    have s2 := HI0.out.s.cell (j := 2) rfl
    go_enter Try.func171, Try.ntmps171
    go_wp2_with fail
    refine (HWY.out _ (H0.out.kept HI0.out.b)).mono ?_
    generalize (w.alloc (.cells #[.bool false, .slice ap np cp, .slice ak nk ck] 169)).alloc (.cells #[.bool false, .slice none 0 0, .slice none 0 0] 169) = U at *
    rintro e w1 ⟨rfl, hb⟩
    have HI1 := hid (HI0.out.keep hb)
    have HI2 := hid (HI1.out.keep (below_new (o := .cells #[] 169) (w := w1) (Below.refl _ _)))
    have HSN := hid (so_new w1 (w.heap.size + 2) HI1.out.z)
    clear hb s0 s1 s2 HWY HI0
    have HS2 := hid ((H0.out.kept HI2.out.b).row)
    simp only [T.ks] at HS2
    have u2 := HI2.out.s.cell (j := 2) rfl
    go_wp2_with (at_builtin; refine wpList_append_subs rfl _ _ rfl (w.heap.size + 2) _ (fun y => S y ∧ y < w.heap.size) (.slice (some ⟨w1.heap.size, 0, none⟩) 0 0) _ [] ks rfl HSN.out rfl HS2.out ?q0 ?q1 ?q2 ?_)
    case q0 => intro y hy e; have e' : w1.heap.size = y := (by simpa [Value.ownBlock] using e)
               have := HI1.out.z; have := hy.2; omega
    case q1 => have := HNK.out; simp; omega
    case q2 => have := HI1.out.z; first | omega | (simp; omega)
    intro v3 w3 hO3 hg3 ha3
    obtain ⟨a3, n3, c3, e3, hn3⟩ := hO3.shape
    subst e3
    have hlo3 := hO3.lo
    have HI3 := hid (HI2.out.grow hg3 (fun x e => by have e' : w1.heap.size = x := (by simpa [Value.ownBlock] using e); have := HI1.out.z; omega))
    have HS3 : Hid (SO w3 (w.heap.size + 2) (fun y => S y ∧ y < w.heap.size) (.slice a3 n3 c3) ks) := hO3.mono (fun y hy _ => hy.1) (fun y hy e => by have := (hlo3 y e).1; have := hy.2; omega)
    have HN3 : Hid (n3 = nk) := by have := hn3.out; have := HNK.out; show _ = _; simp at *; omega
    clear hO3 hg3 ha3 HSN HS2 HI2 u2 hlo3 hn3 HI1
    obtain ⟨gk, hak, hfr, hat⟩ := HS3.out.at (by rw [← HNK.out]; omega)
    subst hak
    obtain ⟨l9, ap9, np9, cp9, ak9, nk9, ck9, x0, x1, x2, hs9⟩ := hat q HQ.out
    have HS9 := hid hs9
    have hgk := HS3.out.lo gk rfl
    have HGK := hid hgk
    have hq2 : (0 : Int) ≤ (q : Int) := by omega
    have hq4 : (q : Int) < (n3 : Int) := by have := HN3.out; omega
    clear hat hs9 hgk hfr
    go_wp2_with fail
    refine (IH.out false _ l9 ap9 ak9 np9 cp9 nk9 ck9 (tAt ks q) k w3 HS9.out HKG.out).mono ?_
    rintro e w4 ⟨lz, apz, npz, cpz, akz, nkz, ckz, rfl, hsz, hbz⟩
    have HI4 := hid (HI3.out.keep hbz)
    have HS4 := hid (HS3.out.kept hbz)
    have HZ34 := hid hbz.size
    have hsz2 : Sub w4 (fun y => (S y ∧ y < w.heap.size) ∨ (w3.heap.size ≤ y ∧ y < w4.heap.size)) lz (.slice apz npz cpz) (.slice akz nkz ckz) (dropS f (tAt ks q) k) := hsz.mono (fun y hy hl => hy.imp id (fun h => ⟨h, hl⟩))
    have HS5 := hid (HS4.out.set HQ.out hsz2 (fun y hy e => by
      have := HGK.out
      rcases hy with hy | hy
      · have := hy.2; omega
      · omega))
    obtain ⟨_, e5, hfr4, hat4⟩ := HS4.out.at (by rw [← HNK.out]; omega)
    cases e5
    obtain ⟨m9, _, _, _, _, _, _, y0, y1, y2, -⟩ := hat4 q HQ.out
    have yf0 := hfr4 (q * 3)
    have yf1 := hfr4 (q * 3 + 1)
    have yf2 := hfr4 (q * 3 + 2)
    generalize hrr : dropS f (tAt ks q) k = rr at *
    have HRR := hid hrr
    have HI5 : Hid (DrI w (((w4.setCell ⟨gk, q * 3, none⟩ (.bool lz)).setCell ⟨gk, q * 3 + 1, none⟩ (.slice apz npz cpz)).setCell ⟨gk, q * 3 + 2, none⟩ (.slice akz nkz ckz)) false (.slice ap np cp) (.slice ak nk ck)) := HI4.out.only (((only_set (R := fun y => y = gk) rfl _).trans (only_set (R := fun y => y = gk) rfl _)).trans (only_set (R := fun y => y = gk) rfl _)) (fun x e => by have := HGK.out; omega)
    have HLN : Hid ((ks.set q rr).length = nk) := by show _ = _; rw [List.length_set]; exact HNK.out.symm
    obtain ⟨_, e5, hfr5, hat5⟩ := HS5.out.at (by rw [HLN.out]; omega)
    cases e5
    obtain ⟨l5, ap5, np5, cp5, ak5, nk5, ck5, t0, t1, t2, hs5⟩ := hat5 q (by rw [HLN.out]; exact hqn)
    rw [show tAt (ks.set q rr) q = rr by simp [tAt, HQ.out]] at hs5
    have HFW := hid (specFew_any _ l5 ap5 ak5 np5 cp5 nk5 ck5 rr _ hs5 (fun h => (HNR.out.br h).1))
    have HW5 : Hid (w4.heap.size = (((w4.setCell ⟨gk, q * 3, none⟩ (.bool lz)).setCell ⟨gk, q * 3 + 1, none⟩ (.slice apz npz cpz)).setCell ⟨gk, q * 3 + 2, none⟩ (.slice akz nkz ckz)).heap.size) := by show _ = _; simp [World.setCell]
    clear hsz hbz hsz2 hat4 hfr4 hat5 hfr5 hs5 hrr
    go_wp2_with fail
    refine HFW.out.mono ?_
    generalize hX : (((w4.setCell ⟨gk, q * 3, none⟩ (.bool lz)).setCell ⟨gk, q * 3 + 1, none⟩ (.slice apz npz cpz)).setCell ⟨gk, q * 3 + 2, none⟩ (.slice akz nkz ckz)) = X at *
    clear hX y0 y1 y2 yf0 yf1 yf2 x0 x1 x2
    rintro e w6 ⟨rfl, hb⟩
    have HI6 := hid (HI5.out.keep hb)
    have HS6 := hid (HS5.out.kept hb)
    have HZ6 := hid hb.size
    clear hb t0 t1 t2 HFW HS5 HI5 HS4 HI4 HS3 HI3 HS9
    have hn32 : ¬ (n3 : Int) < 2 := by have := HN3.out; omega
    cases hpo : rr.poor with
    | false =>
      have HF2 : Hid (dropS (f + 1) (.mk ps ks) k = .mk [] (ks.set q rr)) := by show _ = _; rw [HF.out, if_neg (by rw [hpo]; simp)]
      have r0 := HI6.out.r.cell (j := 0) rfl
      have r1 := HI6.out.r.cell (j := 1) rfl
      have r2 := HI6.out.r.cell (j := 2) rfl
      have rf0 := HI6.out.r.free 0
      have rf1 := HI6.out.r.free 1
      have rf2 := HI6.out.r.free 2
      have hsr : SubR w6 (fun y => (S y ∧ y < w.heap.size) ∨ w.heap.size + 2 ≤ y) (.slice (some ⟨gk, 0, none⟩) n3 c3) (ks.set q rr) := HS6.out.subR (fun y _ h1 _ => .inr h1) (fun y hy _ => by
        rcases hy with h | h | h
        · exact .inl h
        · exact .inl h
        · right; have := HGK.out; omega)
      have HD2 := hid (HI6.out.done (S := fun y => S y ∧ y < w.heap.size) (hsr.sub (by intro e; have := HLN.out; rw [e] at this; simp at this; omega)) (fun y hy => hy.2))
      have z0 := HD2.out.2.2.cell (j := 0) rfl
      have z1 := HD2.out.2.2.cell (j := 1) rfl
      have z2 := HD2.out.2.2.cell (j := 2) rfl
      clear hpo hsr
      go_wp2
      refine bodyPost_ret (v := .agg #[.bool false, .slice none 0 0, .slice (some ⟨gk, 0, none⟩) n3 c3]) ?_ rfl ?_
      · refine results_sub1 rfl _ _ _ rfl ?_ ?_ ?_
        · exact z0
        · exact z1
        · exact z2
      · refine ⟨_, _, _, _, _, _, _, rfl, ?_, HD2.out.2.1⟩
        rw [HF2.out]
        exact HD2.out.1.mono (fun y hy _ => hy.imp (fun h => h.1) id)
    | true =>
      obtain ⟨s, hs⟩ : ∃ s, max q 1 = s + 1 := ⟨max q 1 - 1, by omega⟩
      have HF2 : Hid (dropS (f + 1) (.mk ps ks) k = .mk [] ((ks.set q rr).take s ++ togS (tAt (ks.set q rr) s) (tAt (ks.set q rr) (s + 1)) ++ (ks.set q rr).drop (s + 1 + 1))) := by show _ = _; rw [HF.out, if_pos hpo, hs, Nat.add_sub_cancel]
      have hsn : s + 1 < nk := by omega
      have HKS : Hid (SO w6 (w.heap.size + 2) (fun y => (S y ∧ y < w.heap.size) ∨ (w3.heap.size ≤ y ∧ y < w4.heap.size)) (.slice (some ⟨gk, 0, none⟩) n3 c3) (ks.set q rr)) := HS6.out.mono (fun y hy _ => by
        rcases hy with h | h | h
        · exact .inl h
        · exact .inl h
        · exact .inr h) (fun y hy e => by
        have e' : gk = y := by simpa [Value.ownBlock] using e
        have := HGK.out
        rcases hy with h | h
        · have := h.2; omega
        · omega)
      have HSM : Hid (∀ i, i < nk → Ev f (tAt (ks.set q rr) i) ∧ (tAt (ks.set q rr) i).ps.length ≤ 4 ∧ (tAt (ks.set q rr) i).ks.length ≤ 4) := by
        intro i hi
        by_cases e : i = q
        · subst e
          rw [show tAt (ks.set i rr) i = rr by simp [tAt, HQ.out]]
          refine ⟨HNR.out.ev, ?_, ?_⟩
          · by_cases h : rr.ks = []
            · exact HNR.out.leaf h
            · rw [(HNR.out.br h).1]; simp
          · by_cases h : rr.ks = []
            · rw [h]; simp
            · exact (HNR.out.br h).2.1
        · rw [show tAt (ks.set q rr) i = tAt ks i by simp [tAt, Ne.symm e]]
          have hm : tAt ks i ∈ ks := tAt_mem (by rw [← HNK.out]; exact hi)
          exact ⟨HKE.out _ hm, full_small (HKF.out _ hm)⟩
      have HNE : Hid ((ks.set q rr).take s ++ togS (tAt (ks.set q rr) s) (tAt (ks.set q rr) (s + 1)) ++ (ks.set q rr).drop (s + 1 + 1) ≠ []) := by
        intro e
        have h1 := List.append_eq_nil_iff.1 e
        have h2 := List.append_eq_nil_iff.1 h1.1
        have h3 : splT (.mk ((tAt (ks.set q rr) s).ps ++ (tAt (ks.set q rr) (s + 1)).ps) ((tAt (ks.set q rr) s).ks ++ (tAt (ks.set q rr) (s + 1)).ks)) = [] := h2.2
        unfold splT at h3
        split at h3
        · cases h3
        · split at h3 <;> cases h3
      have HTL : Hid ((togS (tAt (ks.set q rr) s) (tAt (ks.set q rr) (s + 1))).length ≤ 2) := by
        show (splT _).length ≤ 2
        unfold splT
        split
        · simp
        · split <;> simp
      have HTP : Hid (0 < (togS (tAt (ks.set q rr) s) (tAt (ks.set q rr) (s + 1))).length) := by
        show 0 < (splT _).length
        unfold splT
        split
        · simp
        · split <;> simp
      have HQ0 : Hid (q = 0 ∧ s = 0 ∨ q = s + 1) := by show _ ∨ _; omega
      have HSN : Hid (s + 1 < nk) := hsn
      have HPO := hid hpo
      generalize hkz : ks.set q rr = kz at *
      clear hkz HNR HKF HKE HF HRR HS6 hs hsn
      have hn4 : n3 ≤ 4 := by have := HN3.out; omega
      rcases HQ0.out with ⟨hq0', hs0'⟩ | hqs
      · have hqz : (q : Int) = 0 := by omega
        subst hs0'
        simp only [Nat.zero_add, List.take_zero, List.nil_append] at HTL HF2 HNE HSN HTP
        have HI7 := hid (HI6.out.keep (below_new (o := .cells #[] 169) (w := w6) (Below.refl _ _)))
        have HK7 := hid (HKS.out.kept (below_new (o := .cells #[] 169) (w := w6) (Below.refl _ _)))
        have HS7 := hid (so_new w6 w6.heap.size (Nat.le_refl _))
        have HGZ : Hid (gk < w6.heap.size ∧ w4.heap.size ≤ w6.heap.size ∧ w.heap.size + 2 ≤ w6.heap.size) := ⟨(HKS.out.lo gk rfl).2, by have h1 := HZ6.out; have h2 := HW5.out; omega, HI6.out.z⟩
        have HR7 : Hid (SubR (w6.alloc (.cells #[] 169)) (fun y => y < w6.heap.size ∧ ((S y ∧ y < w.heap.size) ∨ w.heap.size + 2 ≤ y)) (.slice (some ⟨gk, 0, none⟩) n3 c3) kz) := HK7.out.subR (fun y e h1 _ => by have e' : gk = y := (by simpa [Value.ownBlock] using e); have := HGZ.out; exact ⟨by omega, .inr h1⟩) (fun y hy _ => by
          have := HGZ.out
          have := HGK.out
          rcases hy with h | h
          · exact ⟨by have := h.2; omega, .inl h⟩
          · exact ⟨by omega, .inr (by omega)⟩)
        have hn1 : 0 + 1 < n3 := by have := HN3.out; have := HSN.out; omega
        have hc3 : n3 ≤ c3 ∧ c3 ≤ 9223372036854775807 := by obtain ⟨L, P, K, h1, _⟩ := HKS.out; exact (row_cap h1).2
        obtain ⟨hc31, hc32⟩ := hc3
        have hzn : 0 < n3 := by omega
        have hzn1 : 1 < n3 := by omega
        have hz1 : (0 : Int) ≤ (c3 : Int) := by omega
        have hz2 : (1 : Int) < (n3 : Int) := by omega
        have hz3 : (0 : Int) < (n3 : Int) := by omega
        have hwr : IntKind.i64.wrap (0 : Int) = 0 := by rw [IntKind.wrap_i64]; omega
        go_wp2_with (at_builtin; refine wpList_append_subs rfl _ _ rfl w6.heap.size _ (fun y => y < w6.heap.size ∧ ((S y ∧ y < w.heap.size) ∨ w.heap.size + 2 ≤ y)) (.slice (some ⟨w6.heap.size, 0, none⟩) 0 0) _ [] (kz.take (0)) rfl HS7.out rfl (HR7.out.take (by omega)) ?q0 ?q1 ?q2 ?_)
        case q0 => intro y hy e; have e' : w6.heap.size = y := (by simpa [Value.ownBlock] using e)
                   have := hy.1; omega
        case q1 => first | (rw [List.length_take]; simp; omega) | simp
        case q2 => first | omega | simp
        intro v8 w8 hO8 hg8 ha8
        obtain ⟨a8, n8, c8, e8, -⟩ := hO8.shape
        subst e8
        have hlo8 := hO8.lo
        have HI8 := hid (HI7.out.grow hg8 (fun x e => by have e' : w6.heap.size = x := (by simpa [Value.ownBlock] using e); have := HGZ.out; omega))
        have hon8 : Only (fun y => y = w6.heap.size) (w6.alloc (.cells #[] 169)) w8 := only_of_grown hg8 (fun x e => by have e' : w6.heap.size = x := (by simpa [Value.ownBlock] using e); omega)
        have HK8 := hid (HK7.out.to hon8 (fun y e h => by have e' : gk = y := (by simpa [Value.ownBlock] using e); have := HGZ.out; omega) (fun y hy _ h => by have := HGZ.out; rcases hy with h2 | h2 <;> omega))
        have HS8 : Hid (SO w8 w6.heap.size (fun y => y < w6.heap.size ∧ ((S y ∧ y < w.heap.size) ∨ w.heap.size + 2 ≤ y)) (.slice a8 n8 c8) (kz.take (0))) := by
          refine SO.mono (S := fun y => y < w6.heap.size ∧ ((S y ∧ y < w.heap.size) ∨ w.heap.size + 2 ≤ y)) ?_ (fun y hy _ => hy) (fun y hy e => by have := (hlo8 y e).1; have := hy.1; omega)
          have h9 := hO8.mono (R := fun y => y < w6.heap.size ∧ ((S y ∧ y < w.heap.size) ∨ w.heap.size + 2 ≤ y)) (fun y hy _ => by first | exact hy.1 | exact hy.1.resolve_left id) (fun y hy e => by have := (hlo8 y e).1; have := hy.1; omega)
          simpa using h9
        have HZ68 : Hid (w6.heap.size ≤ w8.heap.size) := by have := hon8.size; simp at this; show _ ≤ _; omega
        clear hO8 hg8 ha8 HI7 HK7 HS7 HR7 hlo8 hon8
        obtain ⟨_, eK, _, hatK⟩ := HK8.out.at (by rw [HLN.out]; omega)
        cases eK
        obtain ⟨la, apa, npa, cpa, aka, nka, cka, i0, i1, i2, hsa⟩ := hatK (0) (by rw [HLN.out]; have := HSN.out; omega)
        obtain ⟨lb, apb, npb, cpb, akb, nkb, ckb, j0, j1, j2, hsb⟩ := hatK (1) (by rw [HLN.out]; exact HSN.out)
        try simp only [Nat.zero_mul, Nat.one_mul, Nat.zero_add] at i0 i1 i2 j0 j1 j2
        have HTG := hid (specTogether_any _ la lb apa aka apb akb npa cpa nka cka npb cpb nkb ckb _ _ w8.drew (hsa.kept (below_drew _)) (hsb.kept (below_drew _)) (ev_leaf (HSM.out (0) (by have := HSN.out; omega)).1 (HSM.out (1) HSN.out).1) (by have h1 := (HSM.out (0) (by have := HSN.out; omega)).2.1; have h2 := (HSM.out (1) HSN.out).2.1; omega) (by have h1 := (HSM.out (0) (by have := HSN.out; omega)).2.2; have h2 := (HSM.out (1) HSN.out).2.2; omega))
        have HAP : Hid (∀ y, ((S y ∧ y < w.heap.size) ∨ (w3.heap.size ≤ y ∧ y < w4.heap.size)) ∨ w8.drew.heap.size ≤ y → (Value.slice a8 n8 c8).ownBlock ≠ some y) := by
          intro y hy e
          have h1 := HS8.out.lo y e
          have h2 := HGZ.out
          rcases hy with (h | h) | h
          · have := h.2; omega
          · omega
          · have h3 : w8.heap.size ≤ y := h
            omega
        have HTL2 : Hid ((kz.take (0)).length + (togS (tAt kz (0)) (tAt kz (1))).length ≤ 1048576) := by have := HTL.out; rw [List.length_take]; show _ ≤ _; omega
        have HST : Hid (∀ (w9 : World), Below w8.drew.heap.size w8.drew w9 → SO w9 w6.heap.size (fun y => y < w6.heap.size ∧ ((S y ∧ y < w.heap.size) ∨ w.heap.size + 2 ≤ y)) (.slice a8 n8 c8) (kz.take (0)) ∧ w6.heap.size ≤ w9.heap.size) := by
          intro w9 hb
          refine ⟨HS8.out.kept (Below.then' (below_drew w8) hb (Nat.le_refl _)), ?_⟩
          have h5 : w8.heap.size ≤ w9.heap.size := hb.size
          have := HZ68.out; omega
        have HFIN : Hid (∀ (w9 wA : World) (aA : Option Addr) (nA cA : Nat) (R : Nat → Prop), Below w8.drew.heap.size w8.drew w9 → SO wA w6.heap.size R (.slice aA nA cA) (kz.take (0) ++ togS (tAt kz (0)) (tAt kz (1))) → (∀ y, R y → ((S y ∧ y < w.heap.size) ∨ w.heap.size + 2 ≤ y)) → w9.grownBy wA (Value.slice a8 n8 c8).ownBlock →
            SO wA w6.heap.size (fun y => ((S y ∧ y < w.heap.size) ∨ (w.heap.size + 2 ≤ y ∧ (Value.slice aA nA cA).ownBlock ≠ some y))) (.slice aA nA cA) (kz.take (0) ++ togS (tAt kz (0)) (tAt kz (1))) ∧ DrI w wA false (.slice ap np cp) (.slice ak nk ck) ∧ SO wA (w.heap.size + 2) (fun y => (S y ∧ y < w.heap.size) ∨ (w3.heap.size ≤ y ∧ y < w4.heap.size)) (.slice (some ⟨gk, 0, none⟩) n3 c3) kz) := by
          intro w9 wA aA nA cA R hb hO hR hg
          have hlo := hO.lo
          have hz := HGZ.out
          have hb2 := Below.then' (below_drew w8) hb (Nat.le_refl _)
          have hon : Only (fun y => w6.heap.size ≤ y) w9 wA := only_of_grown hg (fun x e => (HS8.out.lo x e).1)
          refine ⟨?_, (HI8.out.keep hb2).only hon (fun x h => by omega), (HK8.out.kept hb2).to hon (fun y e h => by have e' : gk = y := (by simpa [Value.ownBlock] using e); omega) (fun y hy _ h => by rcases hy with h2 | h2 <;> omega)⟩
          obtain ⟨L, P, K, h1, h2, h3⟩ := hO
          refine ⟨L, P, K, h1, fun i hi => (h2 i hi).mono (fun y hy hl => ?_), ?_⟩
          · rcases hR y hy with h | h
            · exact .inl h
            · exact .inr ⟨h, h3 y hy⟩
          · rintro y (h | h)
            · intro e; have := (hlo y e).1; have := h.2; omega
            · exact h.2
        have HRR2 : Hid (∀ y, ((y < w6.heap.size ∧ ((S y ∧ y < w.heap.size) ∨ w.heap.size + 2 ≤ y)) ∨ ((S y ∧ y < w.heap.size) ∨ (w3.heap.size ≤ y ∧ y < w4.heap.size)) ∨ w8.drew.heap.size ≤ y) ∧ True → ((S y ∧ y < w.heap.size) ∨ w.heap.size + 2 ≤ y)) := by
          have h1 := HGK.out
          have h2 := HGZ.out
          have h4 := HZ68.out
          rintro y ⟨h | (h | h) | h, -⟩
          · exact h.2
          · exact .inl h
          · right; omega
          · have h3 : w8.heap.size ≤ y := h
            right; omega
        clear hsa hsb hatK
        go_wp2_with fail
        go_cut [10] (fun x v2 => ∃ (aA : Option Addr) (nA cA : Nat), x = .slice aA nA cA ∧ Hid (SO v2 w6.heap.size (fun y => ((S y ∧ y < w.heap.size) ∨ (w.heap.size + 2 ≤ y ∧ (Value.slice aA nA cA).ownBlock ≠ some y))) (.slice aA nA cA) (kz.take (0) ++ togS (tAt kz (0)) (tAt kz (1)))) ∧ Hid (DrI w v2 false (.slice ap np cp) (.slice ak nk ck)) ∧ Hid (SO v2 (w.heap.size + 2) (fun y => (S y ∧ y < w.heap.size) ∨ (w3.heap.size ≤ y ∧ y < w4.heap.size)) (.slice (some ⟨gk, 0, none⟩) n3 c3) kz))
        case first =>
          go_region_law (first
            | (go_simp; go_at_call 183; refine HTG.out.mono ?_; rintro e w9 ⟨v9, rfl, hR9, hb9⟩)
            | (refine step_append_subs rfl _ _ rfl w6.heap.size _ _ (.slice a8 n8 c8) _ (kz.take (0)) (togS (tAt kz (0)) (tAt kz (1))) rfl (HST.out _ hb9).1 rfl hR9 HAP.out HTL2.out (HST.out _ hb9).2 ?_; intro vA wA hOA hgA haA; obtain ⟨aA, nA, cA, eA, -⟩ := hOA.shape; subst eA))
          all_goals (go_wp2_with fail; go_meet)
          all_goals exact ⟨aA, nA, cA, rfl, (HFIN.out _ _ _ _ _ _ hb9 hOA (fun y hy => HRR2.out y ⟨hy.1, trivial⟩) hgA).1, (HFIN.out _ _ _ _ _ _ hb9 hOA (fun y hy => HRR2.out y ⟨hy.1, trivial⟩) hgA).2.1, (HFIN.out _ _ _ _ _ _ hb9 hOA (fun y hy => HRR2.out y ⟨hy.1, trivial⟩) hgA).2.2⟩
        case rest =>
          obtain ⟨aA, nA, cA, rfl, HSA, HIA, HKA⟩ := hcut
          clear HFIN HST HAP HTG i0 i1 i2 j0 j1 j2 HS8 HI8 HK8 HTL2 HRR2
          have HZB : Hid (w6.heap.size ≤ wc.heap.size) := by
            obtain ⟨L, P, K, h1, _⟩ := HSA.out
            have hlen : 0 < (kz.take (0) ++ togS (tAt kz (0)) (tAt kz (1))).length := by
              rw [List.length_append]
              have := HTP.out
              omega
            rcases h1.2 with ⟨_, h0⟩ | ⟨g, _, _, h0, h2, h3, _⟩
            · omega
            · have := (Array.getElem?_eq_some_iff.1 h3).1
              show _ ≤ _; omega
          have HRA : Hid (SubR wc (fun y => y < w6.heap.size ∧ ((S y ∧ y < w.heap.size) ∨ w.heap.size + 2 ≤ y)) (.slice (some ⟨gk, 0, none⟩) n3 c3) kz) := HKA.out.subR (fun y e h1 _ => by have e' : gk = y := (by simpa [Value.ownBlock] using e); have := HGZ.out; exact ⟨by omega, .inr h1⟩) (fun y hy _ => by
            have := HGZ.out
            have := HGK.out
            rcases hy with h | h
            · exact ⟨by have := h.2; omega, .inl h⟩
            · exact ⟨by omega, .inr (by omega)⟩)
          have HAQ : Hid (∀ y, y < w6.heap.size ∧ ((S y ∧ y < w.heap.size) ∨ w.heap.size + 2 ≤ y) → (Value.slice aA nA cA).ownBlock ≠ some y) := fun y hy e => by have := (HSA.out.lo y e).1; have := hy.1; omega
          have HDL : Hid ((kz.take (0) ++ togS (tAt kz (0)) (tAt kz (1))).length + (kz.drop (2)).length ≤ 1048576) := by
            have := HTL.out
            have := HLN.out
            rw [List.length_append, List.length_take, List.length_drop]; show _ ≤ _; omega
          have hzz1 : (2 : Int) ≤ (n3 : Int) := by omega
          have hzz2 : (0 : Int) ≤ (2 : Int) := by omega
          by_cases hcap : ¬ c3 = 2
          · have HDR := hid (HRA.out.drop (m := 2) (by omega))
            rw [Nat.zero_add] at HDR
            go_wp2_with (at_builtin; refine wpList_append_subs rfl _ _ rfl w6.heap.size _ (fun y => y < w6.heap.size ∧ ((S y ∧ y < w.heap.size) ∨ w.heap.size + 2 ≤ y)) (.slice aA nA cA) _ _ (kz.drop (2)) rfl HSA.out rfl HDR.out HAQ.out HDL.out HZB.out ?_)
            intro v6 wD hO6 hg6 ha6
            obtain ⟨a6, n6, c6, e6, -⟩ := hO6.shape
            subst e6
            have hID := HIA.out.grow hg6 (fun x e => by have := (HSA.out.lo x e).1; have := HGZ.out; omega)
            have hSD : Sub wD (fun y => (S y ∧ y < w.heap.size) ∨ w.heap.size + 2 ≤ y) false (.slice none 0 0) (.slice a6 n6 c6) (.mk [] (togS (tAt kz 0) (tAt kz 1) ++ kz.drop 2)) := (hO6.subR (fun y _ h1 _ => .inr (by have := HGZ.out; omega)) (fun y hy _ => by
              rcases hy.1 with (h | h) | h
              · exact .inl h
              · exact .inr h.1
              · exact h.2)).sub HNE.out
            have HD2 := hid (hID.done (S := fun y => S y ∧ y < w.heap.size) hSD (fun y hy => hy.2))
            have r0 := hID.r.cell (j := 0) rfl
            have r1 := hID.r.cell (j := 1) rfl
            have r2 := hID.r.cell (j := 2) rfl
            have rf0 := hID.r.free 0
            have rf1 := hID.r.free 1
            have rf2 := hID.r.free 2
            have z0 := HD2.out.2.2.cell (j := 0) rfl
            have z1 := HD2.out.2.2.cell (j := 1) rfl
            have z2 := HD2.out.2.2.cell (j := 2) rfl
            clear hO6 hg6 ha6 hID hSD HDR
            go_wp2
            refine bodyPost_ret (v := .agg #[.bool false, .slice none 0 0, .slice a6 n6 c6]) ?_ rfl ?_
            · refine results_sub1 rfl _ _ _ rfl ?_ ?_ ?_
              · exact z0
              · exact z1
              · exact z2
            · refine ⟨_, _, _, _, _, _, _, rfl, ?_, HD2.out.2.1⟩
              rw [HF2.out]
              exact HD2.out.1.mono (fun y hy _ => hy.imp (fun h => h.1) id)
          · have hck : c3 = 2 := by omega
            have hnk1 : n3 = 2 := by omega
            have HDR : Hid (SubR wc (fun y => y < w6.heap.size ∧ ((S y ∧ y < w.heap.size) ∨ w.heap.size + 2 ≤ y)) (.slice (some ⟨gk, 0, none⟩) 0 0) (kz.drop (2))) := by
              rw [List.drop_eq_nil_of_le (by rw [HLN.out]; have := HN3.out; omega)]
              exact ⟨fun _ => false, fun _ => .slice none 0 0, fun _ => .slice none 0 0, ⟨_, 0, rfl, Nat.le_refl _, by omega, fun _ => rfl, fun h => (by cases h), fun h => (by simp at h)⟩, fun i hi => (by simp at hi)⟩
            subst hck hnk1
            go_wp2_with (at_builtin; refine wpList_append_subs rfl _ _ rfl w6.heap.size _ (fun y => y < w6.heap.size ∧ ((S y ∧ y < w.heap.size) ∨ w.heap.size + 2 ≤ y)) (.slice aA nA cA) _ _ (kz.drop (2)) rfl HSA.out rfl HDR.out HAQ.out HDL.out HZB.out ?_)
            intro v6 wD hO6 hg6 ha6
            obtain ⟨a6, n6, c6, e6, -⟩ := hO6.shape
            subst e6
            have hID := HIA.out.grow hg6 (fun x e => by have := (HSA.out.lo x e).1; have := HGZ.out; omega)
            have hSD : Sub wD (fun y => (S y ∧ y < w.heap.size) ∨ w.heap.size + 2 ≤ y) false (.slice none 0 0) (.slice a6 n6 c6) (.mk [] (togS (tAt kz 0) (tAt kz 1) ++ kz.drop 2)) := (hO6.subR (fun y _ h1 _ => .inr (by have := HGZ.out; omega)) (fun y hy _ => by
              rcases hy.1 with (h | h) | h
              · exact .inl h
              · exact .inr h.1
              · exact h.2)).sub HNE.out
            have HD2 := hid (hID.done (S := fun y => S y ∧ y < w.heap.size) hSD (fun y hy => hy.2))
            have r0 := hID.r.cell (j := 0) rfl
            have r1 := hID.r.cell (j := 1) rfl
            have r2 := hID.r.cell (j := 2) rfl
            have rf0 := hID.r.free 0
            have rf1 := hID.r.free 1
            have rf2 := hID.r.free 2
            have z0 := HD2.out.2.2.cell (j := 0) rfl
            have z1 := HD2.out.2.2.cell (j := 1) rfl
            have z2 := HD2.out.2.2.cell (j := 2) rfl
            clear hO6 hg6 ha6 hID hSD HDR
            go_wp2
            refine bodyPost_ret (v := .agg #[.bool false, .slice none 0 0, .slice a6 n6 c6]) ?_ rfl ?_
            · refine results_sub1 rfl _ _ _ rfl ?_ ?_ ?_
              · exact z0
              · exact z1
              · exact z2
            · refine ⟨_, _, _, _, _, _, _, rfl, ?_, HD2.out.2.1⟩
              rw [HF2.out]
              exact HD2.out.1.mono (fun y hy _ => hy.imp (fun h => h.1) id)
      · have hqz : ¬ (q : Int) = 0 := by omega
        subst hqs
        simp only [List.append_assoc] at HF2 HNE
        have HI7 := hid (HI6.out.keep (below_new (o := .cells #[] 169) (w := w6) (Below.refl _ _)))
        have HK7 := hid (HKS.out.kept (below_new (o := .cells #[] 169) (w := w6) (Below.refl _ _)))
        have HS7 := hid (so_new w6 w6.heap.size (Nat.le_refl _))
        have HGZ : Hid (gk < w6.heap.size ∧ w4.heap.size ≤ w6.heap.size ∧ w.heap.size + 2 ≤ w6.heap.size) := ⟨(HKS.out.lo gk rfl).2, by have h1 := HZ6.out; have h2 := HW5.out; omega, HI6.out.z⟩
        have HR7 : Hid (SubR (w6.alloc (.cells #[] 169)) (fun y => y < w6.heap.size ∧ ((S y ∧ y < w.heap.size) ∨ w.heap.size + 2 ≤ y)) (.slice (some ⟨gk, 0, none⟩) n3 c3) kz) := HK7.out.subR (fun y e h1 _ => by have e' : gk = y := (by simpa [Value.ownBlock] using e); have := HGZ.out; exact ⟨by omega, .inr h1⟩) (fun y hy _ => by
          have := HGZ.out
          have := HGK.out
          rcases hy with h | h
          · exact ⟨by have := h.2; omega, .inl h⟩
          · exact ⟨by omega, .inr (by omega)⟩)
        have hn1 : s + 1 < n3 := by have := HN3.out; have := HSN.out; omega
        have hc3 : n3 ≤ c3 ∧ c3 ≤ 9223372036854775807 := by obtain ⟨L, P, K, h1, _⟩ := HKS.out; exact (row_cap h1).2
        obtain ⟨hc31, hc32⟩ := hc3
        have hz5 : (0 : Int) ≤ (s : Int) + 1 := by omega
        have hz0 : (0 : Int) ≤ (s : Int) := by omega
        have hz1 : (s : Int) ≤ (c3 : Int) := by omega
        have hz2 : (s : Int) + 1 < (n3 : Int) := by omega
        have hz3 : (s : Int) < (n3 : Int) := by omega
        have hz4 : (s : Int) ≤ 1000 := by omega
        have hwr : IntKind.i64.wrap (s : Int) = (s : Int) := by rw [IntKind.wrap_i64]; omega
        have hwr2 : IntKind.i64.wrap ((s : Int) + 1 - 1) = (s : Int) := by rw [IntKind.wrap_i64]; omega
        go_wp2_with (at_builtin; refine wpList_append_subs rfl _ _ rfl w6.heap.size _ (fun y => y < w6.heap.size ∧ ((S y ∧ y < w.heap.size) ∨ w.heap.size + 2 ≤ y)) (.slice (some ⟨w6.heap.size, 0, none⟩) 0 0) _ [] (kz.take (s)) rfl HS7.out rfl (HR7.out.take (by omega)) ?q0 ?q1 ?q2 ?_)
        case q0 => intro y hy e; have e' : w6.heap.size = y := (by simpa [Value.ownBlock] using e)
                   have := hy.1; omega
        case q1 => first | (rw [List.length_take]; simp; omega) | simp
        case q2 => first | omega | simp
        intro v8 w8 hO8 hg8 ha8
        obtain ⟨a8, n8, c8, e8, -⟩ := hO8.shape
        subst e8
        have hlo8 := hO8.lo
        have HI8 := hid (HI7.out.grow hg8 (fun x e => by have e' : w6.heap.size = x := (by simpa [Value.ownBlock] using e); have := HGZ.out; omega))
        have hon8 : Only (fun y => y = w6.heap.size) (w6.alloc (.cells #[] 169)) w8 := only_of_grown hg8 (fun x e => by have e' : w6.heap.size = x := (by simpa [Value.ownBlock] using e); omega)
        have HK8 := hid (HK7.out.to hon8 (fun y e h => by have e' : gk = y := (by simpa [Value.ownBlock] using e); have := HGZ.out; omega) (fun y hy _ h => by have := HGZ.out; rcases hy with h2 | h2 <;> omega))
        have HS8 : Hid (SO w8 w6.heap.size (fun y => y < w6.heap.size ∧ ((S y ∧ y < w.heap.size) ∨ w.heap.size + 2 ≤ y)) (.slice a8 n8 c8) (kz.take (s))) := by
          refine SO.mono (S := fun y => y < w6.heap.size ∧ ((S y ∧ y < w.heap.size) ∨ w.heap.size + 2 ≤ y)) ?_ (fun y hy _ => hy) (fun y hy e => by have := (hlo8 y e).1; have := hy.1; omega)
          have h9 := hO8.mono (R := fun y => y < w6.heap.size ∧ ((S y ∧ y < w.heap.size) ∨ w.heap.size + 2 ≤ y)) (fun y hy _ => by first | exact hy.1 | exact hy.1.resolve_left id) (fun y hy e => by have := (hlo8 y e).1; have := hy.1; omega)
          simpa using h9
        have HZ68 : Hid (w6.heap.size ≤ w8.heap.size) := by have := hon8.size; simp at this; show _ ≤ _; omega
        clear hO8 hg8 ha8 HI7 HK7 HS7 HR7 hlo8 hon8
        obtain ⟨_, eK, _, hatK⟩ := HK8.out.at (by rw [HLN.out]; omega)
        cases eK
        obtain ⟨la, apa, npa, cpa, aka, nka, cka, i0, i1, i2, hsa⟩ := hatK (s) (by rw [HLN.out]; have := HSN.out; omega)
        obtain ⟨lb, apb, npb, cpb, akb, nkb, ckb, j0, j1, j2, hsb⟩ := hatK (s + 1) (by rw [HLN.out]; exact HSN.out)
        try simp only [Nat.zero_mul, Nat.one_mul, Nat.zero_add] at i0 i1 i2 j0 j1 j2
        have HTG := hid (specTogether_any _ la lb apa aka apb akb npa cpa nka cka npb cpb nkb ckb _ _ w8.drew (hsa.kept (below_drew _)) (hsb.kept (below_drew _)) (ev_leaf (HSM.out (s) (by have := HSN.out; omega)).1 (HSM.out (s + 1) HSN.out).1) (by have h1 := (HSM.out (s) (by have := HSN.out; omega)).2.1; have h2 := (HSM.out (s + 1) HSN.out).2.1; omega) (by have h1 := (HSM.out (s) (by have := HSN.out; omega)).2.2; have h2 := (HSM.out (s + 1) HSN.out).2.2; omega))
        have HAP : Hid (∀ y, ((S y ∧ y < w.heap.size) ∨ (w3.heap.size ≤ y ∧ y < w4.heap.size)) ∨ w8.drew.heap.size ≤ y → (Value.slice a8 n8 c8).ownBlock ≠ some y) := by
          intro y hy e
          have h1 := HS8.out.lo y e
          have h2 := HGZ.out
          rcases hy with (h | h) | h
          · have := h.2; omega
          · omega
          · have h3 : w8.heap.size ≤ y := h
            omega
        have HTL2 : Hid ((kz.take (s)).length + (togS (tAt kz (s)) (tAt kz (s + 1))).length ≤ 1048576) := by have := HTL.out; rw [List.length_take]; show _ ≤ _; omega
        have HST : Hid (∀ (w9 : World), Below w8.drew.heap.size w8.drew w9 → SO w9 w6.heap.size (fun y => y < w6.heap.size ∧ ((S y ∧ y < w.heap.size) ∨ w.heap.size + 2 ≤ y)) (.slice a8 n8 c8) (kz.take (s)) ∧ w6.heap.size ≤ w9.heap.size) := by
          intro w9 hb
          refine ⟨HS8.out.kept (Below.then' (below_drew w8) hb (Nat.le_refl _)), ?_⟩
          have h5 : w8.heap.size ≤ w9.heap.size := hb.size
          have := HZ68.out; omega
        have HFIN : Hid (∀ (w9 wA : World) (aA : Option Addr) (nA cA : Nat) (R : Nat → Prop), Below w8.drew.heap.size w8.drew w9 → SO wA w6.heap.size R (.slice aA nA cA) (kz.take (s) ++ togS (tAt kz (s)) (tAt kz (s + 1))) → (∀ y, R y → ((S y ∧ y < w.heap.size) ∨ w.heap.size + 2 ≤ y)) → w9.grownBy wA (Value.slice a8 n8 c8).ownBlock →
            SO wA w6.heap.size (fun y => ((S y ∧ y < w.heap.size) ∨ (w.heap.size + 2 ≤ y ∧ (Value.slice aA nA cA).ownBlock ≠ some y))) (.slice aA nA cA) (kz.take (s) ++ togS (tAt kz (s)) (tAt kz (s + 1))) ∧ DrI w wA false (.slice ap np cp) (.slice ak nk ck) ∧ SO wA (w.heap.size + 2) (fun y => (S y ∧ y < w.heap.size) ∨ (w3.heap.size ≤ y ∧ y < w4.heap.size)) (.slice (some ⟨gk, 0, none⟩) n3 c3) kz) := by
          intro w9 wA aA nA cA R hb hO hR hg
          have hlo := hO.lo
          have hz := HGZ.out
          have hb2 := Below.then' (below_drew w8) hb (Nat.le_refl _)
          have hon : Only (fun y => w6.heap.size ≤ y) w9 wA := only_of_grown hg (fun x e => (HS8.out.lo x e).1)
          refine ⟨?_, (HI8.out.keep hb2).only hon (fun x h => by omega), (HK8.out.kept hb2).to hon (fun y e h => by have e' : gk = y := (by simpa [Value.ownBlock] using e); omega) (fun y hy _ h => by rcases hy with h2 | h2 <;> omega)⟩
          obtain ⟨L, P, K, h1, h2, h3⟩ := hO
          refine ⟨L, P, K, h1, fun i hi => (h2 i hi).mono (fun y hy hl => ?_), ?_⟩
          · rcases hR y hy with h | h
            · exact .inl h
            · exact .inr ⟨h, h3 y hy⟩
          · rintro y (h | h)
            · intro e; have := (hlo y e).1; have := h.2; omega
            · exact h.2
        have HRR2 : Hid (∀ y, ((y < w6.heap.size ∧ ((S y ∧ y < w.heap.size) ∨ w.heap.size + 2 ≤ y)) ∨ ((S y ∧ y < w.heap.size) ∨ (w3.heap.size ≤ y ∧ y < w4.heap.size)) ∨ w8.drew.heap.size ≤ y) ∧ True → ((S y ∧ y < w.heap.size) ∨ w.heap.size + 2 ≤ y)) := by
          have h1 := HGK.out
          have h2 := HGZ.out
          have h4 := HZ68.out
          rintro y ⟨h | (h | h) | h, -⟩
          · exact h.2
          · exact .inl h
          · right; omega
          · have h3 : w8.heap.size ≤ y := h
            right; omega
        clear hsa hsb hatK
        go_wp2_with fail
        go_cut [10] (fun x v2 => ∃ (aA : Option Addr) (nA cA : Nat), x = .slice aA nA cA ∧ Hid (SO v2 w6.heap.size (fun y => ((S y ∧ y < w.heap.size) ∨ (w.heap.size + 2 ≤ y ∧ (Value.slice aA nA cA).ownBlock ≠ some y))) (.slice aA nA cA) (kz.take (s) ++ togS (tAt kz (s)) (tAt kz (s + 1)))) ∧ Hid (DrI w v2 false (.slice ap np cp) (.slice ak nk ck)) ∧ Hid (SO v2 (w.heap.size + 2) (fun y => (S y ∧ y < w.heap.size) ∨ (w3.heap.size ≤ y ∧ y < w4.heap.size)) (.slice (some ⟨gk, 0, none⟩) n3 c3) kz))
        case first =>
          go_region_law (first
            | (go_simp; go_at_call 183; refine HTG.out.mono ?_; rintro e w9 ⟨v9, rfl, hR9, hb9⟩)
            | (refine step_append_subs rfl _ _ rfl w6.heap.size _ _ (.slice a8 n8 c8) _ (kz.take (s)) (togS (tAt kz (s)) (tAt kz (s + 1))) rfl (HST.out _ hb9).1 rfl hR9 HAP.out HTL2.out (HST.out _ hb9).2 ?_; intro vA wA hOA hgA haA; obtain ⟨aA, nA, cA, eA, -⟩ := hOA.shape; subst eA))
          all_goals (go_wp2_with fail; go_meet)
          all_goals exact ⟨aA, nA, cA, rfl, (HFIN.out _ _ _ _ _ _ hb9 hOA (fun y hy => HRR2.out y ⟨hy.1, trivial⟩) hgA).1, (HFIN.out _ _ _ _ _ _ hb9 hOA (fun y hy => HRR2.out y ⟨hy.1, trivial⟩) hgA).2.1, (HFIN.out _ _ _ _ _ _ hb9 hOA (fun y hy => HRR2.out y ⟨hy.1, trivial⟩) hgA).2.2⟩
        case rest =>
          obtain ⟨aA, nA, cA, rfl, HSA, HIA, HKA⟩ := hcut
          clear HFIN HST HAP HTG i0 i1 i2 j0 j1 j2 HS8 HI8 HK8 HTL2 HRR2
          have HZB : Hid (w6.heap.size ≤ wc.heap.size) := by
            obtain ⟨L, P, K, h1, _⟩ := HSA.out
            have hlen : 0 < (kz.take (s) ++ togS (tAt kz (s)) (tAt kz (s + 1))).length := by
              rw [List.length_append]
              have := HTP.out
              omega
            rcases h1.2 with ⟨_, h0⟩ | ⟨g, _, _, h0, h2, h3, _⟩
            · omega
            · have := (Array.getElem?_eq_some_iff.1 h3).1
              show _ ≤ _; omega
          have HRA : Hid (SubR wc (fun y => y < w6.heap.size ∧ ((S y ∧ y < w.heap.size) ∨ w.heap.size + 2 ≤ y)) (.slice (some ⟨gk, 0, none⟩) n3 c3) kz) := HKA.out.subR (fun y e h1 _ => by have e' : gk = y := (by simpa [Value.ownBlock] using e); have := HGZ.out; exact ⟨by omega, .inr h1⟩) (fun y hy _ => by
            have := HGZ.out
            have := HGK.out
            rcases hy with h | h
            · exact ⟨by have := h.2; omega, .inl h⟩
            · exact ⟨by omega, .inr (by omega)⟩)
          have HAQ : Hid (∀ y, y < w6.heap.size ∧ ((S y ∧ y < w.heap.size) ∨ w.heap.size + 2 ≤ y) → (Value.slice aA nA cA).ownBlock ≠ some y) := fun y hy e => by have := (HSA.out.lo y e).1; have := hy.1; omega
          have HDL : Hid ((kz.take (s) ++ togS (tAt kz (s)) (tAt kz (s + 1))).length + (kz.drop (s + 1 + 1)).length ≤ 1048576) := by
            have := HTL.out
            have := HLN.out
            rw [List.length_append, List.length_take, List.length_drop]; show _ ≤ _; omega
          have hzz1 : ((s : Int) + 1 + 1 : Int) ≤ (n3 : Int) := by omega
          have hzz2 : (0 : Int) ≤ ((s : Int) + 1 + 1 : Int) := by omega
          by_cases hcap : ¬ c3 = s + 1 + 1
          · have HDR := hid (HRA.out.drop (m := s + 1 + 1) (by omega))
            rw [Nat.zero_add] at HDR
            go_wp2_with (at_builtin; refine wpList_append_subs rfl _ _ rfl w6.heap.size _ (fun y => y < w6.heap.size ∧ ((S y ∧ y < w.heap.size) ∨ w.heap.size + 2 ≤ y)) (.slice aA nA cA) _ _ (kz.drop (s + 1 + 1)) rfl HSA.out rfl HDR.out HAQ.out HDL.out HZB.out ?_)
            intro v6 wD hO6 hg6 ha6
            obtain ⟨a6, n6, c6, e6, -⟩ := hO6.shape
            subst e6
            have hID := HIA.out.grow hg6 (fun x e => by have := (HSA.out.lo x e).1; have := HGZ.out; omega)
            have hSD : Sub wD (fun y => (S y ∧ y < w.heap.size) ∨ w.heap.size + 2 ≤ y) false (.slice none 0 0) (.slice a6 n6 c6) (.mk [] (kz.take s ++ (togS (tAt kz s) (tAt kz (s + 1)) ++ kz.drop (s + 1 + 1)))) := (hO6.subR (fun y _ h1 _ => .inr (by have := HGZ.out; omega)) (fun y hy _ => by
              rcases hy.1 with (h | h) | h
              · exact .inl h
              · exact .inr h.1
              · exact h.2)).sub HNE.out
            have HD2 := hid (hID.done (S := fun y => S y ∧ y < w.heap.size) hSD (fun y hy => hy.2))
            have r0 := hID.r.cell (j := 0) rfl
            have r1 := hID.r.cell (j := 1) rfl
            have r2 := hID.r.cell (j := 2) rfl
            have rf0 := hID.r.free 0
            have rf1 := hID.r.free 1
            have rf2 := hID.r.free 2
            have z0 := HD2.out.2.2.cell (j := 0) rfl
            have z1 := HD2.out.2.2.cell (j := 1) rfl
            have z2 := HD2.out.2.2.cell (j := 2) rfl
            clear hO6 hg6 ha6 hID hSD HDR
            go_wp2
            refine bodyPost_ret (v := .agg #[.bool false, .slice none 0 0, .slice a6 n6 c6]) ?_ rfl ?_
            · refine results_sub1 rfl _ _ _ rfl ?_ ?_ ?_
              · exact z0
              · exact z1
              · exact z2
            · refine ⟨_, _, _, _, _, _, _, rfl, ?_, HD2.out.2.1⟩
              rw [HF2.out]
              exact HD2.out.1.mono (fun y hy _ => hy.imp (fun h => h.1) id)
          · have hck : c3 = s + 1 + 1 := by omega
            have hnk1 : n3 = s + 1 + 1 := by omega
            have HDR : Hid (SubR wc (fun y => y < w6.heap.size ∧ ((S y ∧ y < w.heap.size) ∨ w.heap.size + 2 ≤ y)) (.slice (some ⟨gk, 0, none⟩) 0 0) (kz.drop (s + 1 + 1))) := by
              rw [List.drop_eq_nil_of_le (by rw [HLN.out]; have := HN3.out; omega)]
              exact ⟨fun _ => false, fun _ => .slice none 0 0, fun _ => .slice none 0 0, ⟨_, 0, rfl, Nat.le_refl _, by omega, fun _ => rfl, fun h => (by cases h), fun h => (by simp at h)⟩, fun i hi => (by simp at hi)⟩
            subst hck hnk1
            go_wp2_with (at_builtin; refine wpList_append_subs rfl _ _ rfl w6.heap.size _ (fun y => y < w6.heap.size ∧ ((S y ∧ y < w.heap.size) ∨ w.heap.size + 2 ≤ y)) (.slice aA nA cA) _ _ (kz.drop (s + 1 + 1)) rfl HSA.out rfl HDR.out HAQ.out HDL.out HZB.out ?_)
            intro v6 wD hO6 hg6 ha6
            obtain ⟨a6, n6, c6, e6, -⟩ := hO6.shape
            subst e6
            have hID := HIA.out.grow hg6 (fun x e => by have := (HSA.out.lo x e).1; have := HGZ.out; omega)
            have hSD : Sub wD (fun y => (S y ∧ y < w.heap.size) ∨ w.heap.size + 2 ≤ y) false (.slice none 0 0) (.slice a6 n6 c6) (.mk [] (kz.take s ++ (togS (tAt kz s) (tAt kz (s + 1)) ++ kz.drop (s + 1 + 1)))) := (hO6.subR (fun y _ h1 _ => .inr (by have := HGZ.out; omega)) (fun y hy _ => by
              rcases hy.1 with (h | h) | h
              · exact .inl h
              · exact .inr h.1
              · exact h.2)).sub HNE.out
            have HD2 := hid (hID.done (S := fun y => S y ∧ y < w.heap.size) hSD (fun y hy => hy.2))
            have r0 := hID.r.cell (j := 0) rfl
            have r1 := hID.r.cell (j := 1) rfl
            have r2 := hID.r.cell (j := 2) rfl
            have rf0 := hID.r.free 0
            have rf1 := hID.r.free 1
            have rf2 := hID.r.free 2
            have z0 := HD2.out.2.2.cell (j := 0) rfl
            have z1 := HD2.out.2.2.cell (j := 1) rfl
            have z2 := HD2.out.2.2.cell (j := 2) rfl
            clear hO6 hg6 ha6 hID hSD HDR
            go_wp2
            refine bodyPost_ret (v := .agg #[.bool false, .slice none 0 0, .slice a6 n6 c6]) ?_ rfl ?_
            · refine results_sub1 rfl _ _ _ rfl ?_ ?_ ?_
              · exact z0
              · exact z1
              · exact z2
            · refine ⟨_, _, _, _, _, _, _, rfl, ?_, HD2.out.2.1⟩
              rw [HF2.out]
              exact HD2.out.1.mono (fun y hy _ => hy.imp (fun h => h.1) id)
end Go.Proofs.Ytcpdedpgjaimkaa
/-
  spec.TreeDrop.
-/
namespace Go.Proofs.Ytcpdedpgjaimkaa
open Go.RowKit
theorem strip1_rootD (t : T) : strip1 t = rootD t := rfl
theorem dropV_small (ns : List NB) (k : ByteArray) : smallK ((dropV ns k).getD []) ∧ ((dropV ns k).getD []).length ≤ 100000 := by
  have h0 : smallK (([] : List NB)) ∧ ([] : List NB).length ≤ 100000 := ⟨fun i hi => by simp at hi, by simp⟩
  unfold dropV
  split
  · exact h0
  · rename_i t h
    split
    · exact layT_small (rootD_out (k := k) (okT_putIn h)).1 (by have := (dropV_size h k).2.1; omega)
    · exact h0
theorem rootD_ks1 {h : Nat} {t : T} {k : ByteArray} (g : PutIn h true t) : (rootD (dropF h t k)).ks.length ≠ 1 := by
  rcases (rootD_out (k := k) g).1 with h1 | h1
  · exact full_ks1 h1
  · rw [h1]; decide
set_option maxHeartbeats 2000000 in
set_option maxRecDepth 20000 in
theorem specTreeDrop_any (ns : List NB) (hlen : ns.length ≤ 1048576) (hsm : smallN ns) (S : Nat → Prop) (an : Option Addr) (nn cn : Nat) (k : ByteArray) (w : World) (hN : Nr w S (.slice an nn cn) ns) :
    Calls Try.prog 145 #[.agg #[.slice an nn cn], .string k] w fun e w' => STPost (dropV ns k) w e w' := by
  have h1 := hN.len.2.1
  have h2 := hN.len.2.2
  have HB0 : Hid (Below w.heap.size w ((w.alloc (.cells #[.slice an nn cn] 25)).alloc (.cells #[.slice none 0 0] 25))) := below_new (below_new (Below.refl _ _))
  have K0 : Hid (Bk ((w.alloc (.cells #[.slice an nn cn] 25)).alloc (.cells #[.slice none 0 0] 25)) (w.heap.size + 1) 25 [.slice none 0 0]) := by
    have := Bk.new (w.alloc (.cells #[.slice an nn cn] 25)) 25 [.slice none 0 0]
    show Bk _ _ _ _
    simpa using this
  have KA : Hid (Bk ((w.alloc (.cells #[.slice an nn cn] 25)).alloc (.cells #[.slice none 0 0] 25)) w.heap.size 25 [.slice an nn cn]) := (Bk.new w 25 [.slice an nn cn]).alloc _
  have a0 := KA.out.cell (j := 0) rfl
  have H0 := hid (hN.below HB0.out)
  have HLS := hid (And.intro hlen hsm)
  clear hN hlen hsm
  go_enter Try.func145, Try.ntmps145
  go_wp2_with fail
  refine (specTreeOk_any ns HLS.out.1 HLS.out.2 S an nn cn _ H0.out).mono ?_
  generalize (w.alloc (.cells #[.slice an nn cn] 25)).alloc (.cells #[.slice none 0 0] 25) = U at *
  rintro e w1 ⟨rfl, hb⟩
  have HB1 := hid (HB0.out.trans (hb.mono HB0.out.size))
  have K1 := hid (K0.out.below hb)
  have KA1 := hid (KA.out.below hb)
  have H1 := hid (H0.out.below hb)
  clear hb HB0 K0 H0 KA a0
  have HNO : Hid (∀ (X : World) (u : Value), Below w.heap.size w X → Below w.heap.size w (X.setCell ⟨w.heap.size + 1, 0, none⟩ u)) := fun X u hb => ⟨hb.os, hb.tape, hb.output, by simp [World.setCell]; exact hb.size, fun i hi => (Below.heap_setCell _ _ _ _ (show i ≠ w.heap.size + 1 by omega)).trans (hb.block i hi)⟩
  rw [spOk_eq]
  have c0 := K1.out.cell (j := 0) rfl
  have f0 := K1.out.free 0
  have d0 := (K1.out.set 0 (.slice none 0 0)).cell (j := 0) rfl
  cases hr : okT ns with
  | none =>
    have HR : Hid (dropV ns k = none) := by show _ = _; rw [dropV, hr]
    clear hr
    go_wp2
    refine bodyPost_ret (v := .tuple #[.agg #[.slice none 0 0], .bool false]) ?_ rfl ?_
    · refine results_tree2 rfl _ _ _ rfl rfl ?_
      exact d0
    · rw [HR.out]; exact ⟨_, _, _, rfl, NewK.nil _ _, HNO.out _ _ HB1.out⟩
  | some t =>
    have HR : Hid (dropV ns k = if kOk k = true then some (layT (rootD (dropF t.lv t k))) else none) := by show _ = _; rw [dropV, hr]
    cases hk : kOk k with
    | false =>
      have HR2 : Hid (dropV ns k = none) := by show _ = _; rw [HR.out, hk]; simp
      have HKO := hid (specKeyOk_is k false hk)
      clear hk HR hr
      go_wp2_with fail
      refine (HKO.out w1).mono ?_
      rintro e w2 ⟨rfl, rfl⟩
      go_wp2
      refine bodyPost_ret (v := .tuple #[.agg #[.slice none 0 0], .bool false]) ?_ rfl ?_
      · refine results_tree2 rfl _ _ _ rfl rfl ?_
        exact d0
      · rw [HR2.out]; exact ⟨_, _, _, rfl, NewK.nil _ _, HNO.out _ _ HB1.out⟩
    | true =>
      have HKO := hid (specKeyOk_is k true hk)
      have HR3 : Hid (dropV ns k = some (layT (rootD (dropF t.lv t k)))) := by show _ = _; rw [HR.out, hk]; simp
      have HOK := hid (okT_facts hr)
      have HG := hid (okT_putIn hr)
      have HRO := hid (rootD_out (k := k) (okT_putIn hr))
      have HSZ := hid (dropV_size hr k)
      have HDS : Hid (dropS t.lv t k = dropF t.lv t k) := dropS_eq t.lv true t k HG.out
      have HK1 := hid (rootD_ks1 (k := k) (okT_putIn hr))
      clear hk HR hr
      have g0 := KA1.out.cell (j := 0) rfl
      go_wp2_with fail
      refine (HKO.out w1).mono ?_
      rintro e w2 ⟨rfl, rfl⟩
      clear HKO c0 f0 d0
      go_wp2_with fail
      refine (specRoot_any ns HLS.out.1 HLS.out.2 S an nn cn w2 H1.out).mono ?_
      rintro e w3 ⟨hpost, hb⟩
      rw [HOK.out.root] at hpost
      obtain ⟨lf, ap, np, cp, ak, nk, ck, rfl, hs⟩ := hpost
      have HS3 := hid hs
      have HB3 := hid (Below.then' HB1.out hb (Nat.le_refl _))
      have K3 := hid (K1.out.below hb)
      clear hs hb K1 KA1 g0 HB1 H1
      have HB4 := hid (below_new (o := .cells #[.bool lf, .slice ap np cp, .slice ak nk ck] 169) (w := w3) (Below.refl _ _))
      have KS := hid (Bk.new w3 169 [.bool lf, .slice ap np cp, .slice ak nk ck])
      have k0 := KS.out.cell (j := 0) rfl
      have k1 := KS.out.cell (j := 1) rfl
      have k2 := KS.out.cell (j := 2) rfl
      go_wp2_with fail
      refine (specDrop_any t.lv true _ lf ap ak np cp nk ck t k _ (HS3.out.kept HB4.out) HG.out).mono ?_
      rintro e w5 ⟨l5, ap5, np5, cp5, ak5, nk5, ck5, rfl, hR5, hb5⟩
      rw [HDS.out] at hR5
      have HR5 := hid hR5
      have HB7 := hid (Below.then' (Below.then' HB3.out HB4.out (Nat.le_refl _)) hb5 (Nat.le_refl _))
      have K7 := hid ((K3.out.below HB4.out).below hb5)
      clear hR5 hb5 k0 k1 k2 KS HB4 HB3 K3 HS3
      have HT := hid (specTree_any _ l5 ap5 ak5 np5 cp5 nk5 ck5 (dropF t.lv t k) w5 HR5.out HK1.out HRO.out.1 (by have := HSZ.out.2.1; rw [strip1_rootD]; omega))
      go_wp2_with fail
      refine HT.out.mono ?_
      rintro e w8 ⟨a8, n8, c8, rfl, hN8, hb8⟩
      rw [strip1_rootD] at hN8
      have K8 := hid (K7.out.below hb8)
      have HB8 := hid (Below.then' HB7.out hb8 (Nat.le_refl _))
      have hwx : w.heap.size + 1 < w5.heap.size := K7.out.lt
      have HNN : Hid (NewK w (w8.setCell ⟨w.heap.size + 1, 0, none⟩ (.slice a8 n8 c8)) (.slice a8 n8 c8) (layT (rootD (dropF t.lv t k)))) := (NrK.to hN8 (only_set (R := fun y => y = w.heap.size + 1) rfl _) (fun y hy _ e => by have := hy.1; omega)).mono (fun y hy hl => ⟨by have := hy.1; omega, hl⟩)
      have e0 := K8.out.cell (j := 0) rfl
      have e1 := K8.out.free 0
      have d1 := (K8.out.set 0 (.slice a8 n8 c8)).cell (j := 0) rfl
      clear hN8 hb8 HT
      go_wp2
      refine bodyPost_ret (v := .tuple #[.agg #[.slice a8 n8 c8], .bool true]) ?_ rfl ?_
      · refine results_tree2 rfl _ _ _ rfl rfl ?_
        exact d1
      · rw [HR3.out]; exact ⟨_, _, _, rfl, HNN.out, HNO.out _ _ HB8.out⟩
end Go.Proofs.Ytcpdedpgjaimkaa
/-
  The trees that the laws draw: some trees that are not too large.
-/
namespace Go.Proofs.Ytcpdedpgjaimkaa
open Go.RowKit
set_option maxHeartbeats 4000000 in
theorem val_any (g : Nat) (w : World) (h : Cu w g) : Calls Try.prog 147 #[.pointer (some ⟨g, 0, none⟩)] w fun e w' => (∃ s : ByteArray, e = .returned (.string s)) ∧ w.grownBy w' (some g) ∧ Cu w' g := by
  have HC := hid h
  clear h
  go_enter Try.func147, Try.ntmps147
  go_wp2_with fail
  refine (below_any g 12 w HC.out (by omega) (by omega)).mono ?_
  rintro e w1 ⟨⟨x, rfl, hx0, hx1⟩, hg1, hc1⟩
  have HG1 := hid hg1
  have HC1 := hid hc1
  clear hg1 hc1 HC
  by_cases h0 : x = 0
  · subst h0
    clear hx0 hx1
    go_wp2
    go_ret
    exact ⟨⟨_, rfl⟩, HG1.out, HC1.out⟩
  · by_cases h1 : x = 1
    · subst h1
      clear hx0 hx1 h0
      have hmk := made_any 60 60 (by omega) (by omega)
      have hst := run_str (rd_made w1 60 (by omega))
      generalize strOf (List.replicate 60 0) = s6 at hst
      go_wp2
      go_ret
      exact ⟨⟨_, rfl⟩, grownBy_trans HG1.out (grownBy_alloc _ _ _), HC1.out.alloc _⟩
    · go_wp2_with fail
      refine (below_any g 50 w1 HC1.out (by omega) (by omega)).mono ?_
      rintro e w2 ⟨⟨y, rfl, hy0, hy1⟩, hg2, hc2⟩
      have HG2 := hid (grownBy_trans HG1.out hg2)
      have HC2 := hid hc2
      clear hg2 hc2 HG1 HC1
      go_wp2_with fail
      refine (numText_any y w2 hy0 (by omega)).mono ?_
      rintro e w3 ⟨⟨s, rfl, hs⟩, hb3⟩
      have HG3 := hid (grownBy_trans HG2.out (grown_of_below hb3 _))
      have HC3 := hid (HC2.out.below hb3)
      clear hb3 HG2 HC2
      go_wp2
      go_ret
      exact ⟨⟨_, rfl⟩, HG3.out, HC3.out⟩
/-- A drawn tree: some small list of nodes in blocks that are new and not the cursor's. -/
structure Tw (w v : World) (g tb S : Nat) (a : Option Addr) (n c : Nat) (ns : List NB) : Prop where
  gr : w.grownBy v (some g)
  cu : Cu v g
  bk : Bk v tb 25 [.slice a n c]
  nr : NrK v (fun y => tb < y ∧ y < S) (.slice a n c) ns
  sm : smallK ns ∧ ns.length ≤ 100000
  ng : g < w.heap.size
  nb : w.heap.size ≤ tb
  sz : S ≤ v.heap.size
theorem Tw.lt {w v : World} {g tb S : Nat} {a : Option Addr} {n c : Nat} {ns : List NB} (h : Tw w v g tb S a n c ns) : tb < v.heap.size := h.bk.lt
/-- What touches the cursor alone, or makes new blocks. -/
theorem Tw.step {w v v' : World} {g tb S : Nat} {a : Option Addr} {n c : Nat} {ns : List NB} (h : Tw w v g tb S a n c ns) (hg : v.grownBy v' (some g)) (hc : Cu v' g) : Tw w v' g tb S a n c ns := by
  have hon : Only (fun y => y = g) v v' := only_of_grown hg (fun k e => by cases e; rfl)
  exact ⟨grownBy_trans h.gr hg, hc, h.bk.to hon (by have := h.ng; have := h.nb; omega), h.nr.to hon (fun y hy _ e => by have := h.ng; have := h.nb; have := hy.1; omega), h.sm, h.ng, h.nb, Nat.le_trans h.sz hg.size⟩
theorem Tw.below {w v v' : World} {g tb S : Nat} {a : Option Addr} {n c : Nat} {ns : List NB} (h : Tw w v g tb S a n c ns) (hb : Below v.heap.size v v') : Tw w v' g tb S a n c ns := h.step (grown_of_below hb _) (h.cu.below hb)
theorem small_smallN {ns : List NB} (h : smallK ns ∧ ns.length ≤ 100000) : smallN ns ∧ ns.length ≤ 1048576 := ⟨fun i hi => by have := h.1 i hi; omega, by have := h.2; omega⟩
/-- Another tree is stored. -/
theorem Tw.put {w v v' : World} {g tb S : Nat} {a a' : Option Addr} {n c n' c' : Nat} {ns ns' : List NB} (h : Tw w v g tb S a n c ns) (hb : Below v.heap.size v v') (hN : NewK v v' (.slice a' n' c') ns') (hs : smallK ns' ∧ ns'.length ≤ 100000) : Tw w (v'.setCell ⟨tb, 0, none⟩ (.slice a' n' c')) g tb v'.heap.size a' n' c' ns' := by
  have h2 := h.below hb
  have hlt := h.lt
  have hsz := h.gr.size
  have hon : Only (fun y => y = tb) v' (v'.setCell ⟨tb, 0, none⟩ (.slice a' n' c')) := only_set (R := fun y => y = tb) rfl _
  refine ⟨⟨h2.gr.os, h2.gr.tape, h2.gr.output, by simp [World.setCell]; exact h2.gr.size, fun i hi hne => (Below.heap_setCell _ _ _ _ (show i ≠ tb by have := h.nb; omega)).trans (h2.gr.block i hi hne)⟩, ?_, h2.bk.set 0 _, ?_, hs, h.ng, h.nb, by simp [World.setCell]⟩
  · exact h2.cu.set _ _ _ (by have := h.ng; have := h.nb; omega)
  · exact (NrK.to hN hon (fun y hy _ e => by have := hy.1; omega)).mono (fun y hy hl => ⟨by have := hy.1; omega, by simpa [World.setCell] using hl⟩)
theorem Tw.put' {w v : World} {g tb S : Nat} {a a' : Option Addr} {n c n' c' : Nat} {ns ns' : List NB} (h : Tw w v g tb S a n c ns) (hN : NrK v (fun y => tb < y) (.slice a' n' c') ns') (hs : smallK ns' ∧ ns'.length ≤ 100000) : Tw w (v.setCell ⟨tb, 0, none⟩ (.slice a' n' c')) g tb v.heap.size a' n' c' ns' := by
  have hon : Only (fun y => y = tb) v (v.setCell ⟨tb, 0, none⟩ (.slice a' n' c')) := only_set (R := fun y => y = tb) rfl _
  refine ⟨⟨h.gr.os, h.gr.tape, h.gr.output, by simp [World.setCell]; exact h.gr.size, fun i hi hne => (Below.heap_setCell _ _ _ _ (show i ≠ tb by have := h.nb; omega)).trans (h.gr.block i hi hne)⟩, ?_, h.bk.set 0 _, ?_, hs, h.ng, h.nb, by simp [World.setCell]⟩
  · exact h.cu.set _ _ _ (by have := h.ng; have := h.nb; omega)
  · exact (hN.to hon (fun y hy _ e => by omega)).mono (fun y hy hl => ⟨hy, by simpa [World.setCell] using hl⟩)
theorem Tw.alloc {w v : World} {g tb S : Nat} {a : Option Addr} {n c : Nat} {ns : List NB} (h : Tw w v g tb S a n c ns) (o : Obj) : Tw w (v.alloc o) g tb S a n c ns := h.below (below_new (Below.refl _ _))
theorem Tw.drew {w v : World} {g tb S : Nat} {a : Option Addr} {n c : Nat} {ns : List NB} (h : Tw w v g tb S a n c ns) : Tw w v.drew g tb S a n c ns := h.below (below_drew _)
/-- A new box for a tree, behind the drawn one. -/
def NewB (tb S : Nat) (v : World) (x : Nat) : Prop := Bk v x 25 [.slice none 0 0] ∧ tb < x ∧ S ≤ x
theorem newB {w v : World} {g tb S : Nat} {a : Option Addr} {n c : Nat} {ns : List NB} (h : Tw w v g tb S a n c ns) : NewB tb S (v.alloc (.cells #[.slice none 0 0] 25)) v.heap.size := ⟨Bk.new v 25 [.slice none 0 0], h.lt, h.sz⟩
theorem NewB.below {tb S x : Nat} {v v' : World} (h : NewB tb S v x) (hb : Below v.heap.size v v') : NewB tb S v' x := ⟨h.1.below hb, h.2⟩
theorem tr_grown {v v' : World} {x g W : Nat} {T : TypeId} {vs : List Value} (h : Bk v x T vs) (hg : v.grownBy v' (some g)) (hn : g < W) (hx : W ≤ x := by omega) : Bk v' x T vs := h.to (only_of_grown hg (R := fun y => y = g) (fun k e => by cases e; rfl)) (by omega)
theorem NewB.grown {tb S x g : Nat} {w v v' u : World} {a : Option Addr} {n c : Nat} {ns : List NB} (h : NewB tb S v x) (hg : v.grownBy v' (some g)) (hD : Tw w u g tb S a n c ns) : NewB tb S v' x := ⟨tr_grown h.1 hg hD.ng (by have := hD.nb; have := h.2.1; omega), h.2⟩
/-- What stands behind 'next, ok := TreePut(..)'. -/
def PutR (w : World) (g S : Nat) (a : Option Addr) (n c : Nat) (ns : List NB) (x z : Value) (v : World) : Prop := ∃ (nb : Nat) (b : Bool) (a5 : Option Addr) (n5 c5 : Nat) (ns5 : List NB), x = .pointer (some ⟨nb, 0, none⟩) ∧ z = .bool b ∧ Hid (Tw w v g (w.heap.size + 1) S a n c ns) ∧ Hid (Bk v nb 25 [.slice a5 n5 c5] ∧ w.heap.size + 1 < nb) ∧ Hid (NrK v (fun y => w.heap.size + 1 < y) (.slice a5 n5 c5) ns5) ∧ Hid (smallK ns5 ∧ ns5.length ≤ 100000) ∧ Hid (Bk v w.heap.size 25 [.slice none 0 0])
theorem fin2 {w v v' : World} {g S : Nat} {a a5 : Option Addr} {n c n5 c5 : Nat} {ns ns5 : List NB} {ok : Bool} (D : Tw w v g (w.heap.size + 1) S a n c ns) (R : Bk v w.heap.size 25 [.slice none 0 0]) (hN : NewK v v' (.slice a5 n5 c5) ns5) (hb : Below v.heap.size v v') (hs : smallK ns5 ∧ ns5.length ≤ 100000) : PutR w g S a n c ns (.pointer (some ⟨v'.heap.size, 0, none⟩)) (.bool ok) (v'.alloc (.cells #[.slice a5 n5 c5] 25)) := by
  have h4 := D.lt
  exact ⟨_, _, _, _, _, _, rfl, rfl, (D.below hb).alloc _, ⟨Bk.new v' 25 [.slice a5 n5 c5], (D.below hb).lt⟩, (NrK.below hN (below_new (Below.refl _ _))).mono (fun y hy _ => by have := hy.1; omega), hs, (R.below hb).alloc _⟩
theorem fin1 {w v v' : World} {g x S : Nat} {a a5 : Option Addr} {n c n5 c5 : Nat} {ns ns5 : List NB} {ok : Bool} (D : Tw w v g (w.heap.size + 1) S a n c ns) (R : Bk v w.heap.size 25 [.slice none 0 0]) (N : NewB (w.heap.size + 1) S v x) (hN : NewK v v' (.slice a5 n5 c5) ns5) (hb : Below v.heap.size v v') (hs : smallK ns5 ∧ ns5.length ≤ 100000) : PutR w g S a n c ns (.pointer (some ⟨x, 0, none⟩)) (.bool ok) (v'.setCell ⟨x, 0, none⟩ (.slice a5 n5 c5)) := by
  have h4 := D.lt
  have hx := N.2.1
  have hxS := N.2.2
  have hxl := N.1.lt
  have hon : Only (fun y => y = x) v' (v'.setCell ⟨x, 0, none⟩ (.slice a5 n5 c5)) := only_set (R := fun y => y = x) rfl _
  have D' := D.below hb
  have hg : v'.grownBy (v'.setCell ⟨x, 0, none⟩ (.slice a5 n5 c5)) (some x) := ⟨rfl, rfl, rfl, by simp [World.setCell], fun i _ hne => Below.heap_setCell _ _ _ _ (by intro e; exact hne (by rw [e]))⟩
  have hnb := D.nb
  refine ⟨_, _, _, _, _, _, rfl, rfl, ?_, ⟨(N.1.below hb).set 0 _, hx⟩, ?_, hs, (R.below hb).setOther (by omega) _ _⟩
  · refine ⟨⟨D'.gr.os, D'.gr.tape, D'.gr.output, by simp [World.setCell]; exact D'.gr.size, fun i hi hne => (Below.heap_setCell _ _ _ _ (show i ≠ x by omega)).trans (D'.gr.block i hi hne)⟩, D'.cu.set _ _ _ (by have := D.ng; omega), D'.bk.setOther (by omega) _ _, ?_, D.sm, D.ng, D.nb, by simp [World.setCell]; exact D'.sz⟩
    exact D'.nr.to hon (fun y hy _ e => by have := hy.2; omega)
  · exact (NrK.to hN hon (fun y hy _ e => by have := hy.1; omega)).mono (fun y hy _ => by have := hy.1; omega)
/-- What a drawn tree is. -/
def TwPost (w : World) (g : Nat) (e : Ending) (w' : World) : Prop := ∃ a n c ns, e = .returned (.agg #[.slice a n c]) ∧ w.grownBy w' (some g) ∧ Cu w' g ∧ NrK w' (fun y => w.heap.size ≤ y ∧ y < w'.heap.size) (.slice a n c) ns ∧ smallK ns ∧ ns.length ≤ 100000
set_option maxHeartbeats 4000000 in
set_option maxRecDepth 20000 in
theorem drawT_any (g : Nat) (most : Nat) (w : World) (h : Cu w g) (hm : most ≤ 100) : Calls Try.prog 98 #[.pointer (some ⟨g, 0, none⟩), .int .i64 (most : Int)] w fun e w' => TwPost w g e w' := by
  have hng := h.lt
  have HR0 := hid (Bk.new w 25 [.slice none 0 0])
  have KT : Hid (Bk ((w.alloc (.cells #[.slice none 0 0] 25)).alloc (.cells #[.slice none 0 0] 25)) (w.heap.size + 1) 25 [.slice none 0 0]) := by
    have := Bk.new (w.alloc (.cells #[.slice none 0 0] 25)) 25 [.slice none 0 0]
    show Bk _ _ _ _
    simpa using this
  have D0 : Hid (Tw w ((w.alloc (.cells #[.slice none 0 0] 25)).alloc (.cells #[.slice none 0 0] 25)) g (w.heap.size + 1) (w.heap.size + 2) none 0 0 []) := ⟨grownBy_trans (grownBy_alloc _ _ _) (grownBy_alloc _ _ _), (h.alloc _).alloc _, KT.out, nrK_nil _ _, ⟨fun i hi => by simp at hi, by simp⟩, hng, by omega, by simp⟩
  have R0 : Hid (Bk ((w.alloc (.cells #[.slice none 0 0] 25)).alloc (.cells #[.slice none 0 0] 25)) w.heap.size 25 [.slice none 0 0]) := HR0.out.alloc _
  clear h HR0 KT
  go_enter Try.func98, Try.ntmps98
  go_wp2_with fail
  refine (below_any g ((most : Int) + 1) _ D0.out.cu (by omega) (by omega)).mono ?_
  generalize (w.alloc (.cells #[.slice none 0 0] 25)).alloc (.cells #[.slice none 0 0] 25) = U at *
  rintro e w1 ⟨⟨x, rfl, hx0, hx1⟩, hg1, hc1⟩
  have D1 := hid (D0.out.step hg1 hc1)
  have R1 : Hid (Bk w1 w.heap.size 25 [.slice none 0 0]) := R0.out.to (only_of_grown hg1 (R := fun y => y = g) (fun k e => by cases e; rfl)) (by omega)
  obtain ⟨x, rfl⟩ := Int.eq_ofNat_of_zero_le hx0
  have hxm : x ≤ 100 := by omega
  clear hg1 hc1 D0 R0 hx0 hx1
  go_wp2_with fail
  go_loopw [6] (fun z wr => ∃ (j S : Nat) (a : Option Addr) (n c : Nat) (ns : List NB), j ≤ 100 ∧ z = .int .i64 (j : Int) ∧ Hid (Tw w wr g (w.heap.size + 1) S a n c ns) ∧ Hid (Bk wr w.heap.size 25 [.slice none 0 0])) (fun z _ => (intOf z).toNat)
  case atStart => exact ⟨x, _, _, _, _, _, hxm, rfl, D1.out, R1.out⟩
  case round =>
    obtain ⟨j, S, a, n, c, ns, hj, rfl, HD, HR⟩ := hrel
    by_cases hlt : 0 < j
    · have hlt' : (0 : Int) < (j : Int) := by omega
      go_wp2_with fail
      refine (below_any g 5 _ HD.out.cu (by omega) (by omega)).mono ?_
      rintro e w2 ⟨⟨y, rfl, hy0, hy1⟩, hg1, hc1⟩
      have D2 := hid (HD.out.step hg1 hc1)
      have R2 : Hid (Bk w2 w.heap.size 25 [.slice none 0 0]) := HR.out.to (only_of_grown hg1 (R := fun y => y = g) (fun k e => by cases e; rfl)) (by omega)
      clear hg1 hc1 HD HR
      by_cases hy : y = 0
      · subst hy
        have t0 := D2.out.bk.cell (j := 0) rfl
        have HFIN : Hid (∀ (w3 w4 : World) (k : ByteArray) (a4 : Option Addr) (n4 c4 : Nat), w2.drew.grownBy w3 (some g) → Cu w3 g → NewK w3 w4 (.slice a4 n4 c4) ((dropV ns k).getD []) → Below w3.heap.size w3 w4 → Tw w (w4.setCell ⟨w.heap.size + 1, 0, none⟩ (.slice a4 n4 c4)) g (w.heap.size + 1) w4.heap.size a4 n4 c4 ((dropV ns k).getD []) ∧ Bk (w4.setCell ⟨w.heap.size + 1, 0, none⟩ (.slice a4 n4 c4)) w.heap.size 25 [.slice none 0 0]) := by
          intro w3 w4 k a4 n4 c4 hg hc hN hb
          refine ⟨(D2.out.drew.step hg hc).put hb hN (dropV_small ns k), ?_⟩
          have r3 : Bk w3 w.heap.size 25 [.slice none 0 0] := (R2.out.below (below_drew _)).to (only_of_grown hg (R := fun y => y = g) (fun k e => by cases e; rfl)) (by omega)
          exact (r3.below hb).setOther (by omega) _ _
        go_wp2_with fail
        go_region_with (first
          | (go_at_call 100; refine (key_any g _ D2.out.drew.cu).mono ?_; rintro e w3 ⟨⟨k, rfl, hk⟩, hg3, hc3⟩; have D3 := D2.out.drew.step hg3 hc3; have t3 := D3.bk.cell (j := 0) rfl)
          | (go_at_call 145; refine (specTreeDrop_any ns (small_smallN D3.sm).2 (small_smallN D3.sm).1 _ a n c k _ D3.nr.nr).mono ?_; rintro e w4 ⟨a4, n4, c4, rfl, hN4, hb4⟩; have t4 := (D3.below hb4).bk.cell (j := 0) rfl; have tf4 := (D3.below hb4).bk.free 0))
        all_goals
          have HF := hid (HFIN.out _ _ _ _ _ _ hg3 hc3 hN4 hb4)
          clear HFIN t0 D3 t3 hg3 hc3 hN4 hb4
          go_wp2
          go_roundw
          case rel => exact ⟨j - 1, _, _, _, _, _, by omega, by go_num, HF.out.1, HF.out.2⟩
          case measure => simp [intOf]; omega
      · have hy' : ¬ y = 0 := hy
        have t0 := D2.out.bk.cell (j := 0) rfl
        have t0a := (D2.out.alloc (.cells #[.slice none 0 0] 25)).bk.cell (j := 0) rfl
        go_wp2_with fail
        go_cut [7, 8] (fun x z v => PutR w g S a n c ns x z v)
        case first =>
          go_region_with (first
            | (go_at_call 100; refine (key_any g _ (by first | exact D2.out.drew.cu | exact (D2.out.drew.alloc _).cu)).mono ?_; rintro e w3 ⟨⟨k, rfl, hk⟩, hg3, hc3⟩; have D3 : Tw w w3 g (w.heap.size + 1) S a n c ns := (by first | exact D2.out.drew.step hg3 hc3 | exact (D2.out.drew.alloc _).step hg3 hc3); have t3 := D3.bk.cell (j := 0) rfl; have t3a := (D3.alloc (.cells #[.slice none 0 0] 25)).bk.cell (j := 0) rfl; have R3 : Bk w3 w.heap.size 25 [.slice none 0 0] := (by first | exact tr_grown (R2.out.below (below_drew _)) hg3 hng | exact tr_grown ((R2.out.below (below_drew _)).alloc _) hg3 hng); try (have n3 : NewB (w.heap.size + 1) S w3 w2.heap.size := (newB D2.out.drew).grown hg3 D2.out.drew))
            | (go_at_call 147; refine (val_any g _ (by first | exact D3.cu | exact (D3.alloc _).cu)).mono ?_; rintro e w4 ⟨⟨v, rfl⟩, hg4, hc4⟩; have D4 : Tw w w4 g (w.heap.size + 1) S a n c ns := (by first | exact D3.step hg4 hc4 | exact (D3.alloc _).step hg4 hc4); have t4 := D4.bk.cell (j := 0) rfl; have t4a := (D4.alloc (.cells #[.slice none 0 0] 25)).bk.cell (j := 0) rfl; have R4 : Bk w4 w.heap.size 25 [.slice none 0 0] := (by first | exact tr_grown R3 hg4 hng | exact tr_grown (R3.alloc _) hg4 hng); first | (have n4 := n3.grown hg4 D3) | (have n4 := (newB D3).grown hg4 D3) | skip)
            | (go_at_call 146; refine (specTreePut_any ns (small_smallN D4.sm).2 (small_smallN D4.sm).1 _ a n c k v _ (by first | exact D4.nr.nr | exact (D4.alloc _).nr.nr)).mono ?_; rintro e w5 ⟨a5, n5, c5, rfl, hN5, hb5⟩; first | (have m5 := n4.below hb5; have q5 := m5.1.cell (j := 0) rfl; have f5 := m5.1.free 0) | (have m5 := (newB D4).below hb5; have q5 := m5.1.cell (j := 0) rfl; have f5 := m5.1.free 0) | skip))
          all_goals (go_wp2_with fail; go_meet)
          all_goals first
            | exact fin2 D4 R4 hN5 hb5 (putV_small ns k v)
            | exact fin1 D4 R4 n4 hN5 hb5 (putV_small ns k v)
            | exact fin1 (D4.alloc _) (R4.alloc _) (newB D4) hN5 hb5 (putV_small ns k v)
        case rest =>
          obtain ⟨nb, b, a5, n5, c5, ns5, rfl, rfl, HD5, HB5, HN5, HS5, HR5⟩ := hcut
          clear t0 t0a
          cases b with
          | false =>
            go_wp2
            go_roundw
            case rel => exact ⟨j - 1, S, a, n, c, ns, by omega, by go_num, HD5.out, HR5.out⟩
            case measure => simp [intOf]; omega
          | true =>
            have q0 := HB5.out.1.cell (j := 0) rfl
            have q1 := HD5.out.bk.cell (j := 0) rfl
            have q2 := HD5.out.bk.free 0
            have HD6 := hid (HD5.out.put' HN5.out HS5.out)
            have HR6 : Hid (Bk _ w.heap.size 25 [.slice none 0 0]) := HR5.out.setOther (b := w.heap.size + 1) (by omega) 0 (.slice a5 n5 c5)
            go_wp2
            go_roundw
            case rel => exact ⟨j - 1, _, a5, n5, c5, ns5, by omega, by go_num, HD6.out, HR6.out⟩
            case measure => simp [intOf]; omega
    · obtain rfl : j = 0 := by omega
      have t0 := HD.out.bk.cell (j := 0) rfl
      have r0 := HR.out.cell (j := 0) rfl
      have rf := HR.out.free 0
      have d1 := (HR.out.set 0 (.slice a n c)).cell (j := 0) rfl
      have HFIN : Hid (TwPost w g (.returned (.agg #[.slice a n c])) (wr.setCell ⟨w.heap.size, 0, none⟩ (.slice a n c))) := by
        have hon : Only (fun y => y = w.heap.size) wr (wr.setCell ⟨w.heap.size, 0, none⟩ (.slice a n c)) := only_set (R := fun y => y = w.heap.size) rfl _
        refine ⟨a, n, c, ns, rfl, ⟨HD.out.gr.os, HD.out.gr.tape, HD.out.gr.output, by simp [World.setCell]; exact HD.out.gr.size, fun i hi hne => (Below.heap_setCell _ _ _ _ (show i ≠ w.heap.size by omega)).trans (HD.out.gr.block i hi hne)⟩, HD.out.cu.set _ _ _ (by omega), ?_, HD.out.sm⟩
        exact (HD.out.nr.to hon (fun y hy _ e => by have := hy.1; omega)).mono (fun y hy hl => ⟨by have := hy.1; omega, hl⟩)
      clear HD HR
      go_wp2
      refine bodyPost_ret (v := .agg #[.slice a n c]) ?_ rfl ?_
      · refine results_tree1 rfl _ _ _ rfl ?_
        exact d1
      · exact HFIN.out
end Go.Proofs.Ytcpdedpgjaimkaa
