/-
  nodes: a limb's nodes in the walk's order, behind others; all rows are apart.
-/
import Derived.Test.YtkflneeifllpgaaMw3
import Derived.Test.YtkflneeifllpgaaMw1
import Derived.Deep.DeepCutAuto
import Derived.Deep.RegionLaw
import Derived.Test.YtkflneeifllpgaaMw2
import Derived.Laws.StructEq
namespace Go.Proofs.Ytkflneeifllpgaa
open Go.RowKit
theorem NA.shape {w : World} {v : Value} {V : List V3} {ns : List NB} (h : NA w v V ns) : ∃ a n c, v = .slice a n c ∧ Hid (n = ns.length) := by
  obtain ⟨a, c, e⟩ := own_shape h.row
  exact ⟨a, _, c, e, rfl⟩
theorem wpList_append_node {w : World} {ops : Array Oper} {rest : List Oper} {o : Oper} {a : Act} {Q : Exit → Act → World → Prop} (hgd : o.guard = none) (s x : Operand)
    (ho : o.op = .call { callee := .builtin .append, args := #[s, x], argTypes := #[23, 23] }) (v : Value) (V : List V3) (ns : List NB) (hs : a.eval s = v) (hown : NA w v V ns) (pv : Value) (ps : List PB) (hP : w.ownsRow 0 35 2 pv ps.length (pcs ps)) (hd : ∀ y, pv.ownBlock = some y → v.ownBlock ≠ some y ∧ ∀ i, i < ns.length → ¬ bl (vAt V i) y)
    (g : Nat) (hx : a.eval x = .slice (some ⟨g, 0, none⟩) 1 1) (hB : Bk w g 106 [pv, .slice none 0 0, .slice none 0 0]) (hb : ns.length ≤ 1048576)
    (h : ∀ g' n' c' w', NA w' (.slice (some ⟨g', 0, none⟩) n' c') (V ++ [(pv, .slice none 0 0, .slice none 0 0)]) (ns ++ [⟨ps, [], []⟩]) → Hid (n' = ns.length + 1) → w.grownBy w' v.ownBlock → ((Value.slice (some ⟨g', 0, none⟩) n' c').ownBlock = v.ownBlock ∨ (Value.slice (some ⟨g', 0, none⟩) n' c').ownBlock = some w.heap.size) → wpList Try.prog ops Q rest (a.put o.dst (.slice (some ⟨g', 0, none⟩) n' c')) w') : wpList Try.prog ops Q (o :: rest) a w := by
  obtain ⟨i, hi, hz, hsz, hby⟩ := info_of infoNodeI
  obtain ⟨ap, cp, hpv⟩ := own_shape hP
  refine wpList_append_row_at hgd s x 23 ho 0 106 i _ 3 72 Try.underlying23 hi hz hsz hby rfl (by decide) v ns.length (ncs V) hs hown.row (fun _ => True) _ 1 [pv, .slice none 0 0, .slice none 0 0] hx (hB.rw (Nat.le_refl _) (by omega) (fun h => by omega) _ trivial) rfl
    (by intro u hu; simp at hu; rcases hu with rfl | rfl <;> first | (rw [hpv]; rfl) | rfl) (by unfold maxLen; omega) (by omega) (Nat.zero_le _) ?_
  intro v' w' k1 k2 k3
  rcases k1.2 with ⟨_, e⟩ | ⟨g', cap, cur, e, _⟩
  · omega
  · subst e
    refine h g' _ cap w' ?_ rfl k2 k3
    exact hown.push ⟨ps, [], []⟩ (pv, .slice none 0 0, .slice none 0 0) ⟨hP, World.ownsRow_nil _ _ _ _, World.ownsRow_nil _ _ _ _⟩ (fun y => ⟨fun _ => ⟨by simp [Value.ownBlock], by simp [Value.ownBlock]⟩, by simp [Value.ownBlock]⟩) (by rintro y (e | e | e) <;> first | exact hd y e | (simp [Value.ownBlock] at e)) k1 k2 k3
/-- The keys and kids of the node at n lie in new blocks. -/
def KF (w : World) (V : List V3) (n : Nat) : Prop := ∀ y, (vAt V n).2.1.ownBlock = some y ∨ (vAt V n).2.2.ownBlock = some y → w.heap.size ≤ y
def NodesPost (w : World) (v : Value) (V0 : List V3) (ns L : List NB) (S : Nat → Prop) (e : Ending) (w' : World) : Prop := ∃ v' V, e = .returned v' ∧ NI w w' v v' V0 V ns L S
theorem NA.rowAt {w : World} {a : Option Addr} {n c : Nat} {V : List V3} {ns : List NB} (h : NA w (.slice a n c) V ns) (hp : 0 < ns.length) : ∃ g, a = some ⟨g, 0, none⟩ ∧ Hid (n = ns.length) := by
  rcases h.row.2 with ⟨e, e2⟩ | ⟨g, cap, cur, e, _⟩
  · omega
  · cases e
    exact ⟨g, rfl, rfl⟩
theorem NA.cells {w : World} {g n c : Nat} {V : List V3} {ns : List NB} (h : NA w (.slice (some ⟨g, 0, none⟩) n c) V ns) (i : Nat) (hi : i < ns.length) : w.cell? ⟨g, i * 3, none⟩ = some (vAt V i).1 ∧ w.cell? ⟨g, i * 3 + 1, none⟩ = some (vAt V i).2.1 ∧ w.cell? ⟨g, i * 3 + 2, none⟩ = some (vAt V i).2.2 ∧ ∀ o, w.frozen? ⟨g, o, none⟩ = false := by
  have hc := World.ownsRow.cells h.row (g := g) rfl
  have hl := h.len
  obtain ⟨c0, c1, c2⟩ := ncs_at V i (by omega)
  have d0 := hc _ _ c0
  have d1 := hc _ _ c1
  have d2 := hc _ _ c2
  rw [Addr.add_lit, Nat.zero_add] at d0 d1 d2
  refine ⟨d0, d1, d2, fun o => ?_⟩
  rcases h.row.2 with ⟨e, _⟩ | ⟨g', cap, cur, e, _, k4, _⟩
  · cases e
  · cases e
    simp [World.frozen?, k4]
set_option maxHeartbeats 8000000 in
set_option maxRecDepth 20000 in
theorem nodes_any (t : T) : ∀ (S : Nat → Prop) (b : Nat) (w : World) (v : Value) (V0 : List V3) (ns : List NB) (r : Bool), Limb w S b t → t.full r = true → NA w v V0 ns → (∀ y, S y → y < w.heap.size ∧ v.ownBlock ≠ some y ∧ ∀ i, i < ns.length → ¬ bl (vAt V0 i) y) → ns.length + t.size ≤ 1048576 →
    Calls Try.prog 78 #[.pointer (some ⟨b, 0, none⟩), v] w fun e w' => NodesPost w v V0 ns (ns ++ lay ns.length t) S e w' := by
  induction t using T.ind
  rename_i ps ks ih
  intro S b w v V0 ns r hL hfu hN hS hsz
  obtain ⟨av, nv, cv, e3, HNV⟩ := hN.shape
  subst e3
  obtain ⟨pv, kv, A, SS, lb⟩ := hL.lb
  obtain ⟨ap, cp, e4⟩ := own_shape lb.hP
  obtain ⟨ak, ck, e5⟩ := own_shape lb.hK
  generalize hnk : ks.length = nk at e5
  generalize hnp : ps.length = np at e4
  have HNK := hid hnk
  have HNP := hid hnp
  subst e4 e5
  have HLB := hid lb
  have HIH := hid ih
  have HS := hid hS
  have HN := hid hN
  have HSZ := hid hsz
  have HFU := hid hfu
  have c0 := lb.hB.cell (j := 0) rfl
  have c1 := lb.hB.cell (j := 1) rfl
  have hnl : nv ≤ 1048576 := by have := HNV.out; have := HSZ.out; omega
  have HPW := hid (lb.hP)
  clear hL hfu hN hS hsz lb ih hnk hnp
  have HB0 := hid (below_new (o := .cells #[.slice ap np cp, .slice none 0 0, .slice none 0 0] 106) (w := w) (Below.refl _ _))
  have KZ := hid (Bk.new w 106 [.slice ap np cp, .slice none 0 0, .slice none 0 0])
  have HN0 := hid (HN.out.kept HB0.out)
  have HP0 := hid (own_kept HPW.out (only_of_below HB0.out (fun _ => False)) (fun _ _ h => h))
  have HD0 : Hid (∀ y, (Value.slice ap np cp).ownBlock = some y → (Value.slice av nv cv).ownBlock ≠ some y ∧ ∀ i, i < ns.length → ¬ bl (vAt V0 i) y) := fun y hy => (HS.out y (HLB.out.hPS y hy).1).2
  go_enter Try.func78, Try.ntmps78
  go_wp2_with (at_builtin; refine wpList_append_node rfl _ _ rfl _ V0 ns rfl HN0.out (.slice ap np cp) ps HP0.out HD0.out w.heap.size rfl KZ.out ?q1 ?_)
  case q1 => have := HSZ.out; omega
  intro g1 n1 c1' w1 hN1 HN1L hg1 ha1
  have hsz1 := hg1.size
  have HO1 : Hid (Only (fun y => (Value.slice av nv cv).ownBlock = some y) w w1) := (only_of_below HB0.out _).trans (only_of_grown hg1 (fun k e => e))
  have HI1 : Hid (NI w w1 (.slice av nv cv) (.slice (some ⟨g1, 0, none⟩) n1 c1') V0 (V0 ++ [(.slice ap np cp, .slice none 0 0, .slice none 0 0)]) ns (ns ++ ⟨ps, (ks.take 0).tail.map T.least, places (ns.length + 1) (ks.take 0)⟩ :: layL (ns.length + 1) (ks.take 0)) (fun y => (Value.slice ap np cp).ownBlock = some y ∨ ∃ i, i < 0 ∧ SS i y)) := by
    refine ⟨by simpa [layL, places] using hN1, fun i hi => vAt_append_left (by rw [HN.out.len]; exact hi), fun i h1 h2 y hy => ?_, HO1.out, fun y hy => ?_⟩
    · simp [layL] at h2
      obtain rfl : i = ns.length := by omega
      rw [← HN.out.len, vAt_append_at] at hy
      rcases hy with e | e | e
      · exact .inl (.inl e)
      · simp [Value.ownBlock] at e
      · simp [Value.ownBlock] at e
    · rcases ha1 with e | e
      · exact .inl (e ▸ hy)
      · rw [e] at hy; cases hy; right; simp
  have HKF1 : Hid (KF w (V0 ++ [(.slice ap np cp, .slice none 0 0, .slice none 0 0)]) ns.length) := by
    intro y hy
    rw [← HN.out.len, vAt_append_at] at hy
    simp [Value.ownBlock] at hy
  have d1 := (HLB.out.hB.to HO1.out (fun e => (HS.out b HLB.out.hb).2.1 e)).cell (j := 1) rfl
  clear hN1 hg1 ha1 HN0 HP0 KZ HB0 c0 c1 hsz1
  go_wp2_with fail
  go_loopw [1, 23] (fun x i wr => ∃ (k g' n' c' : Nat) (V : List V3), k ≤ nk ∧ i = .int .i64 k ∧ x = .slice (some ⟨g', 0, none⟩) n' c' ∧ Hid (NI w wr (.slice av nv cv) (.slice (some ⟨g', 0, none⟩) n' c') V0 V ns (ns ++ ⟨ps, (ks.take k).tail.map T.least, places (ns.length + 1) (ks.take k)⟩ :: layL (ns.length + 1) (ks.take k)) (fun y => (Value.slice ap np cp).ownBlock = some y ∨ ∃ i, i < k ∧ SS i y)) ∧ Hid (KF w V ns.length)) (fun _ i _ => nk - (intOf i).toNat)
  case atStart => exact ⟨0, g1, n1, c1', _, Nat.zero_le _, rfl, rfl, HI1.out, HKF1.out⟩
  case round =>
    obtain ⟨k, g', n', c', V, hkn, rfl, rfl, HL, HKF⟩ := hrel
    by_cases hlt : k < nk
    · have hlt' : (k : Int) < (nk : Int) := by omega
      have hks : k < ks.length := by rw [HNK.out]; exact hlt
      have HK4 : Hid (ks.length ≤ 4) := by
        obtain ⟨_, h, _, _⟩ := full_br HFU.out (by rintro rfl; simp at hks)
        exact h
      have HBR : Hid (∀ {i : Nat}, i < ks.length → (tAt ks i).full false = true) := by
        obtain ⟨_, _, _, h⟩ := full_br HFU.out (by rintro rfl; simp at hks)
        exact fun hi => h _ (tAt_mem hi)
      have HSZK : Hid (ns.length + 1 + szL ks ≤ 1048576) := by have := HSZ.out; simp only [T.size] at this; show _ ≤ _; omega
      have HLN : Hid (n' = ns.length + 1 + szL (ks.take k)) := by
        show _ = _
        obtain ⟨_, _, _, e, h⟩ := HL.out.na.shape
        cases e
        rw [h.out]; simp [layL_length]; omega
      obtain ⟨gk, ofk, hak, hgS, hgl, hcell⟩ := (rw_own HLB.out.hK (S := S) (fun y e _ _ => (HLB.out.hKS y e).1)).at (by omega)
      subst hak
      have hck := (rw_own HLB.out.hK (S := S) (fun y e _ _ => (HLB.out.hKS y e).1)).to HL.out.only (fun y hy _ e => (HS.out y hy).2.1 e)
      obtain ⟨gk2, ofk2, hak2, _, _, hcell2⟩ := hck.at (by omega)
      cases hak2
      have cq := hcell2 k _ (ptrs_at A _ k hks)
      simp only [ptr] at cq
      clear hck hcell hcell2 hgS hgl
      have hk0 : (0 : Int) ≤ (k : Int) := by omega
      cases k with
      | zero =>
        have HLX : Hid (NI w wr (.slice av nv cv) (.slice (some ⟨g', 0, none⟩) n' c') V0 V ns (ns ++ ⟨ps, (ks.take (0 + 1)).tail.map T.least, places (ns.length + 1) (ks.take 0)⟩ :: layL (ns.length + 1) (ks.take 0)) (fun y => (Value.slice ap np cp).ownBlock = some y ∨ ∃ i, i < 0 ∧ SS i y)) := by
          have e : (ks.take (0 + 1)).tail.map T.least = (ks.take 0).tail.map T.least := by cases ks <;> simp
          show NI _ _ _ _ _ _ _ _ _
          rw [e]
          exact HL.out
        have HKX := HKF
        simp only [Nat.add_zero] at cq
        clear HL HKF
        generalize hVX : V = VX at *
        clear hVX

        have HL2X := HLX
        obtain ⟨-, -, m2, mf⟩ := HLX.out.na.cells ns.length (by simp)
        have hrow := (HLX.out.na.own ns.length (by simp)).1.2.2
        rw [nAt_append_at] at hrow
        simp only at hrow
        obtain ⟨aki, cki, hki⟩ := own_shape hrow
        have HNKI : Hid ((places (ns.length + 1) (ks.take 0)).length = 0) := by show _ = _; rw [places_length, List.length_take]; omega
        rw [HNKI.out] at hki hrow
        have HBLK := hid hki
        rw [hki] at m2 hrow
        rw [← HNV.out] at m2
        have mf2 := mf (nv * 3 + 2)
        have HLu := hid (HLX.out.keep (below_new (o := .cells #[.int .i64 (n' : Int)] 3) (Below.refl _ _)))
        have HRI : Hid (World.ownsRow (wr.alloc (.cells #[.int .i64 (n' : Int)] 3)) 0 3 1 (.slice aki (0) cki) (0) ((places (ns.length + 1) (ks.take 0)).map (Value.int .i64))) := own_kept hrow (only_of_below (below_new (Below.refl _ _)) (fun _ => False)) (fun _ _ h => h)
        have hnv : (nv : Int) < (n' : Int) := by have h1 := HLN.out; have h2 := HNV.out; omega
        have hnv0 : (0 : Int) ≤ (nv : Int) := by omega
        have m2a : (wr.alloc (.cells #[.int .i64 (n' : Int)] 3)).cell? ⟨g', nv * 3 + 2, none⟩ = some (.slice aki (0) cki) := by
          have := (HLu.out.na.cells ns.length (by simp)).2.2.1
          rw [HBLK.out, ← HNV.out] at this
          exact this
        have hkk : 0 ≤ 1048576 := by have := HK4.out; omega
        clear hrow mf hki
        go_wp2_with (at_builtin; refine wpList_append_int1 rfl _ _ rfl _ (0) _ rfl HRI.out wr.heap.size (n' : Int) rfl (Bk.new wr 3 [.int .i64 (n' : Int)]) hkk ?_)
        intro ai2 ni2 ci2 w2 hO2 hg2 ha2
        have HL2 : Hid (NI w (w2.setCell ⟨g', nv * 3 + 2, none⟩ (.slice ai2 ni2 ci2)) (.slice av nv cv) (.slice (some ⟨g', 0, none⟩) n' c') V0 (VX.set ns.length ((vAt VX ns.length).1, (vAt VX ns.length).2.1, .slice ai2 ni2 ci2)) ns (ns ++ ⟨ps, (ks.take (0 + 1)).tail.map T.least, places (ns.length + 1) (ks.take (0 + 1))⟩ :: layL (ns.length + 1) (ks.take 0)) (fun y => (Value.slice ap np cp).ownBlock = some y ∨ ∃ i, i < 0 ∧ SS i y)) := by
          have h2 : places (ns.length + 1) (ks.take (0 + 1)) = places (ns.length + 1) (ks.take 0) ++ [(n' : Int)] := by rw [places_take ks _ _ hks, HLN.out]
          have h1 := HLu.out.addKid (s := (n' : Int)) (kx' := .slice ai2 ni2 ci2) (by simp only; rw [HNKI.out]; exact hO2) (by rw [HBLK.out]; exact hg2) (by rw [HBLK.out]; exact ha2.imp id (fun e => ⟨_, e, by simp⟩)) (fun y hy => HKX.out y (.inr hy))
          show NI _ _ _ _ _ _ _ _ _
          have e3 : (⟨g', ns.length * 3 + 2, none⟩ : Addr) = ⟨g', nv * 3 + 2, none⟩ := by rw [HNV.out]
          rw [e3] at h1
          rw [h2]
          exact h1
        have HK2 : Hid (KF w (VX.set ns.length ((vAt VX ns.length).1, (vAt VX ns.length).2.1, .slice ai2 ni2 ci2)) ns.length) := by
          intro y hy
          rw [vAt_set _ _ _ (by rw [HLX.out.na.len]; simp)] at hy
          rcases hy with hy | hy
          · exact HKX.out y (.inl hy)
          · rcases ha2 with e | e
            · exact HKX.out y (.inr (by rw [HBLK.out, ← e]; exact hy))
            · rw [e] at hy; cases hy
              have := HLX.out.only.size
              simp; omega
        have hz2 := World.cell?_of_block (w := wr.alloc (.cells #[.int .i64 (n' : Int)] 3)) (w' := w2) (a := ⟨g', nv * 3 + 2, none⟩) (hg2.block g' (block_lt m2a) (fun e => HLu.out.na.off ns.length (by simp) g' (.inr (.inr (by rw [HBLK.out]; exact e.symm))) rfl))
        have z2 := hz2.trans m2a
        have zf : w2.frozen? ⟨g', nv * 3 + 2, none⟩ = false := (World.frozen?_of_block (w := wr.alloc (.cells #[.int .i64 (n' : Int)] 3)) (w' := w2) (a := ⟨g', nv * 3 + 2, none⟩) (hg2.block g' (block_lt m2a) (fun e => HLu.out.na.off ns.length (by simp) g' (.inr (.inr (by rw [HBLK.out]; exact e.symm))) rfl))).trans ((HLu.out.na.cells ns.length (by simp)).2.2.2 _)
        clear hO2 hg2 ha2 HRI HLu hz2 m2a m2 mf2 HL2X
        have HLEN : Hid ((ns ++ ⟨ps, (ks.take (0 + 1)).tail.map T.least, places (ns.length + 1) (ks.take (0 + 1))⟩ :: layL (ns.length + 1) (ks.take 0)).length = ns.length + 1 + szL (ks.take 0)) := by show _ = _; simp [layL_length]; omega
        have HEQ : Hid ((ns ++ ⟨ps, (ks.take (0 + 1)).tail.map T.least, places (ns.length + 1) (ks.take (0 + 1))⟩ :: layL (ns.length + 1) (ks.take 0)) ++ lay (ns ++ ⟨ps, (ks.take (0 + 1)).tail.map T.least, places (ns.length + 1) (ks.take (0 + 1))⟩ :: layL (ns.length + 1) (ks.take 0)).length (tAt ks (0)) = ns ++ ⟨ps, (ks.take (0 + 1)).tail.map T.least, places (ns.length + 1) (ks.take (0 + 1))⟩ :: layL (ns.length + 1) (ks.take (0 + 1))) := by
          show _ = _
          rw [HLEN.out, layL_take ks (0) (ns.length + 1) hks]
          simp
        have HBND : Hid ((ns ++ ⟨ps, (ks.take (0 + 1)).tail.map T.least, places (ns.length + 1) (ks.take (0 + 1))⟩ :: layL (ns.length + 1) (ks.take 0)).length + (tAt ks (0)).size ≤ 1048576) := by
          show _ ≤ _
          have h1 := szL_take_le ks (0 + 1)
          rw [szL_take ks (0) hks] at h1
          have h2 := HSZK.out
          rw [HLEN.out]
          omega
        have HKID : Hid (Limb (w2.setCell ⟨g', nv * 3 + 2, none⟩ (.slice ai2 ni2 ci2)) (SS (0)) (A (0)) (tAt ks (0))) := (HLB.out.hk (0) hks).to HL2.out.only (fun x hx e => (HS.out x (HLB.out.hSS (0) hks x hx).1).2.1 e)
        have HCOND : Hid (∀ y, SS (0) y → y < (w2.setCell ⟨g', nv * 3 + 2, none⟩ (.slice ai2 ni2 ci2)).heap.size ∧ (Value.slice (some ⟨g', 0, none⟩) n' c').ownBlock ≠ some y ∧ ∀ i, i < (ns ++ ⟨ps, (ks.take (0 + 1)).tail.map T.least, places (ns.length + 1) (ks.take (0 + 1))⟩ :: layL (ns.length + 1) (ks.take 0)).length → ¬ bl (vAt (VX.set ns.length ((vAt VX ns.length).1, (vAt VX ns.length).2.1, .slice ai2 ni2 ci2)) i) y) := by
          intro y hy
          have hs := HLB.out.hSS (0) hks y hy
          have hS1 := HS.out y hs.1
          have hsz := HL2.out.only.size
          refine ⟨by omega, fun e => ?_, fun i hi hb => ?_⟩
          · rcases HL2.out.vb y e with h | h
            · exact hS1.2.1 h
            · omega
          · by_cases hin : i < ns.length
            · rw [HL2.out.old i hin] at hb
              exact hS1.2.2 i hin hb
            · rcases HL2.out.new i (by omega) hi y hb with (h | ⟨z, hz, h⟩) | h
              · exact hs.2.2.1 h
              · exact HLB.out.hD z (0) (by omega) hks (by omega) y h hy
              · omega
        go_wp2_with fail
        refine (HIH.out (tAt ks (0)) (tAt_mem hks) (SS (0)) (A (0)) _ (.slice (some ⟨g', 0, none⟩) n' c') _ _ false HKID.out (HBR.out hks) HL2.out.na HCOND.out HBND.out).mono ?_
        rintro e w9 ⟨v9, V9, rfl, hI9⟩
        rw [HEQ.out] at hI9
        have HL9 : Hid (NI w w9 (.slice av nv cv) v9 V0 V9 ns (ns ++ ⟨ps, (ks.take (0 + 1)).tail.map T.least, places (ns.length + 1) (ks.take (0 + 1))⟩ :: layL (ns.length + 1) (ks.take (0 + 1))) (fun y => (Value.slice ap np cp).ownBlock = some y ∨ ∃ i, i < 0 + 1 ∧ SS i y)) := by
          refine (HL2.out.then (by simp) hI9).mono ?_
          rintro y ((h | ⟨i, hi, h⟩) | h)
          · exact .inl h
          · exact .inr ⟨i, by omega, h⟩
          · exact .inr ⟨0, by omega, h⟩
        have HK9 : Hid (KF w V9 ns.length) := by
          intro y hy
          rw [hI9.old ns.length (by simp)] at hy
          exact HK2.out y hy
        obtain ⟨a9, n9, c9, e9, -⟩ := HL9.out.na.shape
        subst e9
        obtain ⟨g9, e9, -⟩ := HL9.out.na.rowAt (by rw [List.length_append, List.length_cons]; omega)
        subst e9
        clear hI9 HL2 HK2 HCOND HKID z2 zf
        go_wp2
        go_roundw
        case rel => exact ⟨0 + 1, g9, n9, c9, V9, by omega, by go_num, rfl, HL9.out, HK9.out⟩
        case measure => simp [intOf]; omega

      | succ k' =>
        have hk1 : (0 : Int) < (k' : Int) + 1 := by omega
        have hk2 : (k' : Int) + 1 < (nk : Int) := by omega
        obtain ⟨-, m1, -, mf⟩ := HL.out.na.cells ns.length (by simp)
        have hrow := (HL.out.na.own ns.length (by simp)).1.2.1
        rw [nAt_append_at] at hrow
        simp only at hrow
        obtain ⟨akx, ckx, hkx⟩ := own_shape hrow
        have HNKX : Hid (((ks.take (k' + 1)).tail.map T.least).length = k') := by show _ = _; simp; omega
        rw [HNKX.out] at hkx hrow
        have HBKX := hid hkx
        rw [hkx] at m1 hrow
        rw [← HNV.out] at m1
        have mf1 := mf (nv * 3 + 1)
        have hnv : (nv : Int) < (n' : Int) := by have h1 := HLN.out; have h2 := HNV.out; omega
        have hnv0 : (0 : Int) ≤ (nv : Int) := by omega
        have hkk : k' ≤ 1048576 := by have := HK4.out; omega
        have HNE := hid (full_ne _ _ (HBR.out hks))
        have HLS : Hid (∀ (u : World), Below wr.heap.size wr u → Calls Try.prog 121 #[.pointer (some ⟨A (k' + 1), 0, none⟩)] u fun e w' => e = .returned (.string (tAt ks (k' + 1)).least) ∧ ∃ q, w' = u.drewN q) :=
          fun u hu => least_any (SS (k' + 1)) (A (k' + 1)) (tAt ks (k' + 1)) u (((HLB.out.hk (k' + 1) hks).to HL.out.only (fun x hx e => (HS.out x (HLB.out.hSS (k' + 1) hks x hx).1).2.1 e)).kept hu) HNE.out
        have HKEY : Hid ((ks.take (k' + 1 + 1)).tail.map T.least = (ks.take (k' + 1)).tail.map T.least ++ [(tAt ks (k' + 1)).least]) := keys_take ks k' hks
        generalize hz : (tAt ks (k' + 1)).least = z at *
        clear hz
        have HBW : Hid (∀ q1, Below wr.heap.size wr ((wr.drewN q1).alloc (.cells #[.string z] 9))) := fun q1 => Below.then' (below_dn wr q1) (below_new (Below.refl _ _)) (Nat.le_refl _)
        have HM : Hid (∀ q1, ((wr.drewN q1).alloc (.cells #[.string z] 9)).cell? ⟨g', nv * 3 + 1, none⟩ = some (.slice akx k' ckx) ∧ ((wr.drewN q1).alloc (.cells #[.string z] 9)).frozen? ⟨g', nv * 3 + 1, none⟩ = false ∧ ((wr.drewN q1).alloc (.cells #[.string z] 9)).ownsRow 0 9 1 (.slice akx k' ckx) k' (((ks.take (k' + 1)).tail.map T.least).map Value.string)) := by
          intro q1
          obtain ⟨-, h1, -, h2⟩ := (HL.out.na.kept (HBW.out q1)).cells ns.length (by simp)
          rw [HBKX.out, ← HNV.out] at h1
          exact ⟨h1, h2 _, own_kept hrow (only_of_below (HBW.out q1) (fun _ => False)) (fun _ _ h => h)⟩
        have HZC : Hid (∀ q1, ((wr.drewN q1).alloc (.cells #[.string z] 9)).cell? ⟨wr.heap.size, 0, none⟩ = some (.string z)) := fun q1 => (Bk.new (wr.drewN q1) 9 [.string z]).cell (j := 0) rfl
        have HNB : Hid ((Value.slice akx k' ckx).ownBlock ≠ some g') := fun e => HL.out.na.off ns.length (by simp) g' (.inr (.inl (by rw [HBKX.out]; exact e))) rfl
        have HFIN : Hid (∀ q1 (a5 : Option Addr) (n5 c5 : Nat) (w5 : World), w5.ownsRow 0 9 1 (.slice a5 n5 c5) (k' + 1) (((ks.take (k' + 1)).tail.map T.least).map Value.string ++ [.string z]) → ((wr.drewN q1).alloc (.cells #[.string z] 9)).grownBy w5 (Value.slice akx k' ckx).ownBlock →
            ((Value.slice a5 n5 c5).ownBlock = (Value.slice akx k' ckx).ownBlock ∨ (Value.slice a5 n5 c5).ownBlock = some ((wr.drewN q1).alloc (.cells #[.string z] 9)).heap.size) →
            ∃ VX, NI w (w5.setCell ⟨g', nv * 3 + 1, none⟩ (.slice a5 n5 c5)) (.slice av nv cv) (.slice (some ⟨g', 0, none⟩) n' c') V0 VX ns (ns ++ ⟨ps, (ks.take (k' + 1 + 1)).tail.map T.least, places (ns.length + 1) (ks.take (k' + 1))⟩ :: layL (ns.length + 1) (ks.take (k' + 1))) (fun y => (Value.slice ap np cp).ownBlock = some y ∨ ∃ i, i < k' + 1 ∧ SS i y) ∧ KF w VX ns.length) := by
          intro q1 a5 n5 c5 w5 hO5 hg5 ha5
          have h1 := (HL.out.keep (HBW.out q1)).addKey (s := z) (kx' := .slice a5 n5 c5) (by simp only; rw [HNKX.out]; exact hO5) (by rw [HBKX.out]; exact hg5) (by rw [HBKX.out]; exact ha5.imp id (fun e => ⟨_, e, Nat.le_refl _⟩)) (fun y hy => HKF.out y (.inl hy))
          have e3 : (⟨g', ns.length * 3 + 1, none⟩ : Addr) = ⟨g', nv * 3 + 1, none⟩ := by rw [HNV.out]
          rw [e3] at h1
          refine ⟨_, by rw [HKEY.out]; exact h1, ?_⟩
          intro y hy
          rw [vAt_set _ _ _ (by rw [HL.out.na.len]; simp)] at hy
          rcases hy with hy | hy
          · rcases ha5 with e | e
            · exact HKF.out y (.inl (by rw [HBKX.out, ← e]; exact hy))
            · rw [e] at hy; cases hy
              have h3 := HL.out.only.size
              have h4 := (HBW.out q1).size
              omega
          · exact HKF.out y (.inr hy)
        have cq0 := cq
        clear hrow hkx mf HNKX HKF HNE
        go_wp2_with fail
        go_cut [1] (fun x v2 => x = .slice (some ⟨g', 0, none⟩) n' c' ∧ Hid (∃ VX, NI w v2 (.slice av nv cv) (.slice (some ⟨g', 0, none⟩) n' c') V0 VX ns (ns ++ ⟨ps, (ks.take (k' + 1 + 1)).tail.map T.least, places (ns.length + 1) (ks.take (k' + 1))⟩ :: layL (ns.length + 1) (ks.take (k' + 1))) (fun y => (Value.slice ap np cp).ownBlock = some y ∨ ∃ i, i < k' + 1 ∧ SS i y) ∧ KF w VX ns.length))
        case first =>
          go_region_law (first
            | (go_simp; go_at_call 121; refine (HLS.out _ (below_drew _)).mono ?_; rintro e w4 ⟨rfl, q1, rfl⟩; have f1 := (HM.out (1 + q1)).1)
            | (refine step_append_str1 rfl _ _ rfl _ k' _ rfl (HM.out _).2.2 wr.heap.size z rfl (HZC.out _) hkk g' (nv * 3 + 1) _ (HM.out _).1 (HM.out _).2.1 HNB.out ?_; intro a5 n5 c5 w5 hO5 hg5 ha5 hc5 hf5))
          all_goals (go_wp2_with fail; go_meet)
          all_goals exact ⟨rfl, HFIN.out _ _ _ _ _ hO5 hg5 ha5⟩
        case rest =>
          obtain ⟨rfl, HV⟩ := hcut
          obtain ⟨VX, hlx, hkx⟩ := HV.out
          have HLX := hid hlx
          have HKX := hid hkx
          clear HV hlx hkx HL HM HZC HNB HFIN HLS HBW HKEY m1 mf1 cq cq0 HBKX

          have HL2X := HLX
          obtain ⟨-, -, m2, mf⟩ := HLX.out.na.cells ns.length (by simp)
          have hrow := (HLX.out.na.own ns.length (by simp)).1.2.2
          rw [nAt_append_at] at hrow
          simp only at hrow
          obtain ⟨aki, cki, hki⟩ := own_shape hrow
          have HNKI : Hid ((places (ns.length + 1) (ks.take (k' + 1))).length = (k' + 1)) := by show _ = _; rw [places_length, List.length_take]; omega
          rw [HNKI.out] at hki hrow
          have HBLK := hid hki
          rw [hki] at m2 hrow
          rw [← HNV.out] at m2
          have mf2 := mf (nv * 3 + 2)
          have HLu := hid (HLX.out.keep (below_new (o := .cells #[.int .i64 (n' : Int)] 3) (Below.refl _ _)))
          have HRI : Hid (World.ownsRow (wc.alloc (.cells #[.int .i64 (n' : Int)] 3)) 0 3 1 (.slice aki ((k' + 1)) cki) ((k' + 1)) ((places (ns.length + 1) (ks.take (k' + 1))).map (Value.int .i64))) := own_kept hrow (only_of_below (below_new (Below.refl _ _)) (fun _ => False)) (fun _ _ h => h)
          have hnv : (nv : Int) < (n' : Int) := by have h1 := HLN.out; have h2 := HNV.out; omega
          have hnv0 : (0 : Int) ≤ (nv : Int) := by omega
          have m2a : (wc.alloc (.cells #[.int .i64 (n' : Int)] 3)).cell? ⟨g', nv * 3 + 2, none⟩ = some (.slice aki ((k' + 1)) cki) := by
            have := (HLu.out.na.cells ns.length (by simp)).2.2.1
            rw [HBLK.out, ← HNV.out] at this
            exact this
          have hkk : (k' + 1) ≤ 1048576 := by have := HK4.out; omega
          clear hrow mf hki
          go_wp2_with (at_builtin; refine wpList_append_int1 rfl _ _ rfl _ ((k' + 1)) _ rfl HRI.out wc.heap.size (n' : Int) rfl (Bk.new wc 3 [.int .i64 (n' : Int)]) hkk ?_)
          intro ai2 ni2 ci2 w2 hO2 hg2 ha2
          have HL2 : Hid (NI w (w2.setCell ⟨g', nv * 3 + 2, none⟩ (.slice ai2 ni2 ci2)) (.slice av nv cv) (.slice (some ⟨g', 0, none⟩) n' c') V0 (VX.set ns.length ((vAt VX ns.length).1, (vAt VX ns.length).2.1, .slice ai2 ni2 ci2)) ns (ns ++ ⟨ps, (ks.take ((k' + 1) + 1)).tail.map T.least, places (ns.length + 1) (ks.take ((k' + 1) + 1))⟩ :: layL (ns.length + 1) (ks.take (k' + 1))) (fun y => (Value.slice ap np cp).ownBlock = some y ∨ ∃ i, i < (k' + 1) ∧ SS i y)) := by
            have h2 : places (ns.length + 1) (ks.take ((k' + 1) + 1)) = places (ns.length + 1) (ks.take (k' + 1)) ++ [(n' : Int)] := by rw [places_take ks _ _ hks, HLN.out]
            have h1 := HLu.out.addKid (s := (n' : Int)) (kx' := .slice ai2 ni2 ci2) (by simp only; rw [HNKI.out]; exact hO2) (by rw [HBLK.out]; exact hg2) (by rw [HBLK.out]; exact ha2.imp id (fun e => ⟨_, e, by simp⟩)) (fun y hy => HKX.out y (.inr hy))
            show NI _ _ _ _ _ _ _ _ _
            have e3 : (⟨g', ns.length * 3 + 2, none⟩ : Addr) = ⟨g', nv * 3 + 2, none⟩ := by rw [HNV.out]
            rw [e3] at h1
            rw [h2]
            exact h1
          have HK2 : Hid (KF w (VX.set ns.length ((vAt VX ns.length).1, (vAt VX ns.length).2.1, .slice ai2 ni2 ci2)) ns.length) := by
            intro y hy
            rw [vAt_set _ _ _ (by rw [HLX.out.na.len]; simp)] at hy
            rcases hy with hy | hy
            · exact HKX.out y (.inl hy)
            · rcases ha2 with e | e
              · exact HKX.out y (.inr (by rw [HBLK.out, ← e]; exact hy))
              · rw [e] at hy; cases hy
                have := HLX.out.only.size
                simp; omega
          have hz2 := World.cell?_of_block (w := wc.alloc (.cells #[.int .i64 (n' : Int)] 3)) (w' := w2) (a := ⟨g', nv * 3 + 2, none⟩) (hg2.block g' (block_lt m2a) (fun e => HLu.out.na.off ns.length (by simp) g' (.inr (.inr (by rw [HBLK.out]; exact e.symm))) rfl))
          have z2 := hz2.trans m2a
          have zf : w2.frozen? ⟨g', nv * 3 + 2, none⟩ = false := (World.frozen?_of_block (w := wc.alloc (.cells #[.int .i64 (n' : Int)] 3)) (w' := w2) (a := ⟨g', nv * 3 + 2, none⟩) (hg2.block g' (block_lt m2a) (fun e => HLu.out.na.off ns.length (by simp) g' (.inr (.inr (by rw [HBLK.out]; exact e.symm))) rfl))).trans ((HLu.out.na.cells ns.length (by simp)).2.2.2 _)
          clear hO2 hg2 ha2 HRI HLu hz2 m2a m2 mf2 HL2X
          have HLEN : Hid ((ns ++ ⟨ps, (ks.take ((k' + 1) + 1)).tail.map T.least, places (ns.length + 1) (ks.take ((k' + 1) + 1))⟩ :: layL (ns.length + 1) (ks.take (k' + 1))).length = ns.length + 1 + szL (ks.take (k' + 1))) := by show _ = _; simp [layL_length]; omega
          have HEQ : Hid ((ns ++ ⟨ps, (ks.take ((k' + 1) + 1)).tail.map T.least, places (ns.length + 1) (ks.take ((k' + 1) + 1))⟩ :: layL (ns.length + 1) (ks.take (k' + 1))) ++ lay (ns ++ ⟨ps, (ks.take ((k' + 1) + 1)).tail.map T.least, places (ns.length + 1) (ks.take ((k' + 1) + 1))⟩ :: layL (ns.length + 1) (ks.take (k' + 1))).length (tAt ks ((k' + 1))) = ns ++ ⟨ps, (ks.take ((k' + 1) + 1)).tail.map T.least, places (ns.length + 1) (ks.take ((k' + 1) + 1))⟩ :: layL (ns.length + 1) (ks.take ((k' + 1) + 1))) := by
            show _ = _
            rw [HLEN.out, layL_take ks ((k' + 1)) (ns.length + 1) hks]
            simp
          have HBND : Hid ((ns ++ ⟨ps, (ks.take ((k' + 1) + 1)).tail.map T.least, places (ns.length + 1) (ks.take ((k' + 1) + 1))⟩ :: layL (ns.length + 1) (ks.take (k' + 1))).length + (tAt ks ((k' + 1))).size ≤ 1048576) := by
            show _ ≤ _
            have h1 := szL_take_le ks ((k' + 1) + 1)
            rw [szL_take ks ((k' + 1)) hks] at h1
            have h2 := HSZK.out
            rw [HLEN.out]
            omega
          have HKID : Hid (Limb (w2.setCell ⟨g', nv * 3 + 2, none⟩ (.slice ai2 ni2 ci2)) (SS ((k' + 1))) (A ((k' + 1))) (tAt ks ((k' + 1)))) := (HLB.out.hk ((k' + 1)) hks).to HL2.out.only (fun x hx e => (HS.out x (HLB.out.hSS ((k' + 1)) hks x hx).1).2.1 e)
          have HCOND : Hid (∀ y, SS ((k' + 1)) y → y < (w2.setCell ⟨g', nv * 3 + 2, none⟩ (.slice ai2 ni2 ci2)).heap.size ∧ (Value.slice (some ⟨g', 0, none⟩) n' c').ownBlock ≠ some y ∧ ∀ i, i < (ns ++ ⟨ps, (ks.take ((k' + 1) + 1)).tail.map T.least, places (ns.length + 1) (ks.take ((k' + 1) + 1))⟩ :: layL (ns.length + 1) (ks.take (k' + 1))).length → ¬ bl (vAt (VX.set ns.length ((vAt VX ns.length).1, (vAt VX ns.length).2.1, .slice ai2 ni2 ci2)) i) y) := by
            intro y hy
            have hs := HLB.out.hSS ((k' + 1)) hks y hy
            have hS1 := HS.out y hs.1
            have hsz := HL2.out.only.size
            refine ⟨by omega, fun e => ?_, fun i hi hb => ?_⟩
            · rcases HL2.out.vb y e with h | h
              · exact hS1.2.1 h
              · omega
            · by_cases hin : i < ns.length
              · rw [HL2.out.old i hin] at hb
                exact hS1.2.2 i hin hb
              · rcases HL2.out.new i (by omega) hi y hb with (h | ⟨z, hz, h⟩) | h
                · exact hs.2.2.1 h
                · exact HLB.out.hD z ((k' + 1)) (by omega) hks (by omega) y h hy
                · omega
          go_wp2_with fail
          refine (HIH.out (tAt ks ((k' + 1))) (tAt_mem hks) (SS ((k' + 1))) (A ((k' + 1))) _ (.slice (some ⟨g', 0, none⟩) n' c') _ _ false HKID.out (HBR.out hks) HL2.out.na HCOND.out HBND.out).mono ?_
          rintro e w9 ⟨v9, V9, rfl, hI9⟩
          rw [HEQ.out] at hI9
          have HL9 : Hid (NI w w9 (.slice av nv cv) v9 V0 V9 ns (ns ++ ⟨ps, (ks.take ((k' + 1) + 1)).tail.map T.least, places (ns.length + 1) (ks.take ((k' + 1) + 1))⟩ :: layL (ns.length + 1) (ks.take ((k' + 1) + 1))) (fun y => (Value.slice ap np cp).ownBlock = some y ∨ ∃ i, i < (k' + 1) + 1 ∧ SS i y)) := by
            refine (HL2.out.then (by simp) hI9).mono ?_
            rintro y ((h | ⟨i, hi, h⟩) | h)
            · exact .inl h
            · exact .inr ⟨i, by omega, h⟩
            · exact .inr ⟨(k' + 1), by omega, h⟩
          have HK9 : Hid (KF w V9 ns.length) := by
            intro y hy
            rw [hI9.old ns.length (by simp)] at hy
            exact HK2.out y hy
          obtain ⟨a9, n9, c9, e9, -⟩ := HL9.out.na.shape
          subst e9
          obtain ⟨g9, e9, -⟩ := HL9.out.na.rowAt (by rw [List.length_append, List.length_cons]; omega)
          subst e9
          clear hI9 HL2 HK2 HCOND HKID z2 zf
          go_wp2
          go_roundw
          case rel => exact ⟨(k' + 1) + 1, g9, n9, c9, V9, by omega, by go_num, rfl, HL9.out, HK9.out⟩
          case measure => simp [intOf]; omega

    · have hk' : k = nk := by omega
      have HTK : Hid (ks.take k = ks) := by show _ = _; rw [hk', ← HNK.out, List.take_length]
      rw [HTK.out] at HL
      have hnlt : ¬ (k : Int) < (nk : Int) := by omega
      have HLY : Hid (ns ++ lay ns.length (T.mk ps ks) = ns ++ ⟨ps, ks.tail.map T.least, places (ns.length + 1) ks⟩ :: layL (ns.length + 1) ks) := by
        show _ = _
        by_cases hk : ks = []
        · subst hk; simp [lay, layL, places]
        · obtain ⟨_, _, hp, _⟩ := full_br HFU.out hk; simp [lay, hk, hp]
      have HFIN : Hid (NI w wr (.slice av nv cv) (.slice (some ⟨g', 0, none⟩) n' c') V0 V ns (ns ++ lay ns.length (T.mk ps ks)) S) := by
        show NI _ _ _ _ _ _ _ _ _
        rw [HLY.out]
        refine HL.out.mono ?_
        rintro y (h | ⟨i, hi, h⟩)
        · exact (HLB.out.hPS y h).1
        · exact (HLB.out.hSS i (by rw [HNK.out]; omega) y h).1
      clear HL HTK hk' HLY
      go_wp2
      go_ret
      exact ⟨_, V, rfl, HFIN.out⟩
end Go.Proofs.Ytkflneeifllpgaa
/-
  rootPut: the root behind the put.
-/
namespace Go.Proofs.Ytkflneeifllpgaa
open Go.RowKit
def OnePost (w : World) (S : Nat → Prop) (t : T) (e : Ending) (w' : World) : Prop := ∃ b, e = .returned (.pointer (some ⟨b, 0, none⟩)) ∧ OneL w w' b t S
theorem root_new {w X : World} {S S1 S2 : Nat → Prop} {b b2 : Nat} {t1 t2 : T} (h1 : Limb X S1 b t1) (h2 : Limb X S2 b2 t2) (hd : ∀ x, S1 x → ¬ S2 x) (hS : ∀ x, S1 x ∨ S2 x → (S x ∨ w.heap.size ≤ x) ∧ x < X.heap.size) (hon : Only S w X) :
    OneL w ((X.alloc (.cells #[.pointer (some ⟨b, 0, none⟩), .pointer (some ⟨b2, 0, none⟩)] 66)).alloc (.cells #[.slice none 0 0, .slice (some ⟨X.heap.size, 0, none⟩) 2 2] 112)) (X.heap.size + 1) (.mk [] [t1, t2]) S := by
  have hbn : Below X.heap.size X ((X.alloc (.cells #[.pointer (some ⟨b, 0, none⟩), .pointer (some ⟨b2, 0, none⟩)] 66)).alloc (.cells #[.slice none 0 0, .slice (some ⟨X.heap.size, 0, none⟩) 2 2] 112)) := below_new (below_new (Below.refl _ _))
  have k1 : Bk ((X.alloc (.cells #[.pointer (some ⟨b, 0, none⟩), .pointer (some ⟨b2, 0, none⟩)] 66)).alloc (.cells #[.slice none 0 0, .slice (some ⟨X.heap.size, 0, none⟩) 2 2] 112)) X.heap.size 66 [.pointer (some ⟨b, 0, none⟩), .pointer (some ⟨b2, 0, none⟩)] := (Bk.new X 66 [.pointer (some ⟨b, 0, none⟩), .pointer (some ⟨b2, 0, none⟩)]).alloc _
  have k2 : Bk ((X.alloc (.cells #[.pointer (some ⟨b, 0, none⟩), .pointer (some ⟨b2, 0, none⟩)] 66)).alloc (.cells #[.slice none 0 0, .slice (some ⟨X.heap.size, 0, none⟩) 2 2] 112)) (X.heap.size + 1) 112 [.slice none 0 0, .slice (some ⟨X.heap.size, 0, none⟩) 2 2] := by
    have := Bk.new (X.alloc (.cells #[.pointer (some ⟨b, 0, none⟩), .pointer (some ⟨b2, 0, none⟩)] 66)) 112 [.slice none 0 0, .slice (some ⟨X.heap.size, 0, none⟩) 2 2]
    simpa using this
  have hsz : ((X.alloc (.cells #[.pointer (some ⟨b, 0, none⟩), .pointer (some ⟨b2, 0, none⟩)] 66)).alloc (.cells #[.slice none 0 0, .slice (some ⟨X.heap.size, 0, none⟩) 2 2] 112)).heap.size = X.heap.size + 2 := by simp
  have hs := hon.size
  refine ⟨fun x => (S1 x ∨ S2 x) ∨ x = X.heap.size ∨ x = X.heap.size + 1, .mk _ _ (.slice none 0 0) (.slice (some ⟨X.heap.size, 0, none⟩) 2 2) [] [t1, t2] (fun i => if i = 0 then b else b2) (fun i => if i = 0 then S1 else S2) (.inr (.inr rfl)) k2 (World.ownsRow_nil _ _ _ _) ⟨by simp [ptrs], .inr ⟨X.heap.size, 2, #[.pointer (some ⟨b, 0, none⟩), .pointer (some ⟨b2, 0, none⟩)], rfl, Nat.zero_le _, k1, Nat.le_refl _, by unfold maxLen; omega, rfl, rfl⟩⟩ (fun x hx => by cases hx) (fun x hx => ?_) (fun i hi x hx => ?_) (fun i j hi hj hij x hx hy => ?_) (fun i hi => ?_), fun x hx => ?_, hon.trans (only_of_below hbn _)⟩
  · cases hx
    exact ⟨.inr (.inl rfl), (show X.heap.size ≠ X.heap.size + 1 by omega), by simp [Value.ownBlock]⟩
  · have hx' : S1 x ∨ S2 x := by
      by_cases e : i = 0
      · simp only [e, if_true] at hx; exact .inl hx
      · simp only [e, if_false] at hx; exact .inr hx
    have := (hS x hx').2
    exact ⟨.inl hx', by omega, by simp [Value.ownBlock], by simp [Value.ownBlock]; omega⟩
  · simp at hi hj
    by_cases e : i = 0
    · have e' : j ≠ 0 := by omega
      simp only [e, if_true] at hx
      simp only [e', if_false] at hy
      exact hd x hx hy
    · have e' : j = 0 := by omega
      simp only [e, if_false] at hx
      simp only [e', if_true] at hy
      exact hd x hy hx
  · simp at hi
    by_cases e : i = 0
    · subst e; exact h1.kept hbn
    · obtain rfl : i = 1 := by omega
      exact h2.kept hbn
  · rw [hsz]
    rcases hx with h | h | h
    · exact ⟨(hS x h).1, by have := (hS x h).2; omega⟩
    · exact ⟨.inr (by omega), by omega⟩
    · exact ⟨.inr (by omega), by omega⟩
set_option maxHeartbeats 1000000 in
theorem rootPut_any (f : Nat) (S : Nat → Prop) (b : Nat) (t : T) (k v : ByteArray) (w : World) (hL : Limb w S b t) (hS : ∀ x, S x → x < w.heap.size) (g : PutIn f true t) :
    Calls Try.prog 35 #[.pointer (some ⟨b, 0, none⟩), .agg #[.string k, .string v]] w fun e w' => OnePost w S (rootT (putF f t (k, v))) e w' := by
  have hb := below_new (o := .cells #[.string k, .string v] 35) (w := w) (Below.refl _ _)
  have HB0 := hid hb
  have KP := hid (Bk.new w 35 [.string k, .string v])
  have p0 := KP.out.cell (j := 0) rfl
  have p1 := KP.out.cell (j := 1) rfl
  have HPT := hid (put_any f true S b t k v _ (hL.kept hb) (fun x hx => Nat.lt_of_lt_of_le (hS x hx) hb.size) g)
  have HOUT := hid (putF_out f true t (k, v) g)
  clear hb hL hS g
  go_enter Try.func35, Try.ntmps35
  go_wp2_with fail
  refine HPT.out.mono ?_
  rintro e w1 ⟨b2, rfl, S1, S2, k1, k2, k3, k4, k5⟩
  have HBA := hid (fun (w' : World) h1 => isBare_any S2 b2 (putF f t (k, v)).2 w' h1 (Nat.le_trans (small_out HOUT.out) (by omega)))
  have H1 := hid k1
  have H2 := hid k2
  have H3 := hid k3
  have H4 : Hid (∀ x, S1 x ∨ S2 x → (S x ∨ w.heap.size ≤ x) ∧ x < w1.heap.size) := fun x hx => ⟨(k4 x hx).1.imp id (fun h => Nat.le_trans HB0.out.size h), (k4 x hx).2⟩
  have H5 := hid ((only_of_below HB0.out S).trans k5)
  clear k1 k2 k3 k4 k5 HPT
  generalize hrr : putF f t (k, v) = rr at *
  have HRR := hid hrr
  clear hrr
  go_wp2_with fail
  refine (HBA.out _ H2.out).mono ?_
  rintro e w9 ⟨rfl, n2, rfl⟩
  have J1 := hid (H1.out.kept (below_dn w1 n2))
  have J2 := hid (H2.out.kept (below_dn w1 n2))
  have J4 : Hid (∀ x, S1 x ∨ S2 x → (S x ∨ w.heap.size ≤ x) ∧ x < (w1.drewN n2).heap.size) := H4.out
  have J5 := hid (H5.out.trans (only_of_below (below_dn w1 n2) S))
  generalize w1.drewN n2 = X at *
  clear H1 H2 H4 H5 HBA
  cases hbr : rr.2.bare with
  | true =>
    have HR : Hid (rootT rr = rr.1) := by show _ = _; rw [rootT, if_pos hbr]
    clear hbr
    go_wp2
    go_ret
    refine ⟨b, rfl, ?_⟩
    rw [HRR.out, HR.out]
    exact ⟨S1, J1.out, fun x hx => J4.out x (.inl hx), J5.out⟩
  | false =>
    have HR : Hid (rootT rr = .mk [] [rr.1, rr.2]) := by show _ = _; rw [rootT, if_neg (by rw [hbr]; simp)]
    have HN := hid (root_new J1.out J2.out H3.out J4.out J5.out)
    clear hbr
    go_wp2
    go_ret
    refine ⟨_, rfl, ?_⟩
    rw [HRR.out, HR.out]
    exact HN.out
end Go.Proofs.Ytkflneeifllpgaa
/-
  readBranch, given read.
-/
namespace Go.Proofs.Ytkflneeifllpgaa
open Go.RowKit
/-- How far readBranch has come: the kids ts have been read. -/
structure BrI (w wr : World) (wb : Nat) (nv q0 q1 q2 : Value) (ts : List T) (nx : Nat) (kv : Value) (A : Nat → Nat) (SS : Nat → Nat → Prop) : Prop where
  wlt : wb < w.heap.size
  walk : Bk wr wb 114 [nv, .int .i64 nx]
  par : Bk wr w.heap.size 106 [q0, q1, q2]
  only : Only (fun b => b = wb) w wr
  br : Bk wr (w.heap.size + 1) 112 [.slice none 0 0, kv]
  row : Ok wr (w.heap.size + 2) kv ts.length A
  sub : ∀ i, i < ts.length → ∀ x, SS i x → w.heap.size + 2 ≤ x ∧ x < wr.heap.size ∧ kv.ownBlock ≠ some x
  dis : ∀ i j, i < ts.length → j < ts.length → i ≠ j → ∀ x, SS i x → ¬ SS j x
  kid : ∀ i, i < ts.length → Limb wr (SS i) (A i) (tAt ts i)
  rdy : ∀ i, i < ts.length → Rdy (tAt ts i)
theorem BrI.read {w wr w1 : World} {wb : Nat} {nv q0 q1 q2 : Value} {ts : List T} {nx n1 : Nat} {kv : Value} {A : Nat → Nat} {SS : Nat → Nat → Prop} (h : BrI w wr wb nv q0 q1 q2 ts nx kv A SS)
    (ho : Only (fun b => b = wb) wr w1) (hb : Bk w1 wb 114 [nv, .int .i64 n1]) : BrI w w1 wb nv q0 q1 q2 ts n1 kv A SS := by
  have hw := h.wlt
  refine ⟨h.wlt, hb, h.par.to ho (by omega), h.only.trans ho, h.br.to ho (by omega), h.row.to ho (fun k e => ?_), fun i hi x hx => ?_, h.dis, fun i hi => (h.kid i hi).to ho (fun x hx => ?_), h.rdy⟩
  · have := (World.ownsRow.lt h.row k e).1; omega
  · have := h.sub i hi x hx; have := ho.size; exact ⟨by omega, by omega, (h.sub i hi x hx).2.2⟩
  · have := h.sub i hi x hx; omega
theorem BrI.keep {w wr w1 : World} {wb : Nat} {nv q0 q1 q2 : Value} {ts : List T} {nx : Nat} {kv : Value} {A : Nat → Nat} {SS : Nat → Nat → Prop} (h : BrI w wr wb nv q0 q1 q2 ts nx kv A SS)
    (hb : Below wr.heap.size wr w1) : BrI w w1 wb nv q0 q1 q2 ts nx kv A SS := h.read (only_of_below hb _) (h.walk.below hb)
theorem BrI.push {w u w2 : World} {wb : Nat} {nv q0 q1 q2 : Value} {ts : List T} {nx : Nat} {kv v' : Value} {A : Nat → Nat} {SS : Nat → Nat → Prop} (h : BrI w u wb nv q0 q1 q2 ts nx kv A SS)
    {P : Nat → Prop} {b : Nat} {t : T} (hl : Limb u P b t) (hP : ∀ x, P x → w.heap.size + 2 ≤ x ∧ x < u.heap.size ∧ kv.ownBlock ≠ some x ∧ ∀ i, i < ts.length → ¬ SS i x) (ht : Rdy t)
    (ho : Ok w2 (w.heap.size + 2) v' (ts.length + 1) (fun i => if i = ts.length then b else A i)) (hg : u.grownBy w2 kv.ownBlock) (ha : v'.ownBlock = kv.ownBlock ∨ v'.ownBlock = some u.heap.size) :
    BrI w (w2.setCell ⟨w.heap.size + 1, 1, none⟩ v') wb nv q0 q1 q2 (ts ++ [t]) nx v' (fun i => if i = ts.length then b else A i) (fun i => if i = ts.length then P else SS i) := by
  have hw := h.wlt
  have hkv := fun k e => (World.ownsRow.lt h.row k e).1
  have hsz : u.heap.size ≤ w2.heap.size := hg.size
  have hbr := h.br.lt
  have hav : ∀ x, v'.ownBlock = some x → w.heap.size + 2 ≤ x := fun x e => (World.ownsRow.lt ho x e).1
  have o1 : Only (fun b => some b = kv.ownBlock) u w2 := only_of_grown hg (fun k e => e.symm)
  have o2 : Only (fun b => b = w.heap.size + 1) w2 (w2.setCell ⟨w.heap.size + 1, 1, none⟩ v') := only_set (R := fun b => b = w.heap.size + 1) rfl _
  have o3 : Only (fun b => some b = kv.ownBlock ∨ b = w.heap.size + 1) u (w2.setCell ⟨w.heap.size + 1, 1, none⟩ v') := (o1.mono (fun _ _ e => .inl e)).then o2 (fun _ _ e => .inr e)
  refine ⟨h.wlt, h.walk.to o3 ?_, h.par.to o3 ?_, ?_, ?_, ?_, ?_, ?_, ?_, ?_⟩
  · rintro (e | e)
    · have := hkv wb e.symm; omega
    · omega
  · rintro (e | e)
    · have := hkv w.heap.size e.symm; omega
    · omega
  · refine h.only.then o3 (fun i hi e => ?_)
    rcases e with e | e
    · have := hkv i e.symm; omega
    · omega
  · have k1 := h.br.to o1 (fun e => by have := hkv _ e.symm; omega)
    exact k1.set 1 v'
  · rw [List.length_append]
    exact ho.to o2 (fun k e => by have := hav k e; omega)
  · intro i hi x hx
    have hz : (w2.setCell ⟨w.heap.size + 1, 1, none⟩ v').heap.size = w2.heap.size := by simp [World.setCell]
    rw [hz]
    by_cases e : i = ts.length
    · subst e
      simp only [if_true] at hx
      obtain ⟨p1, p2, p3, p4⟩ := hP x hx
      refine ⟨p1, by omega, ?_⟩
      rcases ha with ha | ha
      · rw [ha]; exact p3
      · rw [ha]; intro e; cases e; omega
    · simp only [e, if_false] at hx
      simp at hi
      obtain ⟨p1, p2, p3⟩ := h.sub i (by omega) x hx
      refine ⟨p1, by omega, ?_⟩
      rcases ha with ha | ha
      · rw [ha]; exact p3
      · rw [ha]; intro e; cases e; omega
  · intro i j hi hj hij x hx hy
    simp at hi hj
    by_cases e : i = ts.length
    · subst e
      simp only [if_true] at hx
      rw [if_neg (by omega)] at hy
      exact (hP x hx).2.2.2 j (by omega) hy
    · rw [if_neg e] at hx
      by_cases e' : j = ts.length
      · subst e'
        simp only [if_true] at hy
        exact (hP x hy).2.2.2 i (by omega) hx
      · rw [if_neg e'] at hy
        exact h.dis i j (by omega) (by omega) hij x hx hy
  · intro i hi
    rw [tAt_snoc _ _ _ hi]
    by_cases e : i = ts.length
    · subst e
      simp only [if_true]
      exact hl.to o3 (fun x hx => by
        rintro (e | e)
        · exact (hP x hx).2.2.1 e.symm
        · have := (hP x hx).1; omega)
    · simp only [e, if_false]
      simp at hi
      exact (h.kid i (by omega)).to o3 (fun x hx => by
        have := h.sub i (by omega) x hx
        rintro (e | e)
        · exact this.2.2 e.symm
        · omega)
  · intro i hi
    rw [tAt_snoc _ _ _ hi]
    by_cases e : i = ts.length
    · rw [if_pos e]; exact ht
    · rw [if_neg e]; simp at hi; exact h.rdy i (by omega)
theorem BrI.limb {w wr : World} {wb : Nat} {nv q0 q1 q2 : Value} {ts : List T} {nx : Nat} {kv : Value} {A : Nat → Nat} {SS : Nat → Nat → Prop} (h : BrI w wr wb nv q0 q1 q2 ts nx kv A SS) :
    Limb wr (fun y => w.heap.size ≤ y ∧ y < wr.heap.size) (w.heap.size + 1) (.mk [] ts) := by
  have hbr := h.br.lt
  refine .mk _ _ (.slice none 0 0) kv [] ts A SS ⟨by omega, hbr⟩ h.br (World.ownsRow_nil _ _ _ _) (own_mono h.row (Nat.zero_le _)) (fun x hx => by cases hx) (fun x hx => ?_) (fun i hi x hx => ?_) h.dis h.kid
  · have := World.ownsRow.lt h.row x hx
    exact ⟨⟨by omega, this.2⟩, by omega, by simp [Value.ownBlock]⟩
  · have := h.sub i hi x hx
    exact ⟨⟨by omega, this.2.1⟩, by omega, by simp [Value.ownBlock], this.2.2⟩
theorem BrI.first {w : World} {wb : Nat} {nv q0 q1 q2 : Value} {nx : Nat} (hw : Bk w wb 114 [nv, .int .i64 nx]) :
    BrI w ((w.alloc (.cells #[q0, q1, q2] 106)).alloc (.cells #[.slice none 0 0, .slice none 0 0] 112)) wb nv q0 q1 q2 [] nx (.slice none 0 0) (fun _ => 0) (fun _ _ => False) := by
  refine ⟨hw.lt, (hw.alloc _).alloc _, (Bk.new w 106 [q0, q1, q2]).alloc _, only_of_below (below_new (below_new (Below.refl _ _))) _, ?_, World.ownsRow_nil _ _ _ _, fun i hi => by simp at hi, fun i j hi => by simp at hi, fun i hi => by simp at hi, fun i hi => by simp at hi⟩
  have := Bk.new (w.alloc (.cells #[q0, q1, q2] 106)) 112 [.slice none 0 0, .slice none 0 0]
  simpa using this
set_option maxHeartbeats 8000000 in
theorem readBranch_any (ns : List NB) (f : Nat) (ih : ReadC ns f) (S : Nat → Prop) (wb : Nat) (an : Option Addr) (nn cn : Nat) (ap ax ai : Option Addr) (np cp nk cx ni ci : Nat) (x : NB) (nx : Nat) (w : World)
    (hW : Bk w wb 114 [.slice an nn cn, .int .i64 nx]) (hN : Nr w S (.slice an nn cn) ns) (hwb : ¬ S wb) (hlen : ns.length < 400) (hnx : nx ≤ ns.length) (hf : ns.length ≤ nx + f)
    (hP : Pr w S (.slice ap np cp) x.ps) (hS : Sr w S (.slice ax nk cx) x.keys) (hI : Ir w S (.slice ai ni ci) x.kids) :
    Calls Try.prog 117 #[.pointer (some ⟨wb, 0, none⟩), .agg #[.slice ap np cp, .slice ax nk cx, .slice ai ni ci]] w fun e w' => ReadPost (brT ns f x nx) w wb (.slice an nn cn) e w' ∧ Only (fun b => b = wb) w w' := by
  have HIH := hid ih
  have HW := hid hW
  have HN := hid hN
  have HWB := hid hwb
  have HLEN := hid hlen
  have HNX := hid hnx
  have HF := hid hf
  have HS := hid hS
  have HI := hid hI
  have lp := hid (Rw.len hP).1
  have lk := hid (Rw.len hS).1
  have li := hid (Rw.len hI).1
  have b1 := (Rw.len hP).2.1
  have b2 := (Rw.len hP).2.2
  have b3 := (Rw.len hS).2.1
  have b4 := (Rw.len hS).2.2
  have b5 := (Rw.len hI).2.1
  have b6 := (Rw.len hI).2.2
  clear ih hW hN hwb hlen hnx hf hP hS hI
  have HB0 := hid (below_new (o := .cells #[.slice ap np cp, .slice ax nk cx, .slice ai ni ci] 106) (w := w) (Below.refl _ _))
  have KP := hid (Bk.new w 106 [.slice ap np cp, .slice ax nk cx, .slice ai ni ci])
  have LB : Hid (brOk x = !(decide (ni < 2) || decide (4 < ni) || !decide ((nk : Int) = (ni : Int) - 1) || !decide (np = 0))) := by
    show _ = _
    rw [lp.out, lk.out, li.out]; rfl
  by_cases a1 : ni < 2
  · have HR : Hid (brT ns f x nx = none) := by show _ = _; rw [brT, if_neg]; rw [LB.out]; simp [a1]
    have e1 : (ni : Int) < 2 := by omega
    clear LB a1
    go_enter Try.func117, Try.ntmps117
    go_wp2
    go_ret
    exact ⟨by rw [HR.out]; rfl, only_of_below HB0.out _⟩
  · have e1 : ¬ (ni : Int) < 2 := by omega
    by_cases a2 : 4 < ni
    · have HR : Hid (brT ns f x nx = none) := by show _ = _; rw [brT, if_neg]; rw [LB.out]; simp [a2]
      have e2 : (4 : Int) < (ni : Int) := by omega
      clear LB a1 a2
      go_enter Try.func117, Try.ntmps117
      go_wp2
      go_ret
      exact ⟨by rw [HR.out]; rfl, only_of_below HB0.out _⟩
    · have e2 : ¬ (4 : Int) < (ni : Int) := by omega
      by_cases a3 : (nk : Int) = (ni : Int) - 1
      · have e3 : ((nk : Int) != (ni : Int) - 1) = false := by simp [a3]
        by_cases a4 : np = 0
        · have e4 : ((np : Int) != 0) = false := by simp [a4]
          have HOK : Hid (brOk x = true) := by show _ = _; rw [LB.out]; simp [a1, a2, a3, a4]
          have HNK := hid a3
          have HIN : Hid (ni ≤ 4) := by show _ ≤ _; omega
          clear LB a3 a4
          go_enter Try.func117, Try.ntmps117
          have HI0 := hid (BrI.first (q0 := .slice ap np cp) (q1 := .slice ax nk cx) (q2 := .slice ai ni ci) HW.out)
          go_wp2_with fail
          go_loopw [38] (fun i wr => ∃ (ts : List T) (nx' : Nat) (kv : Value) (A : Nat → Nat) (SS : Nat → Nat → Prop), i = .int .i64 (ts.length : Int) ∧ Hid (ts.length ≤ ni) ∧ Hid (BrI w wr wb (.slice an nn cn) (.slice ap np cp) (.slice ax nk cx) (.slice ai ni ci) ts nx' kv A SS) ∧ Hid (nx ≤ nx' ∧ nx' ≤ ns.length) ∧ Hid (rdIL (rdI ns f) x.keys ts (x.kids.drop ts.length) nx' = rdIL (rdI ns f) x.keys [] x.kids nx)) (fun i _ => ni - (intOf i).toNat)
          case atStart => exact ⟨[], nx, _, _, _, rfl, Nat.zero_le _, HI0.out, ⟨Nat.le_refl _, HNX.out⟩, rfl⟩
          case round =>
            obtain ⟨ts, nx', kv, A, SS, rfl, HTL, HBI, HNB, HRD⟩ := hrel
            generalize hk : ts.length = k at *
            have HKL := hid hk
            clear hk
            have HNr := hid (HN.out.to HBI.out.only (fun b hb _ e => HWB.out (e ▸ hb)))
            have HIr := hid (HI.out.to HBI.out.only (fun b hb _ e => HWB.out (e ▸ hb)))
            have HSr := hid (HS.out.to HBI.out.only (fun b hb _ e => HWB.out (e ▸ hb)))
            have p1 := HBI.out.par.cell (j := 1) rfl
            by_cases hlt : k < ni
            · have hlt' : (k : Int) < (ni : Int) := by omega
              obtain ⟨bi, offi, rfl, _, _, hci⟩ := HIr.out.at (by omega)
              have hck := hci k hlt
              have HKD : Hid (x.kids.drop k = iAt x.kids k :: x.kids.drop (k + 1)) := by
                show _ = _
                have hl : k < x.kids.length := by rw [← li.out]; exact hlt
                rw [List.drop_eq_getElem_cons hl]
                simp [iAt, hl]
              clear hci
              generalize hpl : iAt x.kids k = pl at hck HKD
              clear hpl
              go_wp2_with fail
              refine (HIH.out S wb an nn cn pl nx' wr HBI.out.walk HNr.out HWB.out HLEN.out HNB.out.2 (by have := HF.out; have := HNB.out.1; omega)).mono ?_
              rintro e w1 ⟨hpost, ho1⟩
              cases hr : rdI ns f pl nx' with
              | none =>
                rw [hr] at hpost
                have he : e = .returned (.pointer none) := hpost
                subst he
                have HR : Hid (brT ns f x nx = none) := by
                  show _ = _
                  have h1 := HRD.out
                  rw [HKD.out, rdIL, hr] at h1
                  rw [brT, if_pos HOK.out, ← h1]
                have HO1 := hid (HBI.out.only.trans ho1)
                clear hpost ho1 hr
                go_wp2
                go_ret
                exact ⟨by rw [HR.out]; rfl, HO1.out⟩
              | some tn =>
                obtain ⟨t, n1⟩ := tn
                rw [hr] at hpost
                obtain ⟨b, he, hL, hB⟩ := hpost
                subst he
                have HRI := hid (rdI_rdy hr (by have := HLEN.out; omega))
                have HB1 := hid (HBI.out.read ho1 hB)
                have HL := hid hL
                have HPP : Hid (∀ y, (wr.heap.size ≤ y ∧ y < w1.heap.size) → w.heap.size + 2 ≤ y ∧ y < w1.heap.size ∧ kv.ownBlock ≠ some y ∧ ∀ i, i < ts.length → ¬ SS i y) := by
                  rintro y ⟨h1, h2⟩
                  have h3 := HBI.out.br.lt
                  refine ⟨by omega, h2, fun e => ?_, fun i hi hs => ?_⟩
                  · have := (World.ownsRow.lt HBI.out.row y e).2; omega
                  · have := (HBI.out.sub i hi y hs).2.1; omega
                have HRD1 : Hid (rdIL (rdI ns f) x.keys [] x.kids nx = if 0 < ts.length ∧ (t.least ≠ sAt x.keys (ts.length - 1) ∨ t.lv ≠ (tAt ts 0).lv) then none else rdIL (rdI ns f) x.keys (ts ++ [t]) (x.kids.drop (k + 1)) n1) := by
                  show _ = _
                  have h1 := HRD.out
                  rw [HKD.out, rdIL, hr] at h1
                  rw [← h1]
                  rfl
                have p1' := HB1.out.par.cell (j := 1) rfl
                have HSr1 := hid (HS.out.to HB1.out.only (fun b hb _ e => HWB.out (e ▸ hb)))
                clear hL hB hr ho1 HBI HRD HKD p1
                obtain ⟨ak, ck, hkv⟩ := HB1.out.row.shape
                rw [HKL.out] at hkv
                subst hkv
                cases k with
                | zero =>
                  have HTS : Hid (ts = []) := List.eq_nil_of_length_eq_zero HKL.out
                  have HRD2 : Hid (rdIL (rdI ns f) x.keys (ts ++ [t]) (x.kids.drop (0 + 1)) n1 = rdIL (rdI ns f) x.keys [] x.kids nx) := by
                    show _ = _
                    rw [HRD1.out, if_neg]
                    rw [HKL.out]; omega
                  clear HRD1
                  have c1 := HB1.out.br.cell (j := 1) rfl
                  have f1 := HB1.out.br.free 1
                  go_wp2_with fail
                  go_quiet (fail)
                  have HB2 := hid (HB1.out.keep (Below.drewN' (Below.refl _ _) nq))
                  have HL2 := hid (HL.out.kept (Below.drewN' (Below.refl _ _) nq))
                  have HOK2 : Hid (Ok (w1.drewN nq) (w.heap.size + 2) (.slice ak (0) ck) (0) A) := by have := HB2.out.row; rw [HKL.out] at this; exact this
                  have HB3 := hid (HB2.out.keep (below_new (o := .cells #[.pointer (some ⟨b, 0, none⟩)] 66) (Below.refl _ _)))
                  have HL3 := hid (HL2.out.kept (below_new (o := .cells #[.pointer (some ⟨b, 0, none⟩)] 66) (Below.refl _ _)))
                  have HSZ : Hid (w.heap.size + 2 ≤ w1.heap.size) := by have := HB1.out.br.lt; show _ ≤ _; omega
                  go_wp2_with (at_builtin; refine wpList_append_ptr rfl _ _ rfl (w.heap.size + 2) _ (0) A rfl (HOK2.out.kept (below_new (o := .cells #[.pointer (some ⟨b, 0, none⟩)] 66) (Below.refl _ _))) w1.heap.size b rfl ?qc ?qb ?qd ?_)
                  case qc => exact (Bk.new (w1.drewN nq) 66 [.pointer (some ⟨b, 0, none⟩)]).cell (j := 0) rfl
                  case qb => have := HIN.out; omega
                  case qd => have := HSZ.out; simp; omega
                  intro v2 w2 hO2 hg2 ha2
                  obtain ⟨a2, cc2, hv2⟩ := hO2.shape
                  subst hv2
                  have HB4 := hid (HB3.out.push (P := fun y => wr.heap.size ≤ y ∧ y < w1.heap.size) HL3.out (fun y hy => ⟨(HPP.out y hy).1, by have := (HPP.out y hy).2.1; simp; omega, (HPP.out y hy).2.2⟩) HRI.out.1 (by rw [HKL.out]; exact hO2) hg2 (by simpa using ha2))
                  have K2 := HB3.out.br.to (only_of_grown (R := fun y => w.heap.size + 2 ≤ y) hg2 (fun y e => (World.ownsRow.lt HB3.out.row y e).1)) (by omega)
                  have c2 := K2.cell (j := 1) rfl
                  have f2 := K2.free 1
                  have HRD3 : Hid (rdIL (rdI ns f) x.keys (ts ++ [t]) (x.kids.drop (ts ++ [t]).length) n1 = rdIL (rdI ns f) x.keys [] x.kids nx) := by
                    show _ = _
                    rw [List.length_append, HKL.out]
                    exact HRD2.out
                  have HTL2 : Hid ((ts ++ [t]).length = 0 + 1) := by show _ = _; rw [List.length_append, HKL.out]; rfl
                  clear K2 hO2 hg2 ha2 HB3 HL3 HOK2 HRD2
                  go_wp2
                  go_roundw
                  case rel => exact ⟨ts ++ [t], n1, _, _, _, by rw [HTL2.out]; go_num, by show _ ≤ _; rw [HTL2.out]; omega, HB4.out, ⟨by have := HNB.out.1; have := HRI.out.2.2; omega, HRI.out.2.1⟩, HRD3.out⟩
                  case measure => simp [intOf]; omega
                | succ k' =>
                  have hk1 : (0 : Int) < (k' : Int) + 1 := by omega
                  obtain ⟨bs, offs, hax, _, _, hcs⟩ := HSr1.out.at (by have := HNK.out; omega)
                  subst hax
                  have hks := hcs k' (by have := HNK.out; omega)
                  have hkk : (k' : Int) < (nk : Int) := by have := HNK.out; omega
                  clear hcs
                  obtain ⟨g0, og, hag, _, _, hcg⟩ := Rw.at (rw_own (S := fun _ => True) (by have := HB1.out.row; rw [HKL.out] at this; exact this) (fun _ _ _ _ => trivial)) (by omega)
                  subst hag
                  have hg0 := hcg 0 _ (ptrs_at A _ 0 (by omega))
                  simp only [ptr, Nat.add_zero] at hg0
                  clear hcg
                  have HT0 := hid (HB1.out.rdy 0 (by rw [HKL.out]; omega))
                  have HL0 := hid (HB1.out.kid 0 (by rw [HKL.out]; omega))
                  have CL : ∀ n, Calls Try.prog 121 #[.pointer (some ⟨b, 0, none⟩)] (w1.drewN n) fun e w' => e = .returned (.string t.least) ∧ ∃ m, w' = (w1.drewN n).drewN m := fun n => least_any _ b t _ (HL.out.kept (Below.drewN' (Below.refl _ _) n)) HRI.out.1.ne
                  have CD : ∀ n, Calls Try.prog 142 #[.pointer (some ⟨b, 0, none⟩)] (w1.drewN n) fun e w' => e = .returned (.int .i64 (t.dpt : Int)) ∧ ∃ m, w' = (w1.drewN n).drewN m := fun n => depth_any _ b t _ (HL.out.kept (Below.drewN' (Below.refl _ _) n)) HRI.out.1.few HRI.out.1.lv
                  have CD0 : ∀ n, Calls Try.prog 142 #[.pointer (some ⟨A 0, 0, none⟩)] (w1.drewN n) fun e w' => e = .returned (.int .i64 ((tAt ts 0).dpt : Int)) ∧ ∃ m, w' = (w1.drewN n).drewN m := fun n => depth_any _ (A 0) (tAt ts 0) _ (HL0.out.kept (Below.drewN' (Below.refl _ _) n)) HT0.out.few HT0.out.lv
                  have HDD : Hid (t.dpt = t.lv ∧ (tAt ts 0).dpt = (tAt ts 0).lv) := ⟨by rw [T.dpt, HRI.out.1.bare]; rfl, by rw [T.dpt, HT0.out.bare]; rfl⟩
                  by_cases hle : t.least = sAt x.keys k'
                  · by_cases hd : t.dpt = (tAt ts 0).dpt
                    · have HRD2 : Hid (rdIL (rdI ns f) x.keys (ts ++ [t]) (x.kids.drop (k' + 1 + 1)) n1 = rdIL (rdI ns f) x.keys [] x.kids nx) := by
                        show _ = _
                        rw [HRD1.out, if_neg]
                        rw [HKL.out]
                        rintro ⟨_, h | h⟩
                        · exact h hle
                        · have := HDD.out; omega
                      rw [hle] at CL
                      rw [hd] at CD
                      have hdd : (((tAt ts 0).dpt : Int) != ((tAt ts 0).dpt : Int)) = false := by simp
                      clear HRD1 hle hd
                      generalize sAt x.keys k' = ky at *
                      generalize (tAt ts 0).dpt = dd at *
                      have c1 := HB1.out.br.cell (j := 1) rfl
                      have f1 := HB1.out.br.free 1
                      go_wp2_with fail
                      go_quiet (first | (go_at_call 121; exact Calls.quiet_of (CL _)) | (go_at_call_of 142 (Value.pointer (some ⟨A 0, 0, none⟩)); exact Calls.quiet_of (CD0 _)) | (go_at_call_of 142 (Value.pointer (some ⟨b, 0, none⟩)); exact Calls.quiet_of (CD _)) | fail)
                      have HB2 := hid (HB1.out.keep (Below.drewN' (Below.refl _ _) nq))
                      have HL2 := hid (HL.out.kept (Below.drewN' (Below.refl _ _) nq))
                      have HOK2 : Hid (Ok (w1.drewN nq) (w.heap.size + 2) (.slice (some ⟨g0, og, none⟩) (k' + 1) ck) (k' + 1) A) := by have := HB2.out.row; rw [HKL.out] at this; exact this
                      have HB3 := hid (HB2.out.keep (below_new (o := .cells #[.pointer (some ⟨b, 0, none⟩)] 66) (Below.refl _ _)))
                      have HL3 := hid (HL2.out.kept (below_new (o := .cells #[.pointer (some ⟨b, 0, none⟩)] 66) (Below.refl _ _)))
                      have HSZ : Hid (w.heap.size + 2 ≤ w1.heap.size) := by have := HB1.out.br.lt; show _ ≤ _; omega
                      go_wp2_with (at_builtin; refine wpList_append_ptr rfl _ _ rfl (w.heap.size + 2) _ (k' + 1) A rfl (HOK2.out.kept (below_new (o := .cells #[.pointer (some ⟨b, 0, none⟩)] 66) (Below.refl _ _))) w1.heap.size b rfl ?qc ?qb ?qd ?_)
                      case qc => exact (Bk.new (w1.drewN nq) 66 [.pointer (some ⟨b, 0, none⟩)]).cell (j := 0) rfl
                      case qb => have := HIN.out; omega
                      case qd => have := HSZ.out; simp; omega
                      intro v2 w2 hO2 hg2 ha2
                      obtain ⟨a2, cc2, hv2⟩ := hO2.shape
                      subst hv2
                      have HB4 := hid (HB3.out.push (P := fun y => wr.heap.size ≤ y ∧ y < w1.heap.size) HL3.out (fun y hy => ⟨(HPP.out y hy).1, by have := (HPP.out y hy).2.1; simp; omega, (HPP.out y hy).2.2⟩) HRI.out.1 (by rw [HKL.out]; exact hO2) hg2 (by simpa using ha2))
                      have K2 := HB3.out.br.to (only_of_grown (R := fun y => w.heap.size + 2 ≤ y) hg2 (fun y e => (World.ownsRow.lt HB3.out.row y e).1)) (by omega)
                      have c2 := K2.cell (j := 1) rfl
                      have f2 := K2.free 1
                      have HRD3 : Hid (rdIL (rdI ns f) x.keys (ts ++ [t]) (x.kids.drop (ts ++ [t]).length) n1 = rdIL (rdI ns f) x.keys [] x.kids nx) := by
                        show _ = _
                        rw [List.length_append, HKL.out]
                        exact HRD2.out
                      have HTL2 : Hid ((ts ++ [t]).length = k' + 1 + 1) := by show _ = _; rw [List.length_append, HKL.out]; rfl
                      clear K2 hO2 hg2 ha2 HB3 HL3 HOK2 HRD2
                      go_wp2
                      go_roundw
                      case rel => exact ⟨ts ++ [t], n1, _, _, _, by rw [HTL2.out]; go_num, by show _ ≤ _; rw [HTL2.out]; omega, HB4.out, ⟨by have := HNB.out.1; have := HRI.out.2.2; omega, HRI.out.2.1⟩, HRD3.out⟩
                      case measure => simp [intOf]; omega
                    · have HR : Hid (brT ns f x nx = none) := by
                        show _ = _
                        rw [brT, if_pos HOK.out, HRD1.out, if_pos]
                        exact ⟨by rw [HKL.out]; omega, .inr (by have := HDD.out; omega)⟩
                      rw [hle] at CL
                      have hdd : ((t.dpt : Int) != ((tAt ts 0).dpt : Int)) = true := by simp; omega
                      clear HRD1 hle hd HDD
                      generalize sAt x.keys k' = ky at *
                      generalize (tAt ts 0).dpt = dd at *
                      generalize t.dpt = dt at *
                      have c1 := HB1.out.br.cell (j := 1) rfl
                      have HO1 := hid HB1.out.only
                      go_wp2_with fail
                      go_quiet (first | (go_at_call 121; exact Calls.quiet_of (CL _)) | (go_at_call_of 142 (Value.pointer (some ⟨A 0, 0, none⟩)); exact Calls.quiet_of (CD0 _)) | (go_at_call_of 142 (Value.pointer (some ⟨b, 0, none⟩)); exact Calls.quiet_of (CD _)) | fail)
                      go_wp2
                      go_ret
                      exact ⟨by rw [HR.out]; rfl, HO1.out.trans (only_drew _ _ _)⟩
                  · have HR : Hid (brT ns f x nx = none) := by
                      show _ = _
                      rw [brT, if_pos HOK.out, HRD1.out, if_pos]
                      exact ⟨by rw [HKL.out]; omega, .inl (by rw [HKL.out]; exact hle)⟩
                    have hbe := str_beq hle
                    clear HRD1 hle HDD CD CD0
                    generalize sAt x.keys k' = ky at *
                    generalize t.least = tl at *
                    have c1 := HB1.out.br.cell (j := 1) rfl
                    have HO1 := hid HB1.out.only
                    go_wp2_with fail
                    go_quiet (first | (go_at_call 121; exact Calls.quiet_of (CL _)) | fail)
                    go_wp2
                    go_ret
                    exact ⟨by rw [HR.out]; rfl, HO1.out.trans (only_drew _ _ _)⟩
            · have hk' : k = ni := by have := HTL.out; omega
              have HR : Hid (brT ns f x nx = some (.mk [] ts, nx')) := by
                show _ = _
                have h1 := HRD.out
                rw [hk', li.out, List.drop_length, rdIL] at h1
                rw [brT, if_pos HOK.out, ← h1]
              have HFIN := hid HBI.out.limb
              have HO1 := hid HBI.out.only
              have HWK := hid HBI.out.walk
              clear hk' HBI
              go_wp2
              go_ret
              exact ⟨by rw [HR.out]; exact ⟨_, rfl, HFIN.out, HWK.out⟩, HO1.out⟩
        · have HR : Hid (brT ns f x nx = none) := by show _ = _; rw [brT, if_neg]; rw [LB.out]; simp [a4]
          have e4 : ((np : Int) != 0) = true := by simp; omega
          clear LB a3 a4
          go_enter Try.func117, Try.ntmps117
          go_wp2
          go_ret
          exact ⟨by rw [HR.out]; rfl, only_of_below HB0.out _⟩
      · have HR : Hid (brT ns f x nx = none) := by show _ = _; rw [brT, if_neg]; rw [LB.out]; simp [a3]
        have e3 : ((nk : Int) != (ni : Int) - 1) = true := by simp [a3]
        clear LB a3
        go_enter Try.func117, Try.ntmps117
        go_wp2
        go_ret
        exact ⟨by rw [HR.out]; rfl, only_of_below HB0.out _⟩
end Go.Proofs.Ytkflneeifllpgaa
/-
  read: it reads what the plain function reads. rootOf.
-/
namespace Go.Proofs.Ytkflneeifllpgaa
open Go.RowKit
theorem ReadPost.mono {o : Option (T × Nat)} {w u : World} {wb : Nat} {nv : Value} {e : Ending} {w' : World} (h : ReadPost o u wb nv e w') (hs : w.heap.size ≤ u.heap.size) : ReadPost o w wb nv e w' := by
  cases o with
  | none => exact h
  | some tn =>
    obtain ⟨t, n⟩ := tn
    obtain ⟨b, h1, h2, h3⟩ := h
    exact ⟨b, h1, h2.mono (fun y hy => ⟨Nat.le_trans hs hy.1, hy.2⟩), h3⟩
theorem LimbOr.ret {o : Option T} {w : World} {e : Ending} {w' : World} (h : LimbOr o w e w') : ∃ p, e = .returned (.pointer p) := by
  cases o with
  | none => exact ⟨none, h⟩
  | some t => obtain ⟨b, h1, _⟩ := h; exact ⟨_, h1⟩
theorem ReadPost.ret {o : Option (T × Nat)} {w : World} {wb : Nat} {nv : Value} {e : Ending} {w' : World} (h : ReadPost o w wb nv e w') : ∃ p, e = .returned (.pointer p) := by
  cases o with
  | none => exact ⟨none, h⟩
  | some tn => obtain ⟨t, n⟩ := tn; obtain ⟨b, h1, _⟩ := h; exact ⟨_, h1⟩
theorem rdI_no {ns : List NB} {f : Nat} {pl : Int} {nx : Nat} (h : pl ≠ (nx : Int) ∨ (ns.length : Int) ≤ pl) : rdI ns f pl nx = none := by
  cases f with
  | zero => rfl
  | succ f => rw [rdI, if_pos h]
theorem rdI_leaf {ns : List NB} {f nx : Nat} (h : nx < ns.length) (hk : (nAt ns nx).kids.length = 0) : rdI ns (f + 1) nx nx = (leafT (nAt ns nx) (decide ((nx : Int) = 0))).map (fun t => (t, nx + 1)) := by
  rw [rdI, if_neg (by omega), if_pos hk, leafT]
  split <;> rfl
theorem rdI_br {ns : List NB} {f nx : Nat} (h : nx < ns.length) (hk : (nAt ns nx).kids.length ≠ 0) : rdI ns (f + 1) nx nx = brT ns f (nAt ns nx) (nx + 1) := by
  rw [rdI, if_neg (by omega), if_neg hk]
  rfl
theorem read_post_leaf {w u w' : World} {x : NB} {r : Bool} {wb nx : Nat} {nv : Value} {e : Ending} (h : LimbOr (leafT x r) u e w') (hs : w.heap.size ≤ u.heap.size) (hb : Bk w' wb 114 [nv, .int .i64 (nx + 1 : Nat)]) :
    ReadPost ((leafT x r).map (fun t => (t, nx + 1))) w wb nv e w' := by
  cases ho : leafT x r with
  | none => rw [ho] at h; exact h
  | some t =>
    rw [ho] at h
    obtain ⟨b, h1, h2⟩ := h
    exact ⟨b, h1, h2.mono (fun y hy => ⟨Nat.le_trans hs hy.1, hy.2⟩), hb⟩
set_option maxHeartbeats 8000000 in
theorem read_any (ns : List NB) : ∀ f, ReadC ns f := by
  intro f
  induction f with
  | zero =>
    intro S wb an nn cn pl nx w hW hN hwb hlen hnx hf
    have HR : Hid (rdI ns 0 pl nx = none) := rfl
    have hnn := hN.len.1
    have c0 := hW.cell (j := 0) rfl
    have c1 := hW.cell (j := 1) rfl
    by_cases hp : pl = (nx : Int)
    · have e1 : (pl != (nx : Int)) = false := by simp [hp]
      have e2 : (nn : Int) ≤ pl := by omega
      clear hW hN hnn hp
      go_enter Try.func74, Try.ntmps74
      go_wp2
      go_ret
      exact ⟨by rw [HR.out]; rfl, Only.refl _ _⟩
    · have e1 : (pl != (nx : Int)) = true := by simp [hp]
      clear hW hN hnn hp
      go_enter Try.func74, Try.ntmps74
      go_wp2
      go_ret
      exact ⟨by rw [HR.out]; rfl, Only.refl _ _⟩
  | succ f ih =>
    intro S wb an nn cn pl nx w hW hN hwb hlen hnx hf
    have hnn := hid hN.len.1
    have c0 := hW.cell (j := 0) rfl
    have c1 := hW.cell (j := 1) rfl
    by_cases hp : pl = (nx : Int)
    · subst hp
      have e1 : ((nx : Int) != (nx : Int)) = false := by simp
      by_cases hl : nn ≤ nx
      · have HR : Hid (rdI ns (f + 1) nx nx = none) := rdI_no (.inr (by rw [← hnn.out]; omega))
        have e2 : (nn : Int) ≤ (nx : Int) := by omega
        clear hW hN hl
        go_enter Try.func74, Try.ntmps74
        go_wp2
        go_ret
        exact ⟨by rw [HR.out]; rfl, Only.refl _ _⟩
      · have e2 : ¬ (nn : Int) ≤ (nx : Int) := by omega
        have HL : Hid (nx < ns.length) := by show _ < _; rw [← hnn.out]; omega
        have HIH := hid ih
        have HW := hid hW
        have HN := hid hN
        have HWB := hid hwb
        have HLEN := hid hlen
        have HF := hid hf
        have hlt' : (nx : Int) < (nn : Int) := by omega
        have hnx3 : nx < 400 := by have := HL.out; omega
        clear ih hN hwb hf hlen hnx
        obtain ⟨b, off, han, hSb, hbw, hcell⟩ := HN.out.at (by omega)
        subst han
        obtain ⟨ap, np, cp, ax, nk, cx, ai, ni, ci, d0, d1, d2, hp, hx, hi⟩ := hcell nx (by omega)
        have li := hid (Rw.len hi).1
        have HP := hid hp
        have HX := hid hx
        have HI := hid hi
        have hbne : b ≠ wb := by rintro rfl; exact HWB.out hSb
        have f1 := hW.free 1
        have b5 := (Rw.len hi).2.1
        have b6 := (Rw.len hi).2.2
        clear hcell hp hx hi hSb
        have HO1 : Hid (Only (fun b => b = wb) w ((w.setCell ⟨wb, 1, none⟩ (.int .i64 ((nx : Int) + 1))).alloc (.cells #[.slice ap np cp, .slice ax nk cx, .slice ai ni ci] 106))) := (only_set (R := fun b => b = wb) rfl _).trans (only_alloc _ _ _)
        have HWK : Hid (Bk ((w.setCell ⟨wb, 1, none⟩ (.int .i64 ((nx : Int) + 1))).alloc (.cells #[.slice ap np cp, .slice ax nk cx, .slice ai ni ci] 106)) wb 114 [.slice (some ⟨b, off, none⟩) nn cn, .int .i64 ((nx + 1 : Nat) : Int)]) := by
          show Bk _ _ _ _
          exact (HW.out.set 1 (.int .i64 ((nx : Int) + 1))).alloc _
        have HN1 := hid (HN.out.to HO1.out (fun y hy _ e => HWB.out (e ▸ hy)))
        have HP1 := hid (HP.out.to HO1.out (fun y hy _ e => HWB.out (e ▸ hy)))
        have HX1 := hid (HX.out.to HO1.out (fun y hy _ e => HWB.out (e ▸ hy)))
        have HI1 := hid (HI.out.to HO1.out (fun y hy _ e => HWB.out (e ▸ hy)))
        go_enter Try.func74, Try.ntmps74
        by_cases hk : ni = 0
        · have HR : Hid (rdI ns (f + 1) nx nx = (leafT (nAt ns nx) (decide ((nx : Int) = 0))).map (fun t => (t, nx + 1))) := rdI_leaf HL.out (by rw [← li.out]; exact hk)
          have HD : Hid (∀ r : Bool, r = decide ((nx : Int) = 0) → leafT (nAt ns nx) r = leafT (nAt ns nx) (decide ((nx : Int) = 0))) := by rintro _ rfl; rfl
          clear li
          subst hk
          go_wp2_with fail
          refine (readLeaf_any S ap ax ai np cp nk cx 0 ci (nAt ns nx) _ _ HP1.out HX1.out).mono ?_
          rintro e w2 ⟨hpost, hb2⟩
          obtain ⟨p, he⟩ := hpost.ret
          subst he
          have HPOST : Hid (ReadPost ((leafT (nAt ns nx) (decide ((nx : Int) = 0))).map (fun t => (t, nx + 1))) w wb (.slice (some ⟨b, off, none⟩) nn cn) (.returned (.pointer p)) w2) := by
            refine read_post_leaf (w := w) ?_ HO1.out.size (HWK.out.below hb2)
            rw [HD.out _ ?_] at hpost
            · exact hpost
            · by_cases h0 : nx = 0
              · subst h0; rfl
              · simp [h0]
          have HO2 := hid (HO1.out.trans (only_of_below hb2 _))
          clear hpost hb2 HD
          go_wp2
          go_ret
          exact ⟨by rw [HR.out]; exact HPOST.out, HO2.out⟩
        · have HR : Hid (rdI ns (f + 1) nx nx = brT ns f (nAt ns nx) (nx + 1)) := rdI_br HL.out (by rw [← li.out]; exact hk)
          have hk' : ((ni : Int) == 0) = false := by simp; omega
          clear hk
          go_wp2_with fail
          refine (readBranch_any ns f HIH.out S wb (some ⟨b, off, none⟩) nn cn ap ax ai np cp nk cx ni ci (nAt ns nx) (nx + 1) _ HWK.out HN1.out HWB.out HLEN.out HL.out (by have := HF.out; omega) HP1.out HX1.out HI1.out).mono ?_
          rintro e w2 ⟨hpost, ho2⟩
          obtain ⟨p, he⟩ := hpost.ret
          subst he
          have HPOST := hid (hpost.mono (w := w) HO1.out.size)
          have HO2 := hid (HO1.out.trans ho2)
          clear hpost ho2
          go_wp2
          go_ret
          exact ⟨by rw [HR.out]; exact HPOST.out, HO2.out⟩
    · have e1 : (pl != (nx : Int)) = true := by simp [hp]
      have HR : Hid (rdI ns (f + 1) pl nx = none) := rdI_no (.inl hp)
      clear hW hN hp
      go_enter Try.func74, Try.ntmps74
      go_wp2
      go_ret
      exact ⟨by rw [HR.out]; rfl, Only.refl _ _⟩
end Go.Proofs.Ytkflneeifllpgaa
/-
  rootOf: the right tree, or nil.
-/
namespace Go.Proofs.Ytkflneeifllpgaa
open Go.RowKit
mutual
theorem full_all_le : ∀ (t : T) (r : Bool), t.full r = true → t.all.length ≤ 4 * t.size
  | .mk ps ks, r, h => by
    by_cases hk : ks = []
    · subst hk
      have := full_lf h
      simp [T.size, szL, T.all, allL]
      omega
    · obtain ⟨h1, h2, rfl, h3⟩ := full_br h hk
      have := fullL_all_le ks h3
      simp [T.size, T.all]
      omega
theorem fullL_all_le : ∀ (ks : List T), (∀ k ∈ ks, k.full false = true) → (allL ks).length ≤ 4 * szL ks
  | [], _ => by simp [szL, allL]
  | k :: ks, h => by
    have h1 := full_all_le k false (h k (by simp))
    have h2 := fullL_all_le ks (fun x hx => h x (by simp [hx]))
    simp [szL, allL]
    omega
end
set_option maxHeartbeats 8000000 in
theorem rootOf_any (S : Nat → Prop) (an : Option Addr) (nn cn : Nat) (ns : List NB) (w : World) (hN : Nr w S (.slice an nn cn) ns) :
    Calls Try.prog 32 #[.agg #[.slice an nn cn]] w fun e w' => LimbOr (okT ns) w e w' ∧ Below w.heap.size w w' := by
  have hnn := hid hN.len.1
  have h1 := hN.len.2.1
  have h2 := hN.len.2.2
  have HN : Hid (Nr w (fun y => y < w.heap.size) (.slice an nn cn) ns) := hN.mono (fun b _ h => h)
  clear hN
  have HB0 := hid (below_new (o := .cells #[.slice an nn cn] 25) (w := w) (Below.refl _ _))
  by_cases a1 : nn = 0
  · have HR : Hid (okT ns = some (.mk [] [])) := by show _ = _; rw [okT, if_pos]; rw [← hnn.out]; exact a1
    have HL : Hid (Limb ((w.alloc (.cells #[.slice an nn cn] 25)).alloc (.cells #[.slice none 0 0, .slice none 0 0] 112)) (fun y => w.heap.size ≤ y ∧ y < ((w.alloc (.cells #[.slice an nn cn] 25)).alloc (.cells #[.slice none 0 0, .slice none 0 0] 112)).heap.size) (w.heap.size + 1) (.mk [] [])) := by
      have hk := Bk.new (w.alloc (.cells #[.slice an nn cn] 25)) 112 [.slice none 0 0, .slice none 0 0]
      refine limb_leaf (lo := w.heap.size) (by simpa using hk) (by omega) (ow_nil _ _) (by simp [Value.ownBlock]) _ (fun y h1 h2 => ⟨h1, h2⟩)
    clear hnn HN
    subst a1
    go_enter Try.func32, Try.ntmps32
    go_wp2
    go_ret
    refine ⟨?_, below_new (below_new (Below.refl _ _))⟩
    rw [HR.out]
    exact ⟨_, rfl, HL.out⟩
  · have e1 : ((nn : Int) == 0) = false := by simp; omega
    by_cases a2 : 400 ≤ nn
    · have e2 : (400 : Int) ≤ (nn : Int) := by omega
      have HR : Hid (okT ns = none) := by show _ = _; rw [okT, if_neg, if_pos] <;> rw [← hnn.out] <;> omega
      clear a1 a2
      go_enter Try.func32, Try.ntmps32
      go_wp2
      go_ret
      refine ⟨?_, HB0.out⟩
      rw [HR.out]
      rfl
    · have e2 : ¬ (400 : Int) ≤ (nn : Int) := by omega
      have HLEN : Hid (ns.length < 400) := by show _ < _; rw [← hnn.out]; omega
      have HB1 : Hid (Below w.heap.size w ((w.alloc (.cells #[.slice an nn cn] 25)).alloc (.cells #[.slice an nn cn, .int .i64 0] 114))) := below_new (below_new (Below.refl _ _))
      have KW : Hid (Bk ((w.alloc (.cells #[.slice an nn cn] 25)).alloc (.cells #[.slice an nn cn, .int .i64 0] 114)) (w.heap.size + 1) 114 [.slice an nn cn, .int .i64 (0 : Nat)]) := by
        have hk := Bk.new (w.alloc (.cells #[.slice an nn cn] 25)) 114 [.slice an nn cn, .int .i64 0]
        show Bk _ _ _ _
        simpa using hk
      have KT : Hid (Bk ((w.alloc (.cells #[.slice an nn cn] 25)).alloc (.cells #[.slice an nn cn, .int .i64 0] 114)) w.heap.size 25 [.slice an nn cn]) := (Bk.new w 25 [.slice an nn cn]).alloc _
      have HZ : Hid (((w.alloc (.cells #[.slice an nn cn] 25)).alloc (.cells #[.slice an nn cn, .int .i64 0] 114)).heap.size = w.heap.size + 2) := by show _ = _; simp
      clear a2
      go_enter Try.func32, Try.ntmps32
      go_wp2_with fail
      refine (read_any ns ns.length (fun y => y < w.heap.size) (w.heap.size + 1) an nn cn 0 0 _ KW.out (HN.out.below HB1.out) (by omega) HLEN.out (Nat.zero_le _) (by omega)).mono ?_
      generalize (w.alloc (.cells #[.slice an nn cn] 25)).alloc (.cells #[.slice an nn cn, .int .i64 0] 114) = W at *
      rintro e w1 ⟨hpost, ho1⟩
      cases hr : rdI ns ns.length 0 0 with
      | none =>
        rw [hr] at hpost
        have he : e = .returned (.pointer none) := hpost
        subst he
        have HR : Hid (okT ns = none) := by
          show _ = _
          rw [okT, if_neg (by rw [← hnn.out]; exact a1), if_neg (by have := HLEN.out; omega), hr]
        have KT1 := hid (KT.out.to ho1 (by omega))
        have HB2 : Hid (Below w.heap.size w w1) := HB1.out.trans (ho1.below (by have := HZ.out; omega) (fun b hb e => by omega))
        clear hpost ho1
        go_wp2
        go_ret
        exact ⟨by rw [HR.out]; rfl, HB2.out⟩
      | some tn =>
        obtain ⟨t, n1⟩ := tn
        rw [hr] at hpost
        obtain ⟨b, he, hL, hW⟩ := hpost
        subst he
        have KT1 := hid (KT.out.to ho1 (by omega))
        have HB2 : Hid (Below w.heap.size w w1) := HB1.out.trans (ho1.below (by have := HZ.out; omega) (fun b hb e => by omega))
        have HL := hid hL
        have KW1 := hid hW
        have HRI := hid (rdI_rdy hr (by have := HLEN.out; omega))
        have HAL : Hid (t.all.length ≤ 1048576) := by
          show _ ≤ _
          obtain ⟨_, _, g3, _, g5, rfl⟩ := rdI_sound ns _ _ _ _ _ hr
          have g6 := full_all_le t _ g3
          have g7 := HRI.out.2.1
          have := HLEN.out
          omega
        have HOT : Hid (okT ns = if n1 = ns.length ∧ pOk t.all = true then some t else none) := by
          show _ = _
          rw [okT, if_neg (by rw [← hnn.out]; exact a1), if_neg (by have := HLEN.out; omega), hr]
        have c0 := KT1.out.cell (j := 0) rfl
        have c1 := KW1.out.cell (j := 1) rfl
        clear hL hW ho1 hr
        by_cases hn1 : n1 = nn
        · have e3 : ((n1 : Int) != (nn : Int)) = false := by simp [hn1]
          have HN1 := hid hn1
          clear hn1
          go_wp2_with fail
          refine (all_any t (fun y => W.heap.size ≤ y ∧ y < w1.heap.size) b w1 w1.heap.size (.slice none 0 0) [] HL.out (fun y hy => hy.2) (Nat.le_refl _) (ow_nil _ _) (by have := HAL.out; simp; omega)).mono ?_
          rintro e w2 ⟨v2, rfl, hO2, hb2⟩
          rw [List.nil_append] at hO2
          have HO2 := hid hO2
          have HB3 : Hid (Below w.heap.size w w2) := HB2.out.trans (hb2.mono HB2.out.size)
          have HL2 := hid (HL.out.kept hb2)
          have HSZ2 := hid hb2.size
          obtain ⟨a2, n2, cc2, hv2, HN2⟩ := hO2.shape'
          subst hv2
          clear hO2 hb2
          go_wp2_with fail
          refine (implPairsOk_any (fun _ => True) _ t.all w2 (HO2.out.pr (fun _ _ _ _ => trivial))).mono ?_
          rintro e w3 ⟨rfl, hb3⟩
          have HB4 : Hid (Below w.heap.size w w3) := HB3.out.trans (hb3.mono HB3.out.size)
          have HL3 : Hid (Limb w3 (fun y => w.heap.size ≤ y ∧ y < w3.heap.size) b t) := by
            refine (HL2.out.kept hb3).mono (fun y hy => ⟨?_, ?_⟩)
            · have := HZ.out; have := hy.1; omega
            · have := HSZ2.out; have := hb3.size; have := hy.2; omega
          clear hb3
          cases hpk : pOk t.all
          · have HR : Hid (okT ns = none) := by show _ = _; rw [HOT.out, if_neg]; rw [hpk]; simp
            clear HOT hpk
            go_wp2
            go_ret
            exact ⟨by rw [HR.out]; rfl, HB4.out⟩
          · have HR : Hid (okT ns = some t) := by show _ = _; rw [HOT.out, if_pos]; exact ⟨by rw [HN1.out, hnn.out], hpk⟩
            clear HOT hpk
            go_wp2
            go_ret
            exact ⟨by rw [HR.out]; exact ⟨_, rfl, HL3.out⟩, HB4.out⟩
        · have e3 : ((n1 : Int) != (nn : Int)) = true := by simp; omega
          have HR : Hid (okT ns = none) := by show _ = _; rw [HOT.out, if_neg]; rintro ⟨h, _⟩; exact hn1 (by rw [h, hnn.out])
          clear hn1 HOT
          go_wp2
          go_ret
          exact ⟨by rw [HR.out]; rfl, HB2.out⟩
end Go.Proofs.Ytkflneeifllpgaa
/-
  l03Read of the specification: it reads what the plain function reads.
-/
namespace Go.Proofs.Ytkflneeifllpgaa
open Go.RowKit
set_option maxHeartbeats 8000000 in
theorem specRead_any (ns : List NB) (hlen : ns.length ≤ 1048576) (hsm : smallN ns) : ∀ f : Nat, f ≤ 13 → ∀ (S : Nat → Prop) (an : Option Addr) (nn cn : Nat) (a d : Int) (w : World), Nr w S (.slice an nn cn) ns → d = 13 - (f : Int) →
    Calls Try.prog 84 #[.agg #[.slice an nn cn], .int .i64 a, .int .i64 d] w fun e w' => SubPost (rdS ns f a) w e w' ∧ Below w.heap.size w w' := by
  intro f
  induction f with
  | zero =>
    intro _ S an nn cn a d w hN hd
    have hd' : d = 13 := by omega
    have HR : Hid (rdS ns 0 a = none) := rfl
    clear hN hd
    subst hd'
    by_cases h1 : a < 0
    · go_enter Try.func84, Try.ntmps84
      go_wp2
      try simp only [Exit.inBlock, Exit.then]
      refine bodyPost_ret (v := .tuple #[.agg #[.bool false, .slice none 0 0, .slice none 0 0], .int .i64 0, .bool false]) ?_ rfl ?_
      · refine results_sub3 rfl _ _ _ rfl rfl rfl ?_ ?_ ?_
        · go_simp
        · go_simp
        · go_simp
      · exact ⟨by rw [HR.out]; rfl, below_new (below_new (Below.refl _ _))⟩
    · by_cases h2 : (nn : Int) ≤ a
      · go_enter Try.func84, Try.ntmps84
        go_wp2
        try simp only [Exit.inBlock, Exit.then]
        refine bodyPost_ret (v := .tuple #[.agg #[.bool false, .slice none 0 0, .slice none 0 0], .int .i64 0, .bool false]) ?_ rfl ?_
        · refine results_sub3 rfl _ _ _ rfl rfl rfl ?_ ?_ ?_
          · go_simp
          · go_simp
          · go_simp
        · exact ⟨by rw [HR.out]; rfl, below_new (below_new (Below.refl _ _))⟩
      · go_enter Try.func84, Try.ntmps84
        go_wp2
        try simp only [Exit.inBlock, Exit.then]
        refine bodyPost_ret (v := .tuple #[.agg #[.bool false, .slice none 0 0, .slice none 0 0], .int .i64 0, .bool false]) ?_ rfl ?_
        · refine results_sub3 rfl _ _ _ rfl rfl rfl ?_ ?_ ?_
          · go_simp
          · go_simp
          · go_simp
        · exact ⟨by rw [HR.out]; rfl, below_new (below_new (Below.refl _ _))⟩
  | succ f ih =>
    intro hf13 S an nn cn a d w hN hd
    have hnn := hid hN.len.1
    have hnn2 := hN.len.2.1
    have hnn3 := hN.len.2.2
    by_cases h1 : a < 0
    · have HR : Hid (rdS ns (f + 1) a = none) := by show _ = _; rw [rdS, if_pos (.inl h1)]
      clear hN hd
      go_enter Try.func84, Try.ntmps84
      go_wp2
      try simp only [Exit.inBlock, Exit.then]
      refine bodyPost_ret (v := .tuple #[.agg #[.bool false, .slice none 0 0, .slice none 0 0], .int .i64 0, .bool false]) ?_ rfl ?_
      · refine results_sub3 rfl _ _ _ rfl rfl rfl ?_ ?_ ?_
        · go_simp
        · go_simp
        · go_simp
      · exact ⟨by rw [HR.out]; rfl, below_new (below_new (Below.refl _ _))⟩
    · by_cases h2 : (nn : Int) ≤ a
      · have HR : Hid (rdS ns (f + 1) a = none) := by show _ = _; rw [rdS, if_pos (.inr (by rw [← hnn.out]; exact h2))]
        clear hN hd
        go_enter Try.func84, Try.ntmps84
        go_wp2
        try simp only [Exit.inBlock, Exit.then]
        refine bodyPost_ret (v := .tuple #[.agg #[.bool false, .slice none 0 0, .slice none 0 0], .int .i64 0, .bool false]) ?_ rfl ?_
        · refine results_sub3 rfl _ _ _ rfl rfl rfl ?_ ?_ ?_
          · go_simp
          · go_simp
          · go_simp
        · exact ⟨by rw [HR.out]; rfl, below_new (below_new (Below.refl _ _))⟩
      · obtain ⟨p, hp⟩ : ∃ p : Nat, a = p := ⟨a.toNat, by omega⟩
        subst hp
        have hd12 : d ≤ 12 := by omega
        have hd0 : 0 ≤ d := by omega
        have HD := hid hd
        have hpn : p < nn := by omega
        have hpn' : (p : Int) < (nn : Int) := by omega
        have HN := hid hN
        have HIH := hid ih
        have hlen2 : nn ≤ 1048576 := by rw [hnn.out]; exact hlen
        clear hN hd ih
        obtain ⟨b, off, han, hSb, hbw, hcell⟩ := HN.out.at (by omega)
        subst han
        obtain ⟨ap, np, cp, ax, nk, cx, ai, ni, ci, d0, d1, d2, hp, hx, hi⟩ := hcell p hpn
        have lp := hid (Rw.len hp).1
        have li := hid (Rw.len hi).1
        have HP := hid hp
        have HI := hid hi
        have b5 := (Rw.len hi).2.1
        have b6 := (Rw.len hi).2.2
        obtain ⟨s1, _, _⟩ := hsm p (by rw [← hnn.out]; exact hpn)
        have hnp : np ≤ 1048576 := by rw [lp.out]; exact s1
        have hni : ni ≤ 1048576 := by rw [li.out]; exact (hsm p (by rw [← hnn.out]; exact hpn)).2.2
        have HR0 : Hid (rdS ns (f + 1) (p : Int) = match rdSL (rdS ns f) (nAt ns p).kids (p + 1) with
            | none => none
            | some (ts, n) => some (.mk (nAt ns p).ps ts, n)) := by
          show _ = _
          rw [rdS, if_neg (by rw [← hnn.out]; omega)]
          rfl
        clear hcell hp hx hi s1
        generalize hX : nAt ns p = x at *
        clear hX
        have HBU : Hid (Below w.heap.size w (((w.alloc (.cells #[.slice (some ⟨b, off, none⟩) nn cn] 25)).alloc (.cells #[.bool false, .slice none 0 0, .slice none 0 0] 74)).alloc (.cells #[.slice ap np cp, .slice ax nk cx, .slice ai ni ci] 106))) := below_new (below_new (below_new (Below.refl _ _)))
        have KT : Hid (Bk (((w.alloc (.cells #[.slice (some ⟨b, off, none⟩) nn cn] 25)).alloc (.cells #[.bool false, .slice none 0 0, .slice none 0 0] 74)).alloc (.cells #[.slice ap np cp, .slice ax nk cx, .slice ai ni ci] 106)) w.heap.size 25 [.slice (some ⟨b, off, none⟩) nn cn]) := ((Bk.new w 25 [.slice (some ⟨b, off, none⟩) nn cn]).alloc _).alloc _
        have KR : Hid (Bk (((w.alloc (.cells #[.slice (some ⟨b, off, none⟩) nn cn] 25)).alloc (.cells #[.bool false, .slice none 0 0, .slice none 0 0] 74)).alloc (.cells #[.slice ap np cp, .slice ax nk cx, .slice ai ni ci] 106)) (w.heap.size + 1) 74 [.bool false, .slice none 0 0, .slice none 0 0]) := by
          have := (Bk.new (w.alloc (.cells #[.slice (some ⟨b, off, none⟩) nn cn] 25)) 74 [.bool false, .slice none 0 0, .slice none 0 0]).alloc (.cells #[.slice ap np cp, .slice ax nk cx, .slice ai ni ci] 106)
          show Bk _ _ _ _
          simpa using this
        have KN : Hid (Bk (((w.alloc (.cells #[.slice (some ⟨b, off, none⟩) nn cn] 25)).alloc (.cells #[.bool false, .slice none 0 0, .slice none 0 0] 74)).alloc (.cells #[.slice ap np cp, .slice ax nk cx, .slice ai ni ci] 106)) (w.heap.size + 1 + 1) 106 [.slice ap np cp, .slice ax nk cx, .slice ai ni ci]) := by
          have := Bk.new ((w.alloc (.cells #[.slice (some ⟨b, off, none⟩) nn cn] 25)).alloc (.cells #[.bool false, .slice none 0 0, .slice none 0 0] 74)) 106 [.slice ap np cp, .slice ax nk cx, .slice ai ni ci]
          show Bk _ _ _ _
          simpa using this
        have HZ : Hid ((((w.alloc (.cells #[.slice (some ⟨b, off, none⟩) nn cn] 25)).alloc (.cells #[.bool false, .slice none 0 0, .slice none 0 0] 74)).alloc (.cells #[.slice ap np cp, .slice ax nk cx, .slice ai ni ci] 106)).heap.size = w.heap.size + 3) := by show _ = _; simp
        go_enter Try.func84, Try.ntmps84
        have c0 := KN.out.cell (j := 0) rfl
        have c2 := KN.out.cell (j := 2) rfl
        have T0 := hid (kc0_2 c0 c2)
        have HXL : Hid (x.ps.length ≤ 1048576) := by show _ ≤ _; rw [← lp.out]; exact hnp
        have HSRC : Hid (∀ v, KC (((w.alloc (.cells #[.slice (some ⟨b, off, none⟩) nn cn] 25)).alloc (.cells #[.bool false, .slice none 0 0, .slice none 0 0] 74)).alloc (.cells #[.slice ap np cp, .slice ax nk cx, .slice ai ni ci] 106)) v [(⟨w.heap.size + 1 + 1, 0, none⟩, .slice ap np cp), (⟨w.heap.size + 1 + 1, 2, none⟩, .slice ai ni ci)] → Pr v S (.slice ap np cp) x.ps) := fun v hv => (HP.out.below HBU.out).below hv.bel
        have hlf : ((ni : Int) == 0) = decide (ni = 0) := by
          by_cases h : ni = 0
          · subst h; rfl
          · simp [h]
        generalize hLF : decide (ni = 0) = lf at *
        go_wp2_with fail
        generalize (((w.alloc (.cells #[.slice (some ⟨b, off, none⟩) nn cn] 25)).alloc (.cells #[.bool false, .slice none 0 0, .slice none 0 0] 74)).alloc (.cells #[.slice ap np cp, .slice ax nk cx, .slice ai ni ci] 106)) = U at *
        have k1 : (U.alloc (.cells #[] 35)).drew.heap[U.heap.size]? = some (.cells #[] 35 (0, 0)) := heap_alloc_new U _
        have k2 : ((U.alloc (.cells #[.bool false, .slice none 0 0, .slice none 0 0] 74)).alloc (.cells #[] 35)).drew.heap[U.heap.size + 1]? = some (.cells #[] 35 (0, 0)) := by
          have := heap_alloc_new (U.alloc (.cells #[.bool false, .slice none 0 0, .slice none 0 0] 74)) (.cells #[] 35)
          have e : (U.alloc (.cells #[.bool false, .slice none 0 0, .slice none 0 0] 74)).heap.size = U.heap.size + 1 := by simp
          rw [e] at this
          exact this
        have k3 : ((U.alloc (.cells #[] 35)).alloc (.cells #[.bool false, .slice none 0 0, .slice none 0 0] 74)).drew.heap[U.heap.size]? = some (.cells #[] 35 (0, 0)) := (Below.heap_alloc _ _ _ (by simp)).trans (heap_alloc_new U _)
        have k4 : Hid (((U.alloc (.cells #[] 35)).alloc (.cells #[.bool false, .slice none 0 0, .slice none 0 0] 74)).drew.heap[U.heap.size + 1]? = some (.cells #[.bool false, .slice none 0 0, .slice none 0 0] 74 (0, 0))) := by
          have := heap_alloc_new (U.alloc (.cells #[] 35)) (.cells #[.bool false, .slice none 0 0, .slice none 0 0] 74)
          have e : (U.alloc (.cells #[] 35)).heap.size = U.heap.size + 1 := by simp
          rw [e] at this
          exact this
        have k5 : Hid (((U.alloc (.cells #[.bool false, .slice none 0 0, .slice none 0 0] 74)).alloc (.cells #[] 35)).drew.heap[U.heap.size]? = some (.cells #[.bool false, .slice none 0 0, .slice none 0 0] 74 (0, 0))) := (Below.heap_alloc _ _ _ (by simp)).trans (heap_alloc_new U _)
        go_cut [10] (fun q v => ∃ (sb bs : Nat) (pv : Value), q = .pointer (some ⟨sb, 0, none⟩) ∧ Below U.heap.size U v ∧ U.heap.size ≤ sb ∧ sb < bs ∧ bs ≤ v.heap.size ∧ Bk v sb 74 [.bool lf, pv, .slice none 0 0] ∧ Pr v (fun y => U.heap.size ≤ y ∧ y < bs ∧ y ≠ sb) pv x.ps)
        case first =>
          go_region_held3 (fun v => v.cell? ⟨w.heap.size + 1 + 1, 0, none⟩ = some (.slice ap np cp) ∧ v.cell? ⟨w.heap.size + 1 + 1, 2, none⟩ = some (.slice ai ni ci) ∧ KC U v [(⟨w.heap.size + 1 + 1, 0, none⟩, .slice ap np cp), (⟨w.heap.size + 1 + 1, 2, none⟩, .slice ai ni ci)])
            (first | assumption | exact kc2 (T0.out.call (below_drew _)) | exact kc2c (below_new (Below.refl _ _)) (by assumption) | exact kc2g hg2 (by intro k e; cases e; simp) (by assumption) | exact kc2w (Nat.le_trans (by simp) hg2.size) (by assumption) | exact kc2s (by simp) (by assumption))
            (first
              | (refine step_clone rfl _ _ rfl U.heap.size _ rfl (by assumption) (by simp) S _ x.ps rfl (HSRC.out _ (And.right (And.right (by assumption)))) (Nat.le_trans HXL.out (by decide)) ?_; intro a2 n2 c2 w2 hO2 hg2 hat2 hc2 hf2))
          all_goals (go_wp2_with fail; go_meet; first
            | exact ⟨_, _, _, rfl, meet_new (W := (U.alloc (.cells #[] 35)).drew) ((below_new (Below.refl _ _)).drew) (by simp) hO2 hg2 (Nat.le_refl _)⟩
            | exact ⟨_, _, _, rfl, meet_set (W := ((U.alloc (.cells #[] 35)).alloc (.cells #[.bool false, .slice none 0 0, .slice none 0 0] 74)).drew) ((below_new (below_new (Below.refl _ _))).drew) (by simp; omega) hO2 hg2 (by simpa using hat2) k4.out (by omega) (by omega) (Nat.le_refl _)⟩
            | exact ⟨_, _, _, rfl, meet_set (W := ((U.alloc (.cells #[.bool false, .slice none 0 0, .slice none 0 0] 74)).alloc (.cells #[] 35)).drew) ((below_new (below_new (Below.refl _ _))).drew) (by simp; omega) hO2 hg2 (by simpa using hat2) k5.out (by omega) (Nat.le_refl _) (by omega)⟩)
        case rest =>
          rename_i q
          obtain ⟨sb, bs, pv, hq, hbel, hsb, hsb2, hbs, hBK, hPR⟩ := hcut
          subst hq
          obtain ⟨a3, c3, hpv, _⟩ := hPR.shape
          generalize hl3 : x.ps.length = n3 at hpv
          have HL3 := hid hl3
          clear hl3
          subst hpv
          have HZ' := HZ.out
          have HS0 : Hid (SpI w wc sb bs lf (.slice (some ⟨b, off, none⟩) nn cn) (.slice a3 n3 c3) x.ps [] (.slice none 0 0) (fun _ => false) (fun _ => .slice none 0 0) (fun _ => .slice none 0 0)) :=
            ⟨⟨by omega, hsb2⟩, hbs, KT.out.below hbel, KR.out.below hbel, hBK, Rw.mono hPR (fun y hy _ => ⟨by omega, hy.2⟩), World.ownsRow_nil _ _ _ _, fun i hi => by (simp at hi), HBU.out.trans (hbel.mono HBU.out.size)⟩
          have HNB := hid (KN.out.below hbel)
          have c2' := HNB.out.cell (j := 2) rfl
          clear hbel hsb hsb2 hbs hBK hPR c0 c2 T0 HSRC k1 k2 k3 k4 k5 KT KR KN HZ' hlf
          go_wp2_with fail
          go_loopw [11, 50] (fun y i wr => ∃ (ts : List T) (nx : Nat) (kv : Value) (L : Nat → Bool) (P K : Nat → Value), i = .int .i64 (ts.length : Int) ∧ y = .int .i64 (nx : Int) ∧ Hid (ts.length ≤ ni) ∧ Hid (SpI w wr sb bs lf (.slice (some ⟨b, off, none⟩) nn cn) (.slice a3 n3 c3) x.ps ts kv L P K) ∧ Hid (rdJ (rdS ns f) ts (x.kids.drop ts.length) nx = rdSL (rdS ns f) x.kids (p + 1))) (fun _ i _ => ni - (intOf i).toNat)
          case atStart => exact ⟨[], p + 1, _, _, _, _, rfl, by go_num, Nat.zero_le _, HS0.out, by show _ = _; rw [rdJ_nil]; rfl⟩
          case round =>
            obtain ⟨ts, nx, kv, L, P, K, rfl, rfl, HTL, HSP, HRD⟩ := hrel
            generalize hk : ts.length = k at *
            have HKL := hid hk
            clear hk
            have HBL := hid HSP.out.bel
            have r0 := HSP.out.res.cell (j := 0) rfl
            have r1 := HSP.out.res.cell (j := 1) rfl
            have r2 := HSP.out.res.cell (j := 2) rfl
            have q0 := HSP.out.res.free 0
            have q1 := HSP.out.res.free 1
            have q2 := HSP.out.res.free 2
            by_cases hlt : k < ni
            · have hlt' : (k : Int) < (ni : Int) := by omega
              obtain ⟨bi, offi, hai, _, _, hci⟩ := (HI.out.below HBL.out).at (by omega)
              subst hai
              have hck := hci k hlt
              have HKD : Hid (x.kids.drop k = iAt x.kids k :: x.kids.drop (k + 1)) := by
                show _ = _
                have hl : k < x.kids.length := by rw [← li.out]; exact hlt
                rw [List.drop_eq_getElem_cons hl]
                simp [iAt, hl]
              clear hci
              generalize hkd : iAt x.kids k = kd at hck HKD
              clear hkd
              by_cases hne : kd = (nx : Int)
              · have e1 : (kd != (nx : Int)) = false := by simp [hne]
                have HEQ := hid hne
                clear hne
                have t0 := HSP.out.tre.cell (j := 0) rfl
                have HNr := hid (HN.out.below HBL.out)
                have hw1 : IntKind.i64.wrap (d + 1) = d + 1 := by rw [IntKind.wrap_i64]; omega
                go_wp2_with fail
                refine (HIH.out (by omega) S (some ⟨b, off, none⟩) nn cn kd (d + 1) wr HNr.out (by have := HD.out; omega)).mono ?_
                rintro e w1 ⟨hpost, hb1⟩
                have HSP1 := hid (HSP.out.keep hb1)
                cases hr : rdS ns f kd with
                | none =>
                  rw [hr] at hpost
                  have he : e = .returned (.tuple #[.agg #[.bool false, .slice none 0 0, .slice none 0 0], .int .i64 0, .bool false]) := hpost
                  subst he
                  have HR : Hid (rdS ns (f + 1) (p : Int) = none) := by
                    show _ = _
                    have h1 := HRD.out
                    rw [HKD.out, rdJ_no _ _ _ _ _ (.inr hr)] at h1
                    rw [HR0.out, ← h1]
                  have HSP2 := hid (HSP1.out.keep (below_new (o := .cells #[.bool false, .slice none 0 0, .slice none 0 0] 74) (Below.refl _ _)))
                  clear hpost hb1 hr r0 r1 r2 q0 q1 q2 t0 HSP HSP1 HBL
                  have HBL := hid HSP2.out.bel
                  have r0 := HSP2.out.res.cell (j := 0) rfl
                  have r1 := HSP2.out.res.cell (j := 1) rfl
                  have r2 := HSP2.out.res.cell (j := 2) rfl
                  have q0 := HSP2.out.res.free 0
                  have q1 := HSP2.out.res.free 1
                  have q2 := HSP2.out.res.free 2
                  have HR' := HR
                  go_wp2
                  try simp only [Exit.inBlock, Exit.then]
                  refine bodyPost_ret (v := .tuple #[.agg #[.bool false, .slice none 0 0, .slice none 0 0], .int .i64 0, .bool false]) ?_ rfl ?_
                  · refine results_sub3 rfl _ _ _ rfl rfl rfl ?_ ?_ ?_
                    · go_simp
                    · go_simp
                    · go_simp
                  · exact ⟨by rw [HR.out]; rfl, ((HBL.out.setCell (by show w.heap.size ≤ w.heap.size + 1; omega) _).setCell (by show w.heap.size ≤ w.heap.size + 1; omega) _).setCell (by show w.heap.size ≤ w.heap.size + 1; omega) _⟩
                | some tn =>
                  obtain ⟨t, n1⟩ := tn
                  rw [hr] at hpost
                  obtain ⟨l1, ap1, np1, cp1, ak1, nk1, ck1, he, hsub⟩ := hpost
                  subst he
                  have HSP2 := hid (HSP1.out.keep (below_new (o := .cells #[.bool l1, .slice ap1 np1 cp1, .slice ak1 nk1 ck1] 74) (Below.refl _ _)))
                  have HSP3 := hid (HSP2.out.keep (below_new (o := .cells #[.bool l1, .slice ap1 np1 cp1, .slice ak1 nk1 ck1] 74) (Below.refl _ _)))
                  have HSB : Hid (Sub ((w1.alloc (.cells #[.bool l1, .slice ap1 np1 cp1, .slice ak1 nk1 ck1] 74)).alloc (.cells #[.bool l1, .slice ap1 np1 cp1, .slice ak1 nk1 ck1] 74)) (fun y => bs ≤ y ∧ y < ((w1.alloc (.cells #[.bool l1, .slice ap1 np1 cp1, .slice ak1 nk1 ck1] 74)).alloc (.cells #[.bool l1, .slice ap1 np1 cp1, .slice ak1 nk1 ck1] 74)).heap.size ∧ kv.ownBlock ≠ some y) l1 (.slice ap1 np1 cp1) (.slice ak1 nk1 ck1) t) := by
                    refine ((hsub.kept (below_new (Below.refl _ _))).kept (below_new (Below.refl _ _))).mono (fun y hy hlt => ⟨?_, hlt, fun e => ?_⟩)
                    · have := HSP.out.hi; have := hy.1; omega
                    · have := (World.ownsRow.lt HSP.out.row y e).2; have := hy.1; omega
                  have HBN : Hid (Bk ((w1.alloc (.cells #[.bool l1, .slice ap1 np1 cp1, .slice ak1 nk1 ck1] 74)).alloc (.cells #[.bool l1, .slice ap1 np1 cp1, .slice ak1 nk1 ck1] 74)) (w1.heap.size + 1) 74 [.bool l1, .slice ap1 np1 cp1, .slice ak1 nk1 ck1]) := by
                    have := Bk.new (w1.alloc (.cells #[.bool l1, .slice ap1 np1 cp1, .slice ak1 nk1 ck1] 74)) 74 [.bool l1, .slice ap1 np1 cp1, .slice ak1 nk1 ck1]
                    show Bk _ _ _ _
                    simpa using this
                  have HRD2 : Hid (rdJ (rdS ns f) (ts ++ [t]) (x.kids.drop (ts ++ [t]).length) n1 = rdSL (rdS ns f) x.kids (p + 1)) := by
                    show _ = _
                    rw [← HRD.out, HKD.out, rdJ_step _ _ _ _ _ _ _ HEQ.out hr, List.length_append, HKL.out]
                    rfl
                  have HTL2 : Hid ((ts ++ [t]).length = k + 1) := by show _ = _; rw [List.length_append, HKL.out]; rfl
                  obtain ⟨ak, ck, hkv⟩ := own_shape HSP3.out.row
                  rw [HKL.out] at hkv
                  subst hkv
                  have HOW : Hid (World.ownsRow ((w1.alloc (.cells #[.bool l1, .slice ap1 np1 cp1, .slice ak1 nk1 ck1] 74)).alloc (.cells #[.bool l1, .slice ap1 np1 cp1, .slice ak1 nk1 ck1] 74)) bs 74 3 (.slice ak k ck) k (ncs (mkV L P K k))) := by
                    have := HSP3.out.row
                    rw [HKL.out] at this
                    exact this
                  have hki : k ≤ 1048576 := by omega
                  have s2 := HSP2.out.sub.cell (j := 2) rfl
                  have HHI := hid HSP3.out.hi
                  clear hb1 hr r0 r1 r2 q0 q1 q2 t0 HSP HSP1 HSP2 HBL hsub HRD
                  go_wp2_with (at_builtin; refine wpList_append_sub rfl _ _ rfl bs _ k (mkV L P K k) rfl HOW.out (w1.heap.size + 1) l1 ap1 np1 cp1 ak1 nk1 ck1 rfl HBN.out hki HHI.out ?_)
                  intro v4 w4 hO4 hg4 ha4
                  obtain ⟨a4, c4, hv4⟩ := own_shape hO4
                  subst hv4
                  have HSP4 := hid (HSP3.out.push HSB.out (by rw [HKL.out]; exact hO4) hg4 (by simpa using ha4))
                  have K4 := HSP3.out.sub.to (only_of_grown (R := fun y => bs ≤ y) hg4 (fun y e => (World.ownsRow.lt HSP3.out.row y e).1)) (by have := HSP3.out.lo; omega)
                  have s4 := K4.cell (j := 2) rfl
                  have f4 := K4.free 2
                  clear hO4 hg4 ha4 K4 HOW HBN HSB HSP3 s2 HHI
                  go_wp2
                  go_roundw
                  case rel => exact ⟨ts ++ [t], n1, _, _, _, _, by rw [HTL2.out]; go_num, rfl, by show _ ≤ _; rw [HTL2.out]; omega, HSP4.out, HRD2.out⟩
                  case measure => simp [intOf]; omega
              · have e1 : (kd != (nx : Int)) = true := by simp [hne]
                have HR : Hid (rdS ns (f + 1) (p : Int) = none) := by
                  show _ = _
                  have h1 := HRD.out
                  rw [HKD.out, rdJ_no _ _ _ _ _ (.inl hne)] at h1
                  rw [HR0.out, ← h1]
                clear hne
                go_wp2
                try simp only [Exit.inBlock, Exit.then]
                refine bodyPost_ret (v := .tuple #[.agg #[.bool false, .slice none 0 0, .slice none 0 0], .int .i64 0, .bool false]) ?_ rfl ?_
                · refine results_sub3 rfl _ _ _ rfl rfl rfl ?_ ?_ ?_
                  · go_simp
                  · go_simp
                  · go_simp
                · exact ⟨by rw [HR.out]; rfl, ((HBL.out.setCell (by show w.heap.size ≤ w.heap.size + 1; omega) _).setCell (by show w.heap.size ≤ w.heap.size + 1; omega) _).setCell (by show w.heap.size ≤ w.heap.size + 1; omega) _⟩
            · have hk' : k = ni := by have := HTL.out; omega
              have HR : Hid (rdS ns (f + 1) (p : Int) = some (.mk x.ps ts, nx)) := by
                show _ = _
                have h1 := HRD.out
                rw [hk', li.out, List.drop_length, rdJ_end] at h1
                rw [HR0.out, ← h1]
              obtain ⟨ak, ck, hkv⟩ := own_shape HSP.out.row
              rw [HKL.out] at hkv
              subst hkv
              have HDN := hid (HSP.out.done (by rw [HKL.out, hk', hLF]))
              have s0 := HSP.out.sub.cell (j := 0) rfl
              have s1 := HSP.out.sub.cell (j := 1) rfl
              have s2 := HSP.out.sub.cell (j := 2) rfl
              have HWL : Hid (w.heap.size + 1 < wr.heap.size) := HSP.out.res.lt
              clear hk' HSP HRD hLF
              go_wp2
              try simp only [Exit.inBlock, Exit.then]
              refine bodyPost_ret (v := .tuple #[.agg #[.bool lf, .slice a3 n3 c3, .slice ak k ck], .int .i64 nx, .bool true]) ?_ rfl ?_
              · refine results_sub3 rfl _ _ _ rfl rfl rfl ?_ ?_ ?_
                · go_simp
                · go_simp
                · go_simp
              · refine ⟨?_, ((HBL.out.setCell (by show w.heap.size ≤ w.heap.size + 1; omega) _).setCell (by show w.heap.size ≤ w.heap.size + 1; omega) _).setCell (by show w.heap.size ≤ w.heap.size + 1; omega) _⟩
                rw [HR.out]
                refine ⟨lf, a3, n3, c3, ak, k, ck, rfl, ?_⟩
                have o : Only (fun y => y = w.heap.size + 1) wr (((wr.setCell ⟨w.heap.size + 1, 0, none⟩ (.bool lf)).setCell ⟨w.heap.size + 1, 1, none⟩ (.slice a3 n3 c3)).setCell ⟨w.heap.size + 1, 2, none⟩ (.slice ak k ck)) := ((only_set (R := fun y => y = w.heap.size + 1) rfl _).trans (only_set (R := fun y => y = w.heap.size + 1) rfl _)).trans (only_set (R := fun y => y = w.heap.size + 1) rfl _)
                exact (HDN.out.to o (fun y hy _ e => hy.2 e)).mono (fun y hy hlt => ⟨hy.1.1, hlt⟩)
end Go.Proofs.Ytkflneeifllpgaa
/-
  l03Root of the specification.
-/
namespace Go.Proofs.Ytkflneeifllpgaa
open Go.RowKit
theorem results_sub2 {fn : Func} {p u : Tmp} (h : fn.results = #[.cell p 74, .tmp u]) (tmps : Array Value) (w : World) (g : Nat) {x y z b : Value} (hp : tmps.getD p undef = .pointer (some ⟨g, 0, none⟩)) (hb : tmps.getD u undef = b)
    (c0 : w.cell? ⟨g, 0, none⟩ = some x) (c1 : w.cell? ⟨g, 1, none⟩ = some y) (c2 : w.cell? ⟨g, 2, none⟩ = some z) : (results fn tmps).run Try.prog w = .ok (.tuple #[.agg #[x, y, z], b]) w := by
  have hp' : tmps[p]?.getD undef = .pointer (some ⟨g, 0, none⟩) := by simpa using hp
  have hb' : tmps[u]?.getD undef = b := by simpa using hb
  simp [results, h, hp', hb', asAddr, load_sub c0 c1 c2]
theorem take_no {P : Program} {md : Region.Mode} {ops : Array Oper} {Q : Exit → Act → World → Prop} {S : World → Prop} {i : Nat} {oi : Oper} {fuel : Nat} {listed : Array Bool} {a : Act} {w : World} (hi : ops[i]? = some oi)
    (hs : Region.noSelect ops = true) (hf : Region.free md ops listed i = true) (hr : (Region.ready md ops listed).contains i = true)
    (hQ : ∀ c a w, Q (.panic c) (a.put oi.dst undef) w → Q (.panic c) a w) (hw : Region.wanted oi (yielded ops a.tmps) = false) (hS : S w)
    (h : wpAnyH P md ops Q S fuel (listed.setIfInBounds i true) (a.put oi.dst undef) w) : wpAnyH P md ops Q S (fuel + 1) listed a w :=
  wpAnyH_take hi hs hf hr hQ (Or.inr ⟨hw, rfl⟩) hS h
/-- What l03Root reads: the sub, where the nodes stand in the walk's order. -/
def rootS (ns : List NB) : Option T := if ns.length = 0 then some (.mk [] []) else match rdS ns 13 0 with
  | none => none
  | some (t, n) => if n = ns.length then some t else none
/-- What comes of l03Root. -/
def RootPost (o : Option T) (w : World) (e : Ending) (w' : World) : Prop := match o with
  | none => ∃ lf ap np cp ak nk ck, e = .returned (.tuple #[.agg #[.bool lf, .slice ap np cp, .slice ak nk ck], .bool false])
  | some t => ∃ lf ap np cp ak nk ck, e = .returned (.tuple #[.agg #[.bool lf, .slice ap np cp, .slice ak nk ck], .bool true]) ∧ Sub w' (fun y => w.heap.size ≤ y ∧ y < w'.heap.size) lf (.slice ap np cp) (.slice ak nk ck) t
set_option maxHeartbeats 4000000 in
theorem specRoot_any (ns : List NB) (hlen : ns.length ≤ 1048576) (hsm : smallN ns) (S : Nat → Prop) (an : Option Addr) (nn cn : Nat) (w : World) (hN : Nr w S (.slice an nn cn) ns) :
    Calls Try.prog 41 #[.agg #[.slice an nn cn]] w fun e w' => RootPost (rootS ns) w e w' ∧ Below w.heap.size w w' := by
  have hnn := hid hN.len.1
  have hnn2 := hN.len.2.1
  have hnn3 := hN.len.2.2
  have HN := hid hN
  clear hN
  by_cases h0 : nn = 0
  · have HR : Hid (rootS ns = some (.mk [] [])) := by show _ = _; rw [rootS, if_pos]; rw [← hnn.out]; exact h0
    clear HN hnn
    subst h0
    go_enter Try.func41, Try.ntmps41
    go_wp2
    try simp only [Exit.inBlock, Exit.then]
    refine bodyPost_ret (v := .tuple #[.agg #[.bool true, .slice none 0 0, .slice none 0 0], .bool true]) ?_ rfl ?_
    · refine results_sub2 rfl _ _ _ rfl rfl ?_ ?_ ?_
      · go_simp
      · go_simp
      · go_simp
    · refine ⟨?_, below_new (below_new (Below.refl _ _))⟩
      rw [HR.out]
      exact ⟨true, none, 0, 0, none, 0, 0, rfl, .mk true _ _ [] [] (fun _ => false) (fun _ => .slice none 0 0) (fun _ => .slice none 0 0) rfl (rw_nil _ _) (rw_nil _ _) (fun i hi => by simp at hi)⟩
  · have e1 : ((nn : Int) == 0) = false := by simp; omega
    have HRS : Hid (rootS ns = match rdS ns 13 0 with
        | none => none
        | some (t, n) => if n = ns.length then some t else none) := by show _ = _; rw [rootS, if_neg]; rw [← hnn.out]; exact h0
    have HB0 : Hid (Below w.heap.size w ((w.alloc (.cells #[.slice an nn cn] 25)).alloc (.cells #[.bool false, .slice none 0 0, .slice none 0 0] 74))) := below_new (below_new (Below.refl _ _))
    have KT : Hid (Bk ((w.alloc (.cells #[.slice an nn cn] 25)).alloc (.cells #[.bool false, .slice none 0 0, .slice none 0 0] 74)) w.heap.size 25 [.slice an nn cn]) := (Bk.new w 25 [.slice an nn cn]).alloc _
    have KR : Hid (Bk ((w.alloc (.cells #[.slice an nn cn] 25)).alloc (.cells #[.bool false, .slice none 0 0, .slice none 0 0] 74)) (w.heap.size + 1) 74 [.bool false, .slice none 0 0, .slice none 0 0]) := by
      have := Bk.new (w.alloc (.cells #[.slice an nn cn] 25)) 74 [.bool false, .slice none 0 0, .slice none 0 0]
      show Bk _ _ _ _
      simpa using this
    have HZ : Hid (((w.alloc (.cells #[.slice an nn cn] 25)).alloc (.cells #[.bool false, .slice none 0 0, .slice none 0 0] 74)).heap.size = w.heap.size + 2) := by show _ = _; simp
    clear h0
    go_enter Try.func41, Try.ntmps41
    go_wp2_with fail
    refine (specRead_any ns hlen hsm 13 (Nat.le_refl _) S an nn cn 0 0 _ (HN.out.below HB0.out) (by omega)).mono ?_
    generalize (w.alloc (.cells #[.slice an nn cn] 25)).alloc (.cells #[.bool false, .slice none 0 0, .slice none 0 0] 74) = U at *
    rintro e w1 ⟨hpost, hb1⟩
    have HB1 := hid (HB0.out.trans (hb1.mono HB0.out.size))
    have KT1 := hid (KT.out.below hb1)
    have KR1 := hid (KR.out.below hb1)
    have HU := hid hb1.size
    cases hr : rdS ns 13 0 with
    | none =>
      rw [hr] at hpost HRS
      have he : e = .returned (.tuple #[.agg #[.bool false, .slice none 0 0, .slice none 0 0], .int .i64 0, .bool false]) := hpost
      subst he
      have KT2 := hid (KT1.out.alloc (.cells #[.bool false, .slice none 0 0, .slice none 0 0] 74))
      have KR2 := hid (KR1.out.alloc (.cells #[.bool false, .slice none 0 0, .slice none 0 0] 74))
      have t0 := KT2.out.cell (j := 0) rfl
      have r0 := KR2.out.cell (j := 0) rfl
      have r1 := KR2.out.cell (j := 1) rfl
      have r2 := KR2.out.cell (j := 2) rfl
      have q0 := KR2.out.free 0
      have q1 := KR2.out.free 1
      have q2 := KR2.out.free 2
      clear hpost hb1 KT KR KT1 KR1 HB0
      have d0 := (Bk.new w1 74 [.bool false, .slice none 0 0, .slice none 0 0]).cell (j := 0) rfl
      have d1 := (Bk.new w1 74 [.bool false, .slice none 0 0, .slice none 0 0]).cell (j := 1) rfl
      have d2 := (Bk.new w1 74 [.bool false, .slice none 0 0, .slice none 0 0]).cell (j := 2) rfl
      have HB2 := hid ((HB1.out.alloc HB1.out.size (.cells #[.bool false, .slice none 0 0, .slice none 0 0] 74)).drew)
      have hne1 : ¬ w1.heap.size = w.heap.size + 1 := by have := HU.out; have := HZ.out; omega
      have hne2 : ¬ w.heap.size = w.heap.size + 1 := by omega
      clear hr
      go_wp2_with fail
      generalize w1.alloc (.cells #[.bool false, .slice none 0 0, .slice none 0 0] 74) = u at *
      have T0 : Hid (KO (fun y => y = w.heap.size + 1) u u [(⟨w1.heap.size, 0, none⟩, .bool false), (⟨w1.heap.size, 1, none⟩, .slice none 0 0), (⟨w1.heap.size, 2, none⟩, .slice none 0 0), (⟨w.heap.size, 0, none⟩, .slice an nn cn)]) := ⟨fun p hp => by simp at hp; rcases hp with rfl | rfl | rfl | rfl <;> exact ⟨by assumption, by assumption⟩, Only.refl _ _⟩
      refine wp_region_noPanic ?_
      refine wp_region_held_drew (S := (fun z => z.cell? ⟨w1.heap.size, 0, none⟩ = some (.bool false) ∧ z.cell? ⟨w1.heap.size, 1, none⟩ = some (.slice none 0 0) ∧ z.cell? ⟨w1.heap.size, 2, none⟩ = some (.slice none 0 0) ∧ z.cell? ⟨w.heap.size, 0, none⟩ = some (.slice an nn cn) ∧ KO (fun y => y = w.heap.size + 1) u z [(⟨w1.heap.size, 0, none⟩, .bool false), (⟨w1.heap.size, 1, none⟩, .slice none 0 0), (⟨w1.heap.size, 2, none⟩, .slice none 0 0), (⟨w.heap.size, 0, none⟩, .slice an nn cn)])) (by kernel_rfl) ?_ (fun hHeld => ?_)
      · exact ko4 ⟨T0.out.cells, only_drew _ _ 1⟩
      simp only [List.size_toArray, List.length_cons, List.length_nil, Array.replicate_succ, Array.replicate_zero, Nat.reduceAdd, List.push_toArray, List.nil_append, List.cons_append]
      refine wpAnyH_take (i := 0) (v := .agg #[.bool false, .slice none 0 0, .slice none 0 0]) rfl (by kernel_rfl) (by kernel_rfl) (by kernel_rfl) (fun _ _ _ h => h) (Or.inl ⟨by rfl, ?_⟩) (by assumption) ?_
      · intro w hSw
        obtain ⟨g1', g2', g3', g4', _⟩ := hSw
        go_simp
      try simp only [List.getElem_toArray]
      try simp only [List.getElem_cons_succ]
      try simp only [List.getElem_cons_zero]
      try simp only [Act.put]
      try simp only [List.setIfInBounds_toArray]
      try simp only [List.set_cons_succ]
      try simp only [List.set_cons_zero]
      refine wpAnyH_take (i := 1) (v := .bool false) rfl (by kernel_rfl) (by kernel_rfl) (by kernel_rfl) (fun _ _ _ h => h) (Or.inl ⟨by rfl, ?_⟩) (by assumption) ?_
      · intro w hSw
        obtain ⟨g1', g2', g3', g4', _⟩ := hSw
        go_simp
      try simp only [List.getElem_toArray]
      try simp only [List.getElem_cons_succ]
      try simp only [List.getElem_cons_zero]
      try simp only [Act.put]
      try simp only [List.setIfInBounds_toArray]
      try simp only [List.set_cons_succ]
      try simp only [List.set_cons_zero]
      refine wpAnyH_take (i := 2) (v := .bool false) rfl (by kernel_rfl) (by kernel_rfl) (by kernel_rfl) (fun _ _ _ h => h) (Or.inl ⟨by rfl, ?_⟩) (by assumption) ?_
      · intro w hSw
        obtain ⟨g1', g2', g3', g4', _⟩ := hSw
        go_simp
      try simp only [List.getElem_toArray]
      try simp only [List.getElem_cons_succ]
      try simp only [List.getElem_cons_zero]
      try simp only [Act.put]
      try simp only [List.setIfInBounds_toArray]
      try simp only [List.set_cons_succ]
      try simp only [List.set_cons_zero]
      refine take_no (i := 3) rfl (by kernel_rfl) (by kernel_rfl) (by kernel_rfl) (fun _ _ _ h => h) (by rfl) (by assumption) ?_
      try simp only [List.getElem_toArray]
      try simp only [List.getElem_cons_succ]
      try simp only [List.getElem_cons_zero]
      try simp only [Act.put]
      try simp only [List.setIfInBounds_toArray]
      try simp only [List.set_cons_succ]
      try simp only [List.set_cons_zero]
      refine take_no (i := 4) rfl (by kernel_rfl) (by kernel_rfl) (by kernel_rfl) (fun _ _ _ h => h) (by rfl) (by assumption) ?_
      try simp only [List.getElem_toArray]
      try simp only [List.getElem_cons_succ]
      try simp only [List.getElem_cons_zero]
      try simp only [Act.put]
      try simp only [List.setIfInBounds_toArray]
      try simp only [List.set_cons_succ]
      try simp only [List.set_cons_zero]
      refine take_no (i := 5) rfl (by kernel_rfl) (by kernel_rfl) (by kernel_rfl) (fun _ _ _ h => h) (by rfl) (by assumption) ?_
      try simp only [List.getElem_toArray]
      try simp only [List.getElem_cons_succ]
      try simp only [List.getElem_cons_zero]
      try simp only [Act.put]
      try simp only [List.setIfInBounds_toArray]
      try simp only [List.set_cons_succ]
      try simp only [List.set_cons_zero]
      refine take_no (i := 6) rfl (by kernel_rfl) (by kernel_rfl) (by kernel_rfl) (fun _ _ _ h => h) (by rfl) (by assumption) ?_
      try simp only [List.getElem_toArray]
      try simp only [List.getElem_cons_succ]
      try simp only [List.getElem_cons_zero]
      try simp only [Act.put]
      try simp only [List.setIfInBounds_toArray]
      try simp only [List.set_cons_succ]
      try simp only [List.set_cons_zero]
      refine take_no (i := 7) rfl (by kernel_rfl) (by kernel_rfl) (by kernel_rfl) (fun _ _ _ h => h) (by rfl) (by assumption) ?_
      try simp only [List.getElem_toArray]
      try simp only [List.getElem_cons_succ]
      try simp only [List.getElem_cons_zero]
      try simp only [Act.put]
      try simp only [List.setIfInBounds_toArray]
      try simp only [List.set_cons_succ]
      try simp only [List.set_cons_zero]
      refine wpAnyH_take (i := 8) (v := .bool false) rfl (by kernel_rfl) (by kernel_rfl) (by kernel_rfl) (fun _ _ _ h => h) (Or.inl ⟨by rfl, ?_⟩) (by assumption) ?_
      · intro w hSw
        obtain ⟨g1', g2', g3', g4', _⟩ := hSw
        go_simp
      try simp only [List.getElem_toArray]
      try simp only [List.getElem_cons_succ]
      try simp only [List.getElem_cons_zero]
      try simp only [Act.put]
      try simp only [List.setIfInBounds_toArray]
      try simp only [List.set_cons_succ]
      try simp only [List.set_cons_zero]
      refine wpAnyH_ready (rs := [9]) (by kernel_rfl) (by simp) ?_
      refine AllReadyH.cons rfl (fun K1 hK => ?_) AllReadyH.nil
      go_simp
      try go_wp2_with fail
      refine hK.out _ _ ?_ (fun hHeld => ?_)
      · first | assumption | exact ko4 ⟨T0.out.cells, only_drew _ _ 1⟩ | exact ko4o ((only_set (R := fun y => y = w.heap.size + 1) rfl _).trans ((only_set (R := fun y => y = w.heap.size + 1) rfl _).trans (only_set (R := fun y => y = w.heap.size + 1) rfl _))) (by assumption)
      clear hK K1
      try simp only [List.getElem_toArray]
      try simp only [List.getElem_cons_succ]
      try simp only [List.getElem_cons_zero]
      try simp only [Act.put]
      try simp only [List.setIfInBounds_toArray]
      try simp only [List.set_cons_succ]
      try simp only [List.set_cons_zero]
      refine wpAnyH_ready (rs := [10]) (by kernel_rfl) (by simp) ?_
      refine AllReadyH.cons rfl (fun K1 hK => ?_) AllReadyH.nil
      go_simp
      try go_wp2_with fail
      refine hK.out _ _ ?_ (fun hHeld => ?_)
      · first | assumption | exact ko4 ⟨T0.out.cells, only_drew _ _ 1⟩ | exact ko4o ((only_set (R := fun y => y = w.heap.size + 1) rfl _).trans ((only_set (R := fun y => y = w.heap.size + 1) rfl _).trans (only_set (R := fun y => y = w.heap.size + 1) rfl _))) (by assumption)
      clear hK K1
      try simp only [List.getElem_toArray]
      try simp only [List.getElem_cons_succ]
      try simp only [List.getElem_cons_zero]
      try simp only [Act.put]
      try simp only [List.setIfInBounds_toArray]
      try simp only [List.set_cons_succ]
      try simp only [List.set_cons_zero]
      refine wpAnyH_done (by kernel_rfl) ?_ _
      refine NoPanic.normal ?_
      go_wp2
      try simp only [Exit.inBlock, Exit.then]
      refine bodyPost_ret (v := .tuple #[.agg #[.bool false, .slice none 0 0, .slice none 0 0], .bool false]) ?_ rfl ?_
      · refine results_sub2 rfl _ _ _ rfl rfl ?_ ?_ ?_
        · go_simp
        · go_simp
        · go_simp
      · refine ⟨?_, (((HB2.out.setCell (by show w.heap.size ≤ w.heap.size + 1; omega) _).setCell (by show w.heap.size ≤ w.heap.size + 1; omega) _).setCell (by show w.heap.size ≤ w.heap.size + 1; omega) _)⟩
        rw [HRS.out]
        exact ⟨_, _, _, _, _, _, _, rfl⟩
    | some tn =>
      obtain ⟨t, n⟩ := tn
      rw [hr] at hpost HRS
      obtain ⟨lf, ap, np, cp, ak, nk, ck, he, hsub⟩ := hpost
      subst he
      have KT2 := hid (KT1.out.alloc (.cells #[.bool lf, .slice ap np cp, .slice ak nk ck] 74))
      have KR2 := hid (KR1.out.alloc (.cells #[.bool lf, .slice ap np cp, .slice ak nk ck] 74))
      have t0 := KT2.out.cell (j := 0) rfl
      have r0 := KR2.out.cell (j := 0) rfl
      have r1 := KR2.out.cell (j := 1) rfl
      have r2 := KR2.out.cell (j := 2) rfl
      have q0 := KR2.out.free 0
      have q1 := KR2.out.free 1
      have q2 := KR2.out.free 2
      have d0 := (Bk.new w1 74 [.bool lf, .slice ap np cp, .slice ak nk ck]).cell (j := 0) rfl
      have d1 := (Bk.new w1 74 [.bool lf, .slice ap np cp, .slice ak nk ck]).cell (j := 1) rfl
      have d2 := (Bk.new w1 74 [.bool lf, .slice ap np cp, .slice ak nk ck]).cell (j := 2) rfl
      have HB2 := hid ((HB1.out.alloc HB1.out.size (.cells #[.bool lf, .slice ap np cp, .slice ak nk ck] 74)).drew)
      have HSB : Hid (Sub (w1.alloc (.cells #[.bool lf, .slice ap np cp, .slice ak nk ck] 74)).drew (fun y => w.heap.size + 2 ≤ y) lf (.slice ap np cp) (.slice ak nk ck) t) := ((hsub.kept (below_new (Below.refl _ _))).kept (below_drew _)).mono (fun y hy _ => by have := HZ.out; have := hy.1; omega)
      have hne1 : ¬ w1.heap.size = w.heap.size + 1 := by have := HU.out; have := HZ.out; omega
      have hne2 : ¬ w.heap.size = w.heap.size + 1 := by omega
      have HFIN : Hid (∀ b : Bool, b = decide (n = ns.length) → ∀ e w', e = .returned (.tuple #[.agg #[.bool lf, .slice ap np cp, .slice ak nk ck], .bool b]) → Sub w' (fun y => w.heap.size ≤ y ∧ y < w'.heap.size) lf (.slice ap np cp) (.slice ak nk ck) t → RootPost (rootS ns) w e w') := by
        rintro b rfl e w' rfl hs
        rw [HRS.out]
        simp only
        by_cases hn : n = ns.length
        · rw [if_pos hn, decide_eq_true hn]; exact ⟨lf, ap, np, cp, ak, nk, ck, rfl, hs⟩
        · rw [if_neg hn, decide_eq_false hn]; exact ⟨lf, ap, np, cp, ak, nk, ck, rfl⟩
      clear hb1 hr KT KR KT1 KR1 HB0 hsub HRS
      go_wp2_with fail
      generalize w1.alloc (.cells #[.bool lf, .slice ap np cp, .slice ak nk ck] 74) = u at *
      have T0 : Hid (KO (fun y => y = w.heap.size + 1) u u [(⟨w1.heap.size, 0, none⟩, .bool lf), (⟨w1.heap.size, 1, none⟩, .slice ap np cp), (⟨w1.heap.size, 2, none⟩, .slice ak nk ck), (⟨w.heap.size, 0, none⟩, .slice an nn cn)]) := ⟨fun p hp => by simp at hp; rcases hp with rfl | rfl | rfl | rfl <;> exact ⟨by assumption, by assumption⟩, Only.refl _ _⟩
      go_region_held3 (fun z => z.cell? ⟨w1.heap.size, 0, none⟩ = some (.bool lf) ∧ z.cell? ⟨w1.heap.size, 1, none⟩ = some (.slice ap np cp) ∧ z.cell? ⟨w1.heap.size, 2, none⟩ = some (.slice ak nk ck) ∧ z.cell? ⟨w.heap.size, 0, none⟩ = some (.slice an nn cn) ∧ KO (fun y => y = w.heap.size + 1) u z [(⟨w1.heap.size, 0, none⟩, .bool lf), (⟨w1.heap.size, 1, none⟩, .slice ap np cp), (⟨w1.heap.size, 2, none⟩, .slice ak nk ck), (⟨w.heap.size, 0, none⟩, .slice an nn cn)]) (first | assumption | exact ko4 ⟨T0.out.cells, only_drew _ _ 1⟩ | exact ko4o ((only_set (R := fun y => y = w.heap.size + 1) rfl _).trans ((only_set (R := fun y => y = w.heap.size + 1) rfl _).trans (only_set (R := fun y => y = w.heap.size + 1) rfl _))) (by assumption)) (first | fail)
      all_goals
        have hbeq : ((n : Int) == (nn : Int)) = decide (n = ns.length) := by
          rw [← hnn.out]
          by_cases h : n = nn
          · rw [decide_eq_true h, h]; simp
          · rw [decide_eq_false h]; simp; omega
        go_wp2
        try simp only [Exit.inBlock, Exit.then]
        refine bodyPost_ret (v := .tuple #[.agg #[.bool lf, .slice ap np cp, .slice ak nk ck], .bool (decide (n = ns.length))]) ?_ rfl ?_
        · refine results_sub2 rfl _ _ _ rfl ?_ ?_ ?_ ?_
          · show Value.bool ((n : Int) == (nn : Int)) = _
            rw [hbeq]
          · go_simp
          · go_simp
          · go_simp
        · refine ⟨HFIN.out _ rfl _ _ rfl ?_, (((HB2.out.setCell (by show w.heap.size ≤ w.heap.size + 1; omega) _).setCell (by show w.heap.size ≤ w.heap.size + 1; omega) _).setCell (by show w.heap.size ≤ w.heap.size + 1; omega) _)⟩
          have o : Only (fun y => y = w.heap.size + 1) u.drew (((u.drew.setCell ⟨w.heap.size + 1, 0, none⟩ (.bool lf)).setCell ⟨w.heap.size + 1, 1, none⟩ (.slice ap np cp)).setCell ⟨w.heap.size + 1, 2, none⟩ (.slice ak nk ck)) := ((only_set (R := fun y => y = w.heap.size + 1) rfl _).trans (only_set (R := fun y => y = w.heap.size + 1) rfl _)).trans (only_set (R := fun y => y = w.heap.size + 1) rfl _)
          exact (HSB.out.to o (fun y hy _ e => by omega)).mono (fun y hy hlt => ⟨by omega, hlt⟩)
end Go.Proofs.Ytkflneeifllpgaa
/-
  l03Lay of the specification: the nodes of a sub in the walk's order, behind others.
-/
namespace Go.Proofs.Ytkflneeifllpgaa
open Go.RowKit
/-- What comes of laying. -/
def LayPost (w : World) (F : Nat → Prop) (v : Value) (ms : List NB) (e : Ending) (w' : World) : Prop :=
  ∃ v', e = .returned v' ∧ NO w' (fun y => F y ∨ (w.heap.size ≤ y ∧ y < w'.heap.size ∧ v'.ownBlock ≠ some y)) v' ms ∧ Only (fun y => v.ownBlock = some y) w w' ∧ ∀ y, v'.ownBlock = some y → v.ownBlock = some y ∨ w.heap.size ≤ y
set_option maxHeartbeats 8000000 in
set_option maxRecDepth 20000 in
theorem specLay_any (t : T) : ∀ (S : Nat → Prop) (lf : Bool) (ap ak : Option Addr) (np cp nk ck : Nat) (w : World) (F : Nat → Prop) (av : Option Addr) (nv cv : Nat) (ns : List NB) (r : Bool), Sub w S lf (.slice ap np cp) (.slice ak nk ck) t → (∀ y, S y → (Value.slice av nv cv).ownBlock ≠ some y) →
    NO w F (.slice av nv cv) ns → ns.length + t.size ≤ 1048576 → t.full r = true →
    Calls Try.prog 82 #[.slice av nv cv, .agg #[.bool lf, .slice ap np cp, .slice ak nk ck]] w fun e w' => LayPost w F (.slice av nv cv) (ns ++ lay ns.length t) e w' := by
  induction t using T.ind
  rename_i ps ks ih
  intro S lf ap ak np cp nk ck w F av nv cv ns r h hSv hN hsz hfu
  obtain ⟨ap', np', cp', ak', nk', ck', e1, e2, HNP, HNK, b1, b2, hlf, hP⟩ := h.shape
  cases e1
  cases e2
  obtain ⟨av', nv', cv', e3, HNV⟩ := hN.shape
  cases e3
  have H0 := hid h
  have HP := hid hP
  have HIH := hid ih
  have HSV := hid hSv
  have HN := hid hN
  have HSZ := hid hsz
  have HFU := hid hfu
  simp only [T.ks, T.ps] at HNK HNP HP
  have hnl : nv ≤ 1048576 := by have := HNV.out; have := HSZ.out; omega
  have HLF := hid hlf
  clear h ih hP hSv hN hsz hfu hlf
  have HB0 : Hid (Below w.heap.size w ((w.alloc (.cells #[.bool lf, .slice ap np cp, .slice ak nk ck] 74)).alloc (.cells #[.slice none 0 0, .slice none 0 0, .slice none 0 0] 106))) := below_new (below_new (Below.refl _ _))
  have KP : Hid (Bk ((w.alloc (.cells #[.bool lf, .slice ap np cp, .slice ak nk ck] 74)).alloc (.cells #[.slice none 0 0, .slice none 0 0, .slice none 0 0] 106)) w.heap.size 74 [.bool lf, .slice ap np cp, .slice ak nk ck]) := (Bk.new w 74 [.bool lf, .slice ap np cp, .slice ak nk ck]).alloc _
  have KZ : Hid (Bk ((w.alloc (.cells #[.bool lf, .slice ap np cp, .slice ak nk ck] 74)).alloc (.cells #[.slice none 0 0, .slice none 0 0, .slice none 0 0] 106)) (w.heap.size + 1) 106 [.slice none 0 0, .slice none 0 0, .slice none 0 0]) := by
    have := Bk.new (w.alloc (.cells #[.bool lf, .slice ap np cp, .slice ak nk ck] 74)) 106 [.slice none 0 0, .slice none 0 0, .slice none 0 0]
    show Bk _ _ _ _
    simpa using this
  have HN0 := hid (HN.out.kept HB0.out)
  have HVW := hid HN.out.lt
  go_enter Try.func82, Try.ntmps82
  go_wp2_with (at_builtin; refine wpList_append_zero rfl _ _ rfl F _ ns rfl HN0.out (w.heap.size + 1) rfl KZ.out ?q1 ?_)
  case q1 => have := HSZ.out; omega
  intro g1 n1 c1 w1 hN1 HN1L hg1 ha1
  have HO1 : Hid (Only (fun y => (Value.slice av nv cv).ownBlock = some y) w w1) := (only_of_below HB0.out _).trans (only_of_grown hg1 (fun k e => e))
  have HV1 : Hid (∀ y, (Value.slice (some ⟨g1, 0, none⟩) n1 c1).ownBlock = some y → (Value.slice av nv cv).ownBlock = some y ∨ w.heap.size + 2 ≤ y) := by
    intro y e
    rcases ha1 with ha | ha
    · exact .inl (ha ▸ e)
    · rw [ha] at e; cases e; right; simp
  have KP1 : Hid (Bk w1 w.heap.size 74 [.bool lf, .slice ap np cp, .slice ak nk ck]) := KP.out.to (only_of_grown (R := fun y => y < w.heap.size) hg1 (fun y e => HVW.out y e)) (by omega)
  have HN1 := hid hN1
  have HWS : Hid (w.heap.size + 2 ≤ w1.heap.size) := by have := hg1.size; simp at this; exact this
  have HSW : Hid (Sub w1 S lf (.slice ap np cp) (.slice ak nk ck) (.mk ps ks)) := H0.out.to HO1.out (fun y hy _ e => HSV.out y hy e)
  have HPW : Hid (Pr w1 S (.slice ap np cp) ps) := HP.out.to HO1.out (fun y hy _ e => HSV.out y hy e)
  have p0 := KP1.out.cell (j := 0) rfl
  have p1 := KP1.out.cell (j := 1) rfl
  have p2 := KP1.out.cell (j := 2) rfl
  have HSUB : Hid (Sub w (fun y => S y ∧ y < w.heap.size) lf (.slice ap np cp) (.slice ak nk ck) (.mk ps ks)) := H0.out.mono (fun y hy h => ⟨hy, h⟩)
  clear hN1 hg1 ha1 KP KZ HN0 HB0 H0 HP
  have hn1 : Hid (n1 = nv + 1) := by show _ = _; rw [HN1L.out, HNV.out]
  have hlt1 : (nv : Int) < (n1 : Int) := by have := hn1.out; omega
  by_cases hk : nk = 0
  · have hlf' : lf = true := by rw [HLF.out, hk]; rfl
    have hks : ks = [] := List.eq_nil_of_length_eq_zero (by have := HNK.out; omega)
    subst hlf' hks
    have hps : ps.length ≤ 4 := (full_lf HFU.out).1
    have HO := hid (ow_new w1 w1.heap.size (Nat.le_refl _))
    have HB1 := hid (below_new (o := .cells #[] 35) (w := w1) (Below.refl _ _))
    have p1' := (KP1.out.alloc (.cells #[] 35)).cell (j := 1) rfl
    clear hk HLF
    go_wp2_with (at_builtin; refine wpList_append_pairs rfl _ _ rfl w1.heap.size _ [] rfl HO.out S _ ps rfl (HPW.out.below HB1.out) ?q1 ?q2 ?_)
    case q1 => simp; omega
    case q2 => simp
    intro v2 w2 hO2 hg2
    obtain ⟨a2, n2, c2, hv2, HN2⟩ := hO2.shape'
    subst hv2
    have HO2 : Hid (Ow w2 w1.heap.size (.slice a2 n2 c2) ps) := hO2
    have HWB : Hid (Below w1.heap.size w1 w2) := HB1.out.trans (grown_belowB HO.out hg2 (by simp))
    have HN2' := hid (HN1.out.kept HWB.out)
    have HG1 : Hid (g1 < w1.heap.size) := HN1.out.lt g1 rfl
    have HF1 : Hid (∀ y, F y → y < w1.heap.size ∧ g1 ≠ y) := by
      intro y hy
      obtain ⟨V, _, _, _, n4, _⟩ := HN1.out
      exact ⟨(n4 y hy).1, fun e => (n4 y hy).2 (by rw [← e]; rfl)⟩
    obtain ⟨⟨x0, x1, x2, m0, _, _⟩, mf⟩ := HN2'.out.cells ns.length (by simp)
    have mf0 := mf (nv * 3)
    rw [← HNV.out] at m0
    have HFIN : Hid (NO (w2.setCell ⟨g1, nv * 3, none⟩ (.slice a2 n2 c2)) (fun y => F y ∨ (w.heap.size ≤ y ∧ y < (w2.setCell ⟨g1, nv * 3, none⟩ (.slice a2 n2 c2)).heap.size ∧ (Value.slice (some ⟨g1, 0, none⟩) n1 c1).ownBlock ≠ some y)) (.slice (some ⟨g1, 0, none⟩) n1 c1) (ns ++ lay ns.length (.mk ps []))) := by
      have hz : (w2.setCell ⟨g1, nv * 3, none⟩ (.slice a2 n2 c2)).heap.size = w2.heap.size := by simp [World.setCell]
      have hsz2 := HWB.out.size
      have e : lay ns.length (.mk ps []) = [⟨ps, [], []⟩] := by simp [lay]
      rw [hz, e]
      have hO0 : w2.ownsRow 0 35 2 (.slice a2 n2 c2) ps.length (pcs ps) := own_lower HO2.out
      have := NO.put0 (F := fun y => F y ∨ (w.heap.size ≤ y ∧ y < w2.heap.size ∧ (Value.slice (some ⟨g1, 0, none⟩) n1 c1).ownBlock ≠ some y)) (ms := ns) (l := []) (z := ⟨[], [], []⟩) HN2'.out (fun y hy => .inl hy) (by
        rintro y (hy | hy)
        · exact ⟨by have := HF1.out y hy; omega, fun e => (HF1.out y hy).2 (by cases e; rfl)⟩
        · exact hy.2) hO0 (fun y hy => by
          have h1 := own_ge HO2.out y hy
          have h2 := (World.ownsRow.lt HO2.out y hy).2
          exact ⟨.inr ⟨by have := HWS.out; omega, h2, fun e => by simp [Value.ownBlock] at e; have := HG1.out; omega⟩, fun hf => by have := HF1.out y hf; omega⟩)
      rw [← HNV.out] at this
      exact this
    have HOF : Hid (Only (fun y => (Value.slice av nv cv).ownBlock = some y) w (w2.setCell ⟨g1, nv * 3, none⟩ (.slice a2 n2 c2))) := by
      refine (HO1.out.trans (only_of_below HWB.out _)).then (only_set (R := fun y => y = g1) rfl _) (fun y hy e => ?_)
      subst e
      rcases HV1.out y rfl with h | h
      · exact h
      · omega
    clear hO2 hg2 mf HN2' HO2
    go_wp2
    go_ret
    exact ⟨_, rfl, HFIN.out, HOF.out, fun y hy => (HV1.out y hy).imp id (fun h => by omega)⟩
  · have hlf' : lf = false := by rw [HLF.out]; simp [hk]
    subst hlf'
    have hkne : ks ≠ [] := by rintro rfl; have := HNK.out; simp at this; omega
    have HBR := hid (full_br HFU.out hkne)
    have HLY : Hid (ns ++ lay ns.length (T.mk ps ks) = ns ++ ⟨[], ks.tail.map T.least, places (ns.length + 1) ks⟩ :: layL (ns.length + 1) ks) := by show _ = _; simp [lay, hkne]
    have HSZK : Hid (ns.length + 1 + szL ks ≤ 1048576) := by have := HSZ.out; simp only [T.size] at this; show _ ≤ _; omega
    have HI0 : Hid (LyI w (w1.alloc (.cells #[.slice none 0 0, .slice none 0 0, .slice none 0 0] 106)) F (.slice av nv cv) (.slice (some ⟨g1, 0, none⟩) n1 c1) (.bool false) (.slice ap np cp) (.slice ak nk ck) w1.heap.size (.slice none 0 0) (.slice none 0 0) F (ns ++ [⟨[], [], []⟩]) [] []) := by
      have hF := fun y hy => (show y < w.heap.size from by obtain ⟨V, _, _, _, n4, _⟩ := HN.out; exact (n4 y hy).1)
      have hws := HWS.out
      refine ⟨hF, HVW.out, by omega, HN1.out.kept (below_new (Below.refl _ _)), KP1.out.alloc _, Bk.new w1 106 [.slice none 0 0, .slice none 0 0, .slice none 0 0], World.ownsRow_nil _ _ _ _, World.ownsRow_nil _ _ _ _, fun y hy => ⟨.inl hy, by have := hF y hy; omega, by simp [Value.ownBlock], by simp [Value.ownBlock]⟩, fun y hy => hy, fun y hy => ⟨(HV1.out y hy).imp id (fun h => by omega), ?_, by simp [Value.ownBlock], by simp [Value.ownBlock]⟩, fun y hy => (by cases hy), fun y hy => (by cases hy), HO1.out.trans (only_alloc _ _ _)⟩
      have := HN1.out.lt y hy
      omega
    have p2' := HI0.out.par.cell (j := 2) rfl
    clear hk HLF HN1 KP1 HN
    go_wp2_with fail
    go_loopw [0, 29] (fun x i wr => ∃ (k : Nat) (a' : Option Addr) (n' c' : Nat) (kx ki : Value) (Fk : Nat → Prop), k ≤ nk ∧ i = .int .i64 k ∧ x = .slice a' n' c' ∧ Hid (LyI w wr F (.slice av nv cv) (.slice a' n' c') (.bool false) (.slice ap np cp) (.slice ak nk ck) w1.heap.size kx ki Fk (ns ++ ⟨[], [], []⟩ :: layL (ns.length + 1) (ks.take k)) ((ks.take k).tail.map T.least) (places (ns.length + 1) (ks.take k)))) (fun _ i _ => nk - (intOf i).toNat)
    case atStart => exact ⟨0, _, _, _, _, _, F, Nat.zero_le _, rfl, rfl, by show LyI _ _ _ _ _ _ _ _ _ _ _ _ _ _ _; simpa [layL, places] using HI0.out⟩
    case round =>
      obtain ⟨k, a', n', c', kx, ki, Fk, hkn, rfl, rfl, HL⟩ := hrel
      by_cases hlt : k < nk
      · have hlt' : (k : Int) < (nk : Int) := by omega
        have hks : k < ks.length := by rw [← HNK.out]; exact hlt
        obtain ⟨aki, cki, hki⟩ := own_shape HL.out.ri
        generalize hnki : (places (ns.length + 1) (ks.take k)).length = nki at hki
        have HNKI := hid hnki
        clear hnki
        subst hki
        have HLu := hid (HL.out.keep (below_new (o := .cells #[.int .i64 (n' : Int)] 3) (Below.refl _ _)))
        have y2 := HL.out.nod.cell (j := 2) rfl
        obtain ⟨aq, nq', cq, eq, HNQ⟩ := HL.out.nodes.shape
        cases eq
        have HLN : Hid (n' = ns.length + 1 + szL (ks.take k)) := by show _ = _; rw [HNQ.out]; simp [layL_length]; omega
        have hkk : nki ≤ 1048576 := by
          have h1 := HNKI.out
          rw [places_length, List.length_take] at h1
          have h2 := HBR.out.2.1
          omega
        have HRI : Hid (World.ownsRow (wr.alloc (.cells #[.int .i64 (n' : Int)] 3)) 0 3 1 (.slice aki nki cki) (places (ns.length + 1) (ks.take k)).length ((places (ns.length + 1) (ks.take k)).map (Value.int .i64))) := HLu.out.ri
        rw [HNKI.out] at HRI
        go_wp2_with (at_builtin; refine wpList_append_int1 rfl _ _ rfl _ nki _ rfl HRI.out wr.heap.size (n' : Int) rfl (Bk.new wr 3 [.int .i64 (n' : Int)]) hkk ?_)
        intro ai2 ni2 ci2 w2 hO2 hg2 ha2
        have HL2 : Hid (LyI w (w2.setCell ⟨w1.heap.size, 2, none⟩ (.slice ai2 ni2 ci2)) F (.slice av nv cv) (.slice a' n' c') (.bool false) (.slice ap np cp) (.slice ak nk ck) w1.heap.size kx (.slice ai2 ni2 ci2) Fk (ns ++ ⟨[], [], []⟩ :: layL (ns.length + 1) (ks.take k)) ((ks.take k).tail.map T.least) (places (ns.length + 1) (ks.take (k + 1)))) := by
          have h1 := HLu.out.addKid (n' : Int) (by rw [HNKI.out]; exact hO2) hg2 (by simpa using ha2)
          have h2 : places (ns.length + 1) (ks.take (k + 1)) = places (ns.length + 1) (ks.take k) ++ [(n' : Int)] := by rw [places_take ks k _ hks, HLN.out]
          show LyI _ _ _ _ _ _ _ _ _ _ _ _ _ _ _
          rw [h2]
          exact h1
        have K2 := HLu.out.nod.to (only_of_grown (R := fun y => (Value.slice aki nki cki).ownBlock = some y) hg2 (fun y e => e)) (fun e => (HLu.out.ib _ e).2 rfl)
        have z2 := K2.cell (j := 2) rfl
        have zf := K2.free 2
        clear hO2 hg2 ha2 K2 HRI HLu HL y2
        cases k with
        | zero =>
          have HLX := HL2
          -- the kid's nodes
          have HSUBX := hid (HSUB.out.to HLX.out.only (fun y hy _ e => HSV.out y hy.1 e))
          obtain ⟨gk, ofk, hak, _, _, hkid⟩ := HSUBX.out.kids (by omega)
          try subst hak
          obtain ⟨l1, ap1, np1, cp1, ak1, nk1, ck1, x0, x1, x2, hs1⟩ := hkid 0 hlt
          simp only [Nat.zero_mul, Nat.add_zero] at x0 x1 x2
          have HS1 := hid hs1
          have pp2 := HLX.out.par.cell (j := 2) rfl
          have HLEN : Hid ((ns ++ ⟨[], [], []⟩ :: layL (ns.length + 1) (ks.take (0))).length = ns.length + 1 + szL (ks.take (0))) := by show _ = _; simp [layL_length]; omega
          have HEQ : Hid ((ns ++ ⟨[], [], []⟩ :: layL (ns.length + 1) (ks.take (0))) ++ lay (ns ++ ⟨[], [], []⟩ :: layL (ns.length + 1) (ks.take (0))).length (tAt ks (0)) = ns ++ ⟨[], [], []⟩ :: layL (ns.length + 1) (ks.take (0 + 1))) := by
            show _ = _
            rw [HLEN.out, layL_take ks (0) (ns.length + 1) hks]
            simp
          have HBND : Hid ((ns ++ ⟨[], [], []⟩ :: layL (ns.length + 1) (ks.take (0))).length + (tAt ks (0)).size ≤ 1048576) := by
            show _ ≤ _
            have h1 := szL_take_le ks (0 + 1)
            rw [szL_take ks (0) hks] at h1
            have h2 := HSZK.out
            rw [HLEN.out]
            omega
          have HVS : Hid (∀ y, (S y ∧ y < w.heap.size) → (Value.slice a' n' c').ownBlock ≠ some y) := by
            intro y hy e
            rcases (HLX.out.vb y e).1 with h | h
            · exact HSV.out y hy.1 h
            · omega
          simp only [T.ks] at HS1
          clear hkid hs1 HSUBX
          go_wp2_with fail
          refine (HIH.out (tAt ks (0)) (tAt_mem hks) (fun y => S y ∧ y < w.heap.size) l1 ap1 ak1 np1 cp1 nk1 ck1 _ Fk a' n' c' (ns ++ ⟨[], [], []⟩ :: layL (ns.length + 1) (ks.take (0))) false HS1.out HVS.out HLX.out.nodes HBND.out (HBR.out.2.2.2 _ (tAt_mem hks))).mono ?_
          rintro e w9 ⟨v9, rfl, hN9, ho9, hv9⟩
          rw [HEQ.out] at hN9
          obtain ⟨a9, n9, c9, e9, _⟩ := hN9.shape
          subst e9
          have HL9 := hid (HLX.out.sub hN9 ho9 hv9)
          clear hN9 ho9 hv9 x0 x1 x2 pp2 HLX HS1
          go_wp2
          go_roundw
          case rel => exact ⟨0 + 1, a9, n9, c9, _, _, _, by omega, by go_num, rfl, by show LyI _ _ _ _ _ _ _ _ _ _ _ _ _ _ _; have e : (ks.take (0 + 1)).tail.map T.least = (ks.take 0).tail.map T.least := (by cases ks <;> simp); rw [e]; exact HL9.out⟩
          case measure => simp [intOf]; omega
        | succ k' =>
          have hk1 : (0 : Int) < (k' : Int) + 1 := by omega
          have hk2 : (k' : Int) + 1 < (nk : Int) := by omega
          have hk3 : 0 ≤ (k' : Int) + 1 := by omega
          have hk4 : ((k' : Int) + 1).toNat = k' + 1 := by omega
          generalize hU2 : w2.setCell ⟨w1.heap.size, 2, none⟩ (.slice ai2 ni2 ci2) = u2 at HL2
          obtain ⟨akx, ckx, hkx⟩ := own_shape HL2.out.rx
          generalize hnkx : ((ks.take (k' + 1)).tail.map T.least).length = nkx at hkx
          have HNKX := hid hnkx
          clear hnkx
          subst hkx
          have HSUB2 := hid (HSUB.out.to HL2.out.only (fun y hy _ e => HSV.out y hy.1 e))
          obtain ⟨gk, ofk, hak, hgs, _, hkid⟩ := HSUB2.out.kids (by omega)
          subst hak
          obtain ⟨l1, ap1, np1, cp1, ak1, nk1, ck1, x0, x1, x2, hs1⟩ := hkid (k' + 1) hlt
          have n1c := HL2.out.nod.cell (j := 1) rfl
          have n1f := HL2.out.nod.free 1
          have pp2 := HL2.out.par.cell (j := 2) rfl
          have hnbx : (Value.slice akx nkx ckx).ownBlock ≠ some w1.heap.size := fun e => (HL2.out.xb _ e).2.1 rfl
          have hgk : ¬ ((Value.slice akx nkx ckx).ownBlock = some gk ∨ gk = w1.heap.size) := by
            have h1 : gk < w.heap.size := hgs.2
            have h2 := HL2.out.lo
            rintro (e | e)
            · have := (HL2.out.xb _ e).1; omega
            · omega
          have hpb : ¬ ((Value.slice akx nkx ckx).ownBlock = some w.heap.size ∨ w.heap.size = w1.heap.size) := by
            have h2 := HL2.out.lo
            rintro (e | e)
            · have := (HL2.out.xb _ e).1; omega
            · omega
          have T0 : Hid (KO (fun y => (Value.slice akx nkx ckx).ownBlock = some y ∨ y = w1.heap.size) u2 u2 [(⟨w.heap.size, 2, none⟩, .slice (some ⟨gk, ofk, none⟩) nk ck), (⟨gk, ofk + (k' + 1) * 3, none⟩, .bool l1), (⟨gk, ofk + (k' + 1) * 3 + 1, none⟩, .slice ap1 np1 cp1), (⟨gk, ofk + (k' + 1) * 3 + 2, none⟩, .slice ak1 nk1 ck1)]) := ⟨fun p hp => by simp at hp; rcases hp with rfl | rfl | rfl | rfl <;> exact ⟨by assumption, by assumption⟩, Only.refl _ _⟩
          have HLE : Hid (∀ z, Below u2.heap.size u2 z → Calls Try.prog 122 #[.agg #[.bool l1, .slice ap1 np1 cp1, .slice ak1 nk1 ck1]] z fun e w' => e = .returned (.string (tAt ks (k' + 1)).least) ∧ Below z.heap.size z w') := fun z hz => specLeast_any (tAt ks (k' + 1)) _ l1 ap1 ak1 np1 cp1 nk1 ck1 z (by simp only [T.ks] at hs1; exact hs1.kept hz)
          have HOW : Hid (∀ z o, Below u2.drew.heap.size u2.drew z → World.ownsRow (z.alloc o) 0 9 1 (.slice akx nkx ckx) nkx (((ks.take (k' + 1)).tail.map T.least).map Value.string)) := fun z o hz => by
            have h1 := ((HL2.out.keep (below_drew _)).keep hz).keep (below_new (o := o) (Below.refl _ _))
            have h2 := h1.rx
            rw [HNKX.out] at h2
            exact h2
          have HCK : Hid (∀ z, Below u2.drew.heap.size u2.drew z → z.cell? ⟨w1.heap.size, 1, none⟩ = some (.slice akx nkx ckx) ∧ ∀ o, (z.alloc o).cell? ⟨w1.heap.size, 1, none⟩ = some (.slice akx nkx ckx)) := fun z hz =>
            ⟨((HL2.out.keep (below_drew _)).keep hz).nod.cell (j := 1) rfl, fun o => (((HL2.out.keep (below_drew _)).keep hz).keep (below_new (o := o) (Below.refl _ _))).nod.cell (j := 1) rfl⟩
          have HFK : Hid (∀ z o, Below u2.drew.heap.size u2.drew z → (z.alloc o).frozen? ⟨w1.heap.size, 1, none⟩ = false) := fun z o hz => (((HL2.out.keep (below_drew _)).keep hz).keep (below_new (o := o) (Below.refl _ _))).nod.free 1
          have hkx2 : nkx ≤ 1048576 := by
            have h1 := HNKX.out
            simp at h1
            have h2 := HBR.out.2.1
            omega
          have HFIN : Hid (∀ z o, Below u2.drew.heap.size u2.drew z → ∀ a5 n5 c5 w5, w5.ownsRow 0 9 1 (.slice a5 n5 c5) (nkx + 1) (((ks.take (k' + 1)).tail.map T.least).map Value.string ++ [.string (tAt ks (k' + 1)).least]) → (z.alloc o).grownBy w5 (Value.slice akx nkx ckx).ownBlock → ((Value.slice a5 n5 c5).ownBlock = (Value.slice akx nkx ckx).ownBlock ∨ (Value.slice a5 n5 c5).ownBlock = some (z.alloc o).heap.size) →
              LyI w (w5.setCell ⟨w1.heap.size, 1, none⟩ (.slice a5 n5 c5)) F (.slice av nv cv) (.slice a' n' c') (.bool false) (.slice ap np cp) (.slice (some ⟨gk, ofk, none⟩) nk ck) w1.heap.size (.slice a5 n5 c5) (.slice ai2 ni2 ci2) Fk (ns ++ ⟨[], [], []⟩ :: layL (ns.length + 1) (ks.take (k' + 1))) ((ks.take (k' + 1 + 1)).tail.map T.least) (places (ns.length + 1) (ks.take (k' + 1 + 1)))) := fun z o hz a5 n5 c5 w5 hO hg ha => by
            have h1 := (((HL2.out.keep (below_drew _)).keep hz).keep (below_new (o := o) (Below.refl _ _))).addKey (tAt ks (k' + 1)).least (by rw [HNKX.out]; exact hO) hg ha
            rw [keys_take ks k' hks]
            exact h1
          clear hkid hs1 HSUB2
          go_wp2_with fail
          clear hU2
          refine wp_region_noPanic ?_
          refine wp_region_held_drew (S := (fun z => z.cell? ⟨w.heap.size, 2, none⟩ = some (.slice (some ⟨gk, ofk, none⟩) nk ck) ∧ z.cell? ⟨gk, ofk + (k' + 1) * 3, none⟩ = some (.bool l1) ∧ z.cell? ⟨gk, ofk + (k' + 1) * 3 + 1, none⟩ = some (.slice ap1 np1 cp1) ∧ z.cell? ⟨gk, ofk + (k' + 1) * 3 + 2, none⟩ = some (.slice ak1 nk1 ck1) ∧ KO (fun y => (Value.slice akx nkx ckx).ownBlock = some y ∨ y = w1.heap.size) u2 z [(⟨w.heap.size, 2, none⟩, .slice (some ⟨gk, ofk, none⟩) nk ck), (⟨gk, ofk + (k' + 1) * 3, none⟩, .bool l1), (⟨gk, ofk + (k' + 1) * 3 + 1, none⟩, .slice ap1 np1 cp1), (⟨gk, ofk + (k' + 1) * 3 + 2, none⟩, .slice ak1 nk1 ck1)])) (by kernel_rfl) ?_ (fun hHeld => ?_)
          · exact ko4 ⟨T0.out.cells, only_drew _ _ 1⟩
          simp only [List.size_toArray, List.length_cons, List.length_nil, Array.replicate_succ, Array.replicate_zero, Nat.reduceAdd, List.push_toArray, List.nil_append, List.cons_append]
          refine wpAnyH_take (i := 0) (v := .pointer (some ⟨w1.heap.size, 1, none⟩)) rfl (by kernel_rfl) (by kernel_rfl) (by kernel_rfl) (fun _ _ _ h => h) (Or.inl ⟨by rfl, ?_⟩) (by assumption) ?_
          · intro w hSw
            obtain ⟨g1', g2', g3', g4', _⟩ := hSw
            go_simp
          try simp only [List.getElem_toArray]
          try simp only [List.getElem_cons_succ]
          try simp only [List.getElem_cons_zero]
          try simp only [Act.put]
          try simp only [List.setIfInBounds_toArray]
          try simp only [List.set_cons_succ]
          try simp only [List.set_cons_zero]
          refine wpAnyH_take (i := 2) (v := .pointer (some ⟨w.heap.size, 2, none⟩)) rfl (by kernel_rfl) (by kernel_rfl) (by kernel_rfl) (fun _ _ _ h => h) (Or.inl ⟨by rfl, ?_⟩) (by assumption) ?_
          · intro w hSw
            obtain ⟨g1', g2', g3', g4', _⟩ := hSw
            go_simp
          try simp only [List.getElem_toArray]
          try simp only [List.getElem_cons_succ]
          try simp only [List.getElem_cons_zero]
          try simp only [Act.put]
          try simp only [List.setIfInBounds_toArray]
          try simp only [List.set_cons_succ]
          try simp only [List.set_cons_zero]
          refine wpAnyH_take (i := 3) (v := .slice (some ⟨gk, ofk, none⟩) nk ck) rfl (by kernel_rfl) (by kernel_rfl) (by kernel_rfl) (fun _ _ _ h => h) (Or.inl ⟨by rfl, ?_⟩) (by assumption) ?_
          · intro w hSw
            obtain ⟨g1', g2', g3', g4', _⟩ := hSw
            go_simp
          try simp only [List.getElem_toArray]
          try simp only [List.getElem_cons_succ]
          try simp only [List.getElem_cons_zero]
          try simp only [Act.put]
          try simp only [List.setIfInBounds_toArray]
          try simp only [List.set_cons_succ]
          try simp only [List.set_cons_zero]
          refine wpAnyH_take (i := 4) (v := .int .i64 ((k' + 1 : Nat) : Int)) rfl (by kernel_rfl) (by kernel_rfl) (by kernel_rfl) (fun _ _ _ h => h) (Or.inl ⟨by rfl, ?_⟩) (by assumption) ?_
          · intro w hSw
            obtain ⟨g1', g2', g3', g4', _⟩ := hSw
            go_simp
          try simp only [List.getElem_toArray]
          try simp only [List.getElem_cons_succ]
          try simp only [List.getElem_cons_zero]
          try simp only [Act.put]
          try simp only [List.setIfInBounds_toArray]
          try simp only [List.set_cons_succ]
          try simp only [List.set_cons_zero]
          refine wpAnyH_take (i := 5) (v := .pointer (some ⟨gk, ofk + (k' + 1) * 3, none⟩)) rfl (by kernel_rfl) (by kernel_rfl) (by kernel_rfl) (fun _ _ _ h => h) (Or.inl ⟨by rfl, ?_⟩) (by assumption) ?_
          · intro w hSw
            obtain ⟨g1', g2', g3', g4', _⟩ := hSw
            go_simp
          try simp only [List.getElem_toArray]
          try simp only [List.getElem_cons_succ]
          try simp only [List.getElem_cons_zero]
          try simp only [Act.put]
          try simp only [List.setIfInBounds_toArray]
          try simp only [List.set_cons_succ]
          try simp only [List.set_cons_zero]
          refine wpAnyH_take (i := 6) (v := .agg #[.bool l1, .slice ap1 np1 cp1, .slice ak1 nk1 ck1]) rfl (by kernel_rfl) (by kernel_rfl) (by kernel_rfl) (fun _ _ _ h => h) (Or.inl ⟨by rfl, ?_⟩) (by assumption) ?_
          · intro w hSw
            obtain ⟨g1', g2', g3', g4', _⟩ := hSw
            go_simp
          try simp only [List.getElem_toArray]
          try simp only [List.getElem_cons_succ]
          try simp only [List.getElem_cons_zero]
          try simp only [Act.put]
          try simp only [List.setIfInBounds_toArray]
          try simp only [List.set_cons_succ]
          try simp only [List.set_cons_zero]
          refine wpAnyH_ready (rs := [1, 7]) (by kernel_rfl) (by simp) ?_
          refine AllReadyH.cons rfl (fun K1 hK => ?_) (AllReadyH.cons rfl (fun K1 hK => ?_) AllReadyH.nil)
          · skip
            go_simp
            try go_wp2_with fail
            refine hK.out _ _ ?_ (fun hHeld => ?_)
            · first | assumption | exact ko4 ⟨T0.out.cells, only_drew _ _ 1⟩ | exact ko4o (only_of_below hbC _) (by assumption) | exact ko4o (only_alloc _ _ _) (by assumption) | exact ko4o (only_of_grown hg5 (fun y e => .inl e)) (by assumption) | exact ko4o (only_set (.inr rfl) _) (by assumption)
            clear hK K1
            try simp only [List.getElem_toArray]
            try simp only [List.getElem_cons_succ]
            try simp only [List.getElem_cons_zero]
            try simp only [Act.put]
            try simp only [List.setIfInBounds_toArray]
            try simp only [List.set_cons_succ]
            try simp only [List.set_cons_zero]
            refine wpAnyH_ready (rs := [7]) (by kernel_rfl) (by simp) ?_
            refine AllReadyH.cons rfl (fun K1 hK => ?_) AllReadyH.nil
            go_simp
            refine (HLE.out _ (below_drew _)).mono ?_
            rintro e w' ⟨rfl, hbC⟩
            have hq1 := (HCK.out _ hbC).1
            have hq2 := (HCK.out _ hbC).2
            go_wp2_with fail
            refine hK.out _ _ ?_ (fun hHeld => ?_)
            · first | assumption | exact ko4 ⟨T0.out.cells, only_drew _ _ 1⟩ | exact ko4o (only_of_below hbC _) (by assumption) | exact ko4o (only_alloc _ _ _) (by assumption) | exact ko4o (only_of_grown hg5 (fun y e => .inl e)) (by assumption) | exact ko4o (only_set (.inr rfl) _) (by assumption)
            clear hK K1
            try simp only [List.getElem_toArray]
            try simp only [List.getElem_cons_succ]
            try simp only [List.getElem_cons_zero]
            try simp only [Act.put]
            try simp only [List.setIfInBounds_toArray]
            try simp only [List.set_cons_succ]
            try simp only [List.set_cons_zero]
            refine wpAnyH_ready (rs := [8]) (by kernel_rfl) (by simp) ?_
            refine AllReadyH.cons rfl (fun K1 hK => ?_) AllReadyH.nil
            go_simp
            try go_wp2_with fail
            refine hK.out _ _ ?_ (fun hHeld => ?_)
            · first | assumption | exact ko4 ⟨T0.out.cells, only_drew _ _ 1⟩ | exact ko4o (only_of_below hbC _) (by assumption) | exact ko4o (only_alloc _ _ _) (by assumption) | exact ko4o (only_of_grown hg5 (fun y e => .inl e)) (by assumption) | exact ko4o (only_set (.inr rfl) _) (by assumption)
            clear hK K1
            try simp only [List.getElem_toArray]
            try simp only [List.getElem_cons_succ]
            try simp only [List.getElem_cons_zero]
            try simp only [Act.put]
            try simp only [List.setIfInBounds_toArray]
            try simp only [List.set_cons_succ]
            try simp only [List.set_cons_zero]
            refine wpAnyH_ready (rs := [9]) (by kernel_rfl) (by simp) ?_
            refine AllReadyH.cons rfl (fun K1 hK => ?_) AllReadyH.nil
            refine step_append_str1 rfl _ _ rfl _ nkx _ rfl (HOW.out _ _ hbC) _ (tAt ks (k' + 1)).least rfl (by simp) hkx2 w1.heap.size 1 _ (hq2 _) (HFK.out _ _ hbC) hnbx ?_
            intro a5 n5 c5 w5 hO5 hg5 ha5 hc5 hf5
            refine hK.out _ _ ?_ (fun hHeld => ?_)
            · first | assumption | exact ko4 ⟨T0.out.cells, only_drew _ _ 1⟩ | exact ko4o (only_of_below hbC _) (by assumption) | exact ko4o (only_alloc _ _ _) (by assumption) | exact ko4o (only_of_grown hg5 (fun y e => .inl e)) (by assumption) | exact ko4o (only_set (.inr rfl) _) (by assumption)
            clear hK K1
            try simp only [List.getElem_toArray]
            try simp only [List.getElem_cons_succ]
            try simp only [List.getElem_cons_zero]
            try simp only [Act.put]
            try simp only [List.setIfInBounds_toArray]
            try simp only [List.set_cons_succ]
            try simp only [List.set_cons_zero]
            refine wpAnyH_ready (rs := [10]) (by kernel_rfl) (by simp) ?_
            refine AllReadyH.cons rfl (fun K1 hK => ?_) AllReadyH.nil
            go_simp
            try go_wp2_with fail
            refine hK.out _ _ ?_ (fun hHeld => ?_)
            · first | assumption | exact ko4 ⟨T0.out.cells, only_drew _ _ 1⟩ | exact ko4o (only_of_below hbC _) (by assumption) | exact ko4o (only_alloc _ _ _) (by assumption) | exact ko4o (only_of_grown hg5 (fun y e => .inl e)) (by assumption) | exact ko4o (only_set (.inr rfl) _) (by assumption)
            clear hK K1
            try simp only [List.getElem_toArray]
            try simp only [List.getElem_cons_succ]
            try simp only [List.getElem_cons_zero]
            try simp only [Act.put]
            try simp only [List.setIfInBounds_toArray]
            try simp only [List.set_cons_succ]
            try simp only [List.set_cons_zero]
            refine wpAnyH_ready (rs := [11]) (by kernel_rfl) (by simp) ?_
            refine AllReadyH.cons rfl (fun K1 hK => ?_) AllReadyH.nil
            go_simp
            try go_wp2_with fail
            refine hK.out _ _ ?_ (fun hHeld => ?_)
            · first | assumption | exact ko4 ⟨T0.out.cells, only_drew _ _ 1⟩ | exact ko4o (only_of_below hbC _) (by assumption) | exact ko4o (only_alloc _ _ _) (by assumption) | exact ko4o (only_of_grown hg5 (fun y e => .inl e)) (by assumption) | exact ko4o (only_set (.inr rfl) _) (by assumption)
            clear hK K1
            try simp only [List.getElem_toArray]
            try simp only [List.getElem_cons_succ]
            try simp only [List.getElem_cons_zero]
            try simp only [Act.put]
            try simp only [List.setIfInBounds_toArray]
            try simp only [List.set_cons_succ]
            try simp only [List.set_cons_zero]
            refine wpAnyH_done (by kernel_rfl) ?_ _
            refine NoPanic.normal ?_
            have HLX := hid (HFIN.out _ _ hbC _ _ _ _ hO5 hg5 ha5)
            clear hO5 hg5 ha5 hc5 hf5 hbC hq1 hq2 HFIN HFK HCK HOW HLE T0 hgk hpb hnbx HL2 z2 zf n1c n1f pp2 x0 x1 x2 hHeld
            -- the kid's nodes
            have HSUBX := hid (HSUB.out.to HLX.out.only (fun y hy _ e => HSV.out y hy.1 e))
            obtain ⟨gk9, ofk9, hak, _, _, hkid⟩ := HSUBX.out.kids (by omega)
            cases hak
            obtain ⟨l9, ap9, np9, cp9, ak9, nk9, ck9, x0, x1, x2, hs1⟩ := hkid (k' + 1) hlt
            have HS1 := hid hs1
            have pp2 := HLX.out.par.cell (j := 2) rfl
            have HLEN : Hid ((ns ++ ⟨[], [], []⟩ :: layL (ns.length + 1) (ks.take (k' + 1))).length = ns.length + 1 + szL (ks.take (k' + 1))) := by show _ = _; simp [layL_length]; omega
            have HEQ : Hid ((ns ++ ⟨[], [], []⟩ :: layL (ns.length + 1) (ks.take (k' + 1))) ++ lay (ns ++ ⟨[], [], []⟩ :: layL (ns.length + 1) (ks.take (k' + 1))).length (tAt ks (k' + 1)) = ns ++ ⟨[], [], []⟩ :: layL (ns.length + 1) (ks.take (k' + 1 + 1))) := by
              show _ = _
              rw [HLEN.out, layL_take ks (k' + 1) (ns.length + 1) hks]
              simp
            have HBND : Hid ((ns ++ ⟨[], [], []⟩ :: layL (ns.length + 1) (ks.take (k' + 1))).length + (tAt ks (k' + 1)).size ≤ 1048576) := by
              show _ ≤ _
              have h1 := szL_take_le ks (k' + 1 + 1)
              rw [szL_take ks (k' + 1) hks] at h1
              have h2 := HSZK.out
              rw [HLEN.out]
              omega
            have HVS : Hid (∀ y, (S y ∧ y < w.heap.size) → (Value.slice a' n' c').ownBlock ≠ some y) := by
              intro y hy e
              rcases (HLX.out.vb y e).1 with h | h
              · exact HSV.out y hy.1 h
              · omega
            simp only [T.ks] at HS1
            clear hkid hs1 HSUBX
            go_wp2_with fail
            refine (HIH.out (tAt ks (k' + 1)) (tAt_mem hks) (fun y => S y ∧ y < w.heap.size) l9 ap9 ak9 np9 cp9 nk9 ck9 _ Fk a' n' c' (ns ++ ⟨[], [], []⟩ :: layL (ns.length + 1) (ks.take (k' + 1))) false HS1.out HVS.out HLX.out.nodes HBND.out (HBR.out.2.2.2 _ (tAt_mem hks))).mono ?_
            rintro e w9 ⟨v9, rfl, hN9, ho9, hv9⟩
            rw [HEQ.out] at hN9
            obtain ⟨aZ, nZ, cZ, e9, _⟩ := hN9.shape
            subst e9
            have HL9 := hid (HLX.out.sub hN9 ho9 hv9)
            clear hN9 ho9 hv9 x0 x1 x2 pp2 HLX HS1
            go_wp2
            go_roundw
            case rel => exact ⟨k' + 1 + 1, aZ, nZ, cZ, _, _, _, by omega, by go_num, rfl, HL9.out⟩
            case measure => simp [intOf]; omega
          · skip
            go_simp
            refine (HLE.out _ (below_drew _)).mono ?_
            rintro e w' ⟨rfl, hbC⟩
            have hq1 := (HCK.out _ hbC).1
            have hq2 := (HCK.out _ hbC).2
            go_wp2_with fail
            refine hK.out _ _ ?_ (fun hHeld => ?_)
            · first | assumption | exact ko4 ⟨T0.out.cells, only_drew _ _ 1⟩ | exact ko4o (only_of_below hbC _) (by assumption) | exact ko4o (only_alloc _ _ _) (by assumption) | exact ko4o (only_of_grown hg5 (fun y e => .inl e)) (by assumption) | exact ko4o (only_set (.inr rfl) _) (by assumption)
            clear hK K1
            try simp only [List.getElem_toArray]
            try simp only [List.getElem_cons_succ]
            try simp only [List.getElem_cons_zero]
            try simp only [Act.put]
            try simp only [List.setIfInBounds_toArray]
            try simp only [List.set_cons_succ]
            try simp only [List.set_cons_zero]
            refine wpAnyH_ready (rs := [1, 8]) (by kernel_rfl) (by simp) ?_
            refine AllReadyH.cons rfl (fun K1 hK => ?_) (AllReadyH.cons rfl (fun K1 hK => ?_) AllReadyH.nil)
            · skip
              go_simp
              try go_wp2_with fail
              refine hK.out _ _ ?_ (fun hHeld => ?_)
              · first | assumption | exact ko4 ⟨T0.out.cells, only_drew _ _ 1⟩ | exact ko4o (only_of_below hbC _) (by assumption) | exact ko4o (only_alloc _ _ _) (by assumption) | exact ko4o (only_of_grown hg5 (fun y e => .inl e)) (by assumption) | exact ko4o (only_set (.inr rfl) _) (by assumption)
              clear hK K1
              try simp only [List.getElem_toArray]
              try simp only [List.getElem_cons_succ]
              try simp only [List.getElem_cons_zero]
              try simp only [Act.put]
              try simp only [List.setIfInBounds_toArray]
              try simp only [List.set_cons_succ]
              try simp only [List.set_cons_zero]
              refine wpAnyH_ready (rs := [8]) (by kernel_rfl) (by simp) ?_
              refine AllReadyH.cons rfl (fun K1 hK => ?_) AllReadyH.nil
              go_simp
              try go_wp2_with fail
              refine hK.out _ _ ?_ (fun hHeld => ?_)
              · first | assumption | exact ko4 ⟨T0.out.cells, only_drew _ _ 1⟩ | exact ko4o (only_of_below hbC _) (by assumption) | exact ko4o (only_alloc _ _ _) (by assumption) | exact ko4o (only_of_grown hg5 (fun y e => .inl e)) (by assumption) | exact ko4o (only_set (.inr rfl) _) (by assumption)
              clear hK K1
              try simp only [List.getElem_toArray]
              try simp only [List.getElem_cons_succ]
              try simp only [List.getElem_cons_zero]
              try simp only [Act.put]
              try simp only [List.setIfInBounds_toArray]
              try simp only [List.set_cons_succ]
              try simp only [List.set_cons_zero]
              refine wpAnyH_ready (rs := [9]) (by kernel_rfl) (by simp) ?_
              refine AllReadyH.cons rfl (fun K1 hK => ?_) AllReadyH.nil
              refine step_append_str1 rfl _ _ rfl _ nkx _ rfl (HOW.out _ _ hbC) _ (tAt ks (k' + 1)).least rfl (by simp) hkx2 w1.heap.size 1 _ (hq2 _) (HFK.out _ _ hbC) hnbx ?_
              intro a5 n5 c5 w5 hO5 hg5 ha5 hc5 hf5
              refine hK.out _ _ ?_ (fun hHeld => ?_)
              · first | assumption | exact ko4 ⟨T0.out.cells, only_drew _ _ 1⟩ | exact ko4o (only_of_below hbC _) (by assumption) | exact ko4o (only_alloc _ _ _) (by assumption) | exact ko4o (only_of_grown hg5 (fun y e => .inl e)) (by assumption) | exact ko4o (only_set (.inr rfl) _) (by assumption)
              clear hK K1
              try simp only [List.getElem_toArray]
              try simp only [List.getElem_cons_succ]
              try simp only [List.getElem_cons_zero]
              try simp only [Act.put]
              try simp only [List.setIfInBounds_toArray]
              try simp only [List.set_cons_succ]
              try simp only [List.set_cons_zero]
              refine wpAnyH_ready (rs := [10]) (by kernel_rfl) (by simp) ?_
              refine AllReadyH.cons rfl (fun K1 hK => ?_) AllReadyH.nil
              go_simp
              try go_wp2_with fail
              refine hK.out _ _ ?_ (fun hHeld => ?_)
              · first | assumption | exact ko4 ⟨T0.out.cells, only_drew _ _ 1⟩ | exact ko4o (only_of_below hbC _) (by assumption) | exact ko4o (only_alloc _ _ _) (by assumption) | exact ko4o (only_of_grown hg5 (fun y e => .inl e)) (by assumption) | exact ko4o (only_set (.inr rfl) _) (by assumption)
              clear hK K1
              try simp only [List.getElem_toArray]
              try simp only [List.getElem_cons_succ]
              try simp only [List.getElem_cons_zero]
              try simp only [Act.put]
              try simp only [List.setIfInBounds_toArray]
              try simp only [List.set_cons_succ]
              try simp only [List.set_cons_zero]
              refine wpAnyH_ready (rs := [11]) (by kernel_rfl) (by simp) ?_
              refine AllReadyH.cons rfl (fun K1 hK => ?_) AllReadyH.nil
              go_simp
              try go_wp2_with fail
              refine hK.out _ _ ?_ (fun hHeld => ?_)
              · first | assumption | exact ko4 ⟨T0.out.cells, only_drew _ _ 1⟩ | exact ko4o (only_of_below hbC _) (by assumption) | exact ko4o (only_alloc _ _ _) (by assumption) | exact ko4o (only_of_grown hg5 (fun y e => .inl e)) (by assumption) | exact ko4o (only_set (.inr rfl) _) (by assumption)
              clear hK K1
              try simp only [List.getElem_toArray]
              try simp only [List.getElem_cons_succ]
              try simp only [List.getElem_cons_zero]
              try simp only [Act.put]
              try simp only [List.setIfInBounds_toArray]
              try simp only [List.set_cons_succ]
              try simp only [List.set_cons_zero]
              refine wpAnyH_done (by kernel_rfl) ?_ _
              refine NoPanic.normal ?_
              have HLX := hid (HFIN.out _ _ hbC _ _ _ _ hO5 hg5 ha5)
              clear hO5 hg5 ha5 hc5 hf5 hbC hq1 hq2 HFIN HFK HCK HOW HLE T0 hgk hpb hnbx HL2 z2 zf n1c n1f pp2 x0 x1 x2 hHeld
              -- the kid's nodes
              have HSUBX := hid (HSUB.out.to HLX.out.only (fun y hy _ e => HSV.out y hy.1 e))
              obtain ⟨gk9, ofk9, hak, _, _, hkid⟩ := HSUBX.out.kids (by omega)
              cases hak
              obtain ⟨l9, ap9, np9, cp9, ak9, nk9, ck9, x0, x1, x2, hs1⟩ := hkid (k' + 1) hlt
              have HS1 := hid hs1
              have pp2 := HLX.out.par.cell (j := 2) rfl
              have HLEN : Hid ((ns ++ ⟨[], [], []⟩ :: layL (ns.length + 1) (ks.take (k' + 1))).length = ns.length + 1 + szL (ks.take (k' + 1))) := by show _ = _; simp [layL_length]; omega
              have HEQ : Hid ((ns ++ ⟨[], [], []⟩ :: layL (ns.length + 1) (ks.take (k' + 1))) ++ lay (ns ++ ⟨[], [], []⟩ :: layL (ns.length + 1) (ks.take (k' + 1))).length (tAt ks (k' + 1)) = ns ++ ⟨[], [], []⟩ :: layL (ns.length + 1) (ks.take (k' + 1 + 1))) := by
                show _ = _
                rw [HLEN.out, layL_take ks (k' + 1) (ns.length + 1) hks]
                simp
              have HBND : Hid ((ns ++ ⟨[], [], []⟩ :: layL (ns.length + 1) (ks.take (k' + 1))).length + (tAt ks (k' + 1)).size ≤ 1048576) := by
                show _ ≤ _
                have h1 := szL_take_le ks (k' + 1 + 1)
                rw [szL_take ks (k' + 1) hks] at h1
                have h2 := HSZK.out
                rw [HLEN.out]
                omega
              have HVS : Hid (∀ y, (S y ∧ y < w.heap.size) → (Value.slice a' n' c').ownBlock ≠ some y) := by
                intro y hy e
                rcases (HLX.out.vb y e).1 with h | h
                · exact HSV.out y hy.1 h
                · omega
              simp only [T.ks] at HS1
              clear hkid hs1 HSUBX
              go_wp2_with fail
              refine (HIH.out (tAt ks (k' + 1)) (tAt_mem hks) (fun y => S y ∧ y < w.heap.size) l9 ap9 ak9 np9 cp9 nk9 ck9 _ Fk a' n' c' (ns ++ ⟨[], [], []⟩ :: layL (ns.length + 1) (ks.take (k' + 1))) false HS1.out HVS.out HLX.out.nodes HBND.out (HBR.out.2.2.2 _ (tAt_mem hks))).mono ?_
              rintro e w9 ⟨v9, rfl, hN9, ho9, hv9⟩
              rw [HEQ.out] at hN9
              obtain ⟨aZ, nZ, cZ, e9, _⟩ := hN9.shape
              subst e9
              have HL9 := hid (HLX.out.sub hN9 ho9 hv9)
              clear hN9 ho9 hv9 x0 x1 x2 pp2 HLX HS1
              go_wp2
              go_roundw
              case rel => exact ⟨k' + 1 + 1, aZ, nZ, cZ, _, _, _, by omega, by go_num, rfl, HL9.out⟩
              case measure => simp [intOf]; omega
            · skip
              go_simp
              try go_wp2_with fail
              refine hK.out _ _ ?_ (fun hHeld => ?_)
              · first | assumption | exact ko4 ⟨T0.out.cells, only_drew _ _ 1⟩ | exact ko4o (only_of_below hbC _) (by assumption) | exact ko4o (only_alloc _ _ _) (by assumption) | exact ko4o (only_of_grown hg5 (fun y e => .inl e)) (by assumption) | exact ko4o (only_set (.inr rfl) _) (by assumption)
              clear hK K1
              try simp only [List.getElem_toArray]
              try simp only [List.getElem_cons_succ]
              try simp only [List.getElem_cons_zero]
              try simp only [Act.put]
              try simp only [List.setIfInBounds_toArray]
              try simp only [List.set_cons_succ]
              try simp only [List.set_cons_zero]
              refine wpAnyH_ready (rs := [1]) (by kernel_rfl) (by simp) ?_
              refine AllReadyH.cons rfl (fun K1 hK => ?_) AllReadyH.nil
              go_simp
              try go_wp2_with fail
              refine hK.out _ _ ?_ (fun hHeld => ?_)
              · first | assumption | exact ko4 ⟨T0.out.cells, only_drew _ _ 1⟩ | exact ko4o (only_of_below hbC _) (by assumption) | exact ko4o (only_alloc _ _ _) (by assumption) | exact ko4o (only_of_grown hg5 (fun y e => .inl e)) (by assumption) | exact ko4o (only_set (.inr rfl) _) (by assumption)
              clear hK K1
              try simp only [List.getElem_toArray]
              try simp only [List.getElem_cons_succ]
              try simp only [List.getElem_cons_zero]
              try simp only [Act.put]
              try simp only [List.setIfInBounds_toArray]
              try simp only [List.set_cons_succ]
              try simp only [List.set_cons_zero]
              refine wpAnyH_ready (rs := [9]) (by kernel_rfl) (by simp) ?_
              refine AllReadyH.cons rfl (fun K1 hK => ?_) AllReadyH.nil
              refine step_append_str1 rfl _ _ rfl _ nkx _ rfl (HOW.out _ _ hbC) _ (tAt ks (k' + 1)).least rfl (by simp) hkx2 w1.heap.size 1 _ (hq2 _) (HFK.out _ _ hbC) hnbx ?_
              intro a5 n5 c5 w5 hO5 hg5 ha5 hc5 hf5
              refine hK.out _ _ ?_ (fun hHeld => ?_)
              · first | assumption | exact ko4 ⟨T0.out.cells, only_drew _ _ 1⟩ | exact ko4o (only_of_below hbC _) (by assumption) | exact ko4o (only_alloc _ _ _) (by assumption) | exact ko4o (only_of_grown hg5 (fun y e => .inl e)) (by assumption) | exact ko4o (only_set (.inr rfl) _) (by assumption)
              clear hK K1
              try simp only [List.getElem_toArray]
              try simp only [List.getElem_cons_succ]
              try simp only [List.getElem_cons_zero]
              try simp only [Act.put]
              try simp only [List.setIfInBounds_toArray]
              try simp only [List.set_cons_succ]
              try simp only [List.set_cons_zero]
              refine wpAnyH_ready (rs := [10]) (by kernel_rfl) (by simp) ?_
              refine AllReadyH.cons rfl (fun K1 hK => ?_) AllReadyH.nil
              go_simp
              try go_wp2_with fail
              refine hK.out _ _ ?_ (fun hHeld => ?_)
              · first | assumption | exact ko4 ⟨T0.out.cells, only_drew _ _ 1⟩ | exact ko4o (only_of_below hbC _) (by assumption) | exact ko4o (only_alloc _ _ _) (by assumption) | exact ko4o (only_of_grown hg5 (fun y e => .inl e)) (by assumption) | exact ko4o (only_set (.inr rfl) _) (by assumption)
              clear hK K1
              try simp only [List.getElem_toArray]
              try simp only [List.getElem_cons_succ]
              try simp only [List.getElem_cons_zero]
              try simp only [Act.put]
              try simp only [List.setIfInBounds_toArray]
              try simp only [List.set_cons_succ]
              try simp only [List.set_cons_zero]
              refine wpAnyH_ready (rs := [11]) (by kernel_rfl) (by simp) ?_
              refine AllReadyH.cons rfl (fun K1 hK => ?_) AllReadyH.nil
              go_simp
              try go_wp2_with fail
              refine hK.out _ _ ?_ (fun hHeld => ?_)
              · first | assumption | exact ko4 ⟨T0.out.cells, only_drew _ _ 1⟩ | exact ko4o (only_of_below hbC _) (by assumption) | exact ko4o (only_alloc _ _ _) (by assumption) | exact ko4o (only_of_grown hg5 (fun y e => .inl e)) (by assumption) | exact ko4o (only_set (.inr rfl) _) (by assumption)
              clear hK K1
              try simp only [List.getElem_toArray]
              try simp only [List.getElem_cons_succ]
              try simp only [List.getElem_cons_zero]
              try simp only [Act.put]
              try simp only [List.setIfInBounds_toArray]
              try simp only [List.set_cons_succ]
              try simp only [List.set_cons_zero]
              refine wpAnyH_done (by kernel_rfl) ?_ _
              refine NoPanic.normal ?_
              have HLX := hid (HFIN.out _ _ hbC _ _ _ _ hO5 hg5 ha5)
              clear hO5 hg5 ha5 hc5 hf5 hbC hq1 hq2 HFIN HFK HCK HOW HLE T0 hgk hpb hnbx HL2 z2 zf n1c n1f pp2 x0 x1 x2 hHeld
              -- the kid's nodes
              have HSUBX := hid (HSUB.out.to HLX.out.only (fun y hy _ e => HSV.out y hy.1 e))
              obtain ⟨gk9, ofk9, hak, _, _, hkid⟩ := HSUBX.out.kids (by omega)
              cases hak
              obtain ⟨l9, ap9, np9, cp9, ak9, nk9, ck9, x0, x1, x2, hs1⟩ := hkid (k' + 1) hlt
              have HS1 := hid hs1
              have pp2 := HLX.out.par.cell (j := 2) rfl
              have HLEN : Hid ((ns ++ ⟨[], [], []⟩ :: layL (ns.length + 1) (ks.take (k' + 1))).length = ns.length + 1 + szL (ks.take (k' + 1))) := by show _ = _; simp [layL_length]; omega
              have HEQ : Hid ((ns ++ ⟨[], [], []⟩ :: layL (ns.length + 1) (ks.take (k' + 1))) ++ lay (ns ++ ⟨[], [], []⟩ :: layL (ns.length + 1) (ks.take (k' + 1))).length (tAt ks (k' + 1)) = ns ++ ⟨[], [], []⟩ :: layL (ns.length + 1) (ks.take (k' + 1 + 1))) := by
                show _ = _
                rw [HLEN.out, layL_take ks (k' + 1) (ns.length + 1) hks]
                simp
              have HBND : Hid ((ns ++ ⟨[], [], []⟩ :: layL (ns.length + 1) (ks.take (k' + 1))).length + (tAt ks (k' + 1)).size ≤ 1048576) := by
                show _ ≤ _
                have h1 := szL_take_le ks (k' + 1 + 1)
                rw [szL_take ks (k' + 1) hks] at h1
                have h2 := HSZK.out
                rw [HLEN.out]
                omega
              have HVS : Hid (∀ y, (S y ∧ y < w.heap.size) → (Value.slice a' n' c').ownBlock ≠ some y) := by
                intro y hy e
                rcases (HLX.out.vb y e).1 with h | h
                · exact HSV.out y hy.1 h
                · omega
              simp only [T.ks] at HS1
              clear hkid hs1 HSUBX
              go_wp2_with fail
              refine (HIH.out (tAt ks (k' + 1)) (tAt_mem hks) (fun y => S y ∧ y < w.heap.size) l9 ap9 ak9 np9 cp9 nk9 ck9 _ Fk a' n' c' (ns ++ ⟨[], [], []⟩ :: layL (ns.length + 1) (ks.take (k' + 1))) false HS1.out HVS.out HLX.out.nodes HBND.out (HBR.out.2.2.2 _ (tAt_mem hks))).mono ?_
              rintro e w9 ⟨v9, rfl, hN9, ho9, hv9⟩
              rw [HEQ.out] at hN9
              obtain ⟨aZ, nZ, cZ, e9, _⟩ := hN9.shape
              subst e9
              have HL9 := hid (HLX.out.sub hN9 ho9 hv9)
              clear hN9 ho9 hv9 x0 x1 x2 pp2 HLX HS1
              go_wp2
              go_roundw
              case rel => exact ⟨k' + 1 + 1, aZ, nZ, cZ, _, _, _, by omega, by go_num, rfl, HL9.out⟩
              case measure => simp [intOf]; omega
      · have hk' : k = nk := by omega
        have HTK : Hid (ks.take k = ks) := by show _ = _; rw [hk', HNK.out, List.take_length]
        rw [HTK.out] at HL
        obtain ⟨g', ha', HNn⟩ := HL.out.nodes.rowAt (by simp; omega)
        subst ha'
        obtain ⟨akx, ckx, hkx⟩ := own_shape HL.out.rx
        generalize (ks.tail.map T.least).length = nkx at hkx
        subst hkx
        obtain ⟨aki, cki, hki⟩ := own_shape HL.out.ri
        generalize (places (ns.length + 1) ks).length = nki at hki
        subst hki
        have n0 := HL.out.nod.cell (j := 0) rfl
        have n1c := HL.out.nod.cell (j := 1) rfl
        have n2c := HL.out.nod.cell (j := 2) rfl
        obtain ⟨⟨x0, x1, x2, m0, m1, m2⟩, mf⟩ := HL.out.nodes.cells ns.length (by simp)
        rw [← HNV.out] at m0 m1 m2
        have mf0 := mf (nv * 3)
        have mf1 := mf (nv * 3 + 1)
        have mf2 := mf (nv * 3 + 2)
        have hltn : (nv : Int) < (n' : Int) := by
          have h1 := HNn.out
          simp at h1
          have h2 := HNV.out
          omega
        have HFIN : Hid (NO (((wr.setCell ⟨g', nv * 3, none⟩ (.slice none 0 0)).setCell ⟨g', nv * 3 + 1, none⟩ (.slice akx nkx ckx)).setCell ⟨g', nv * 3 + 2, none⟩ (.slice aki nki cki)) (fun y => F y ∨ (w.heap.size ≤ y ∧ y < (((wr.setCell ⟨g', nv * 3, none⟩ (.slice none 0 0)).setCell ⟨g', nv * 3 + 1, none⟩ (.slice akx nkx ckx)).setCell ⟨g', nv * 3 + 2, none⟩ (.slice aki nki cki)).heap.size ∧ (Value.slice (some ⟨g', 0, none⟩) n' c').ownBlock ≠ some y)) (.slice (some ⟨g', 0, none⟩) n' c') (ns ++ ⟨[], ks.tail.map T.least, places (ns.length + 1) ks⟩ :: layL (ns.length + 1) ks)) := by
          have hz : (((wr.setCell ⟨g', nv * 3, none⟩ (.slice none 0 0)).setCell ⟨g', nv * 3 + 1, none⟩ (.slice akx nkx ckx)).setCell ⟨g', nv * 3 + 2, none⟩ (.slice aki nki cki)).heap.size = wr.heap.size := by simp [World.setCell]
          rw [hz]
          have hG : ∀ y, (fun y => F y ∨ (w.heap.size ≤ y ∧ y < wr.heap.size ∧ (Value.slice (some ⟨g', 0, none⟩) n' c').ownBlock ≠ some y)) y → y < wr.heap.size ∧ (Value.slice (some ⟨g', 0, none⟩) n' c').ownBlock ≠ some y := by
            rintro y (hy | hy)
            · obtain ⟨V, _, _, _, n4, _⟩ := HL.out.nodes
              exact n4 y (HL.out.ff y hy)
            · exact hy.2
          have hbl : ∀ y, bl (.slice none 0 0, .slice akx nkx ckx, .slice aki nki cki) y → (w.heap.size ≤ y ∧ y < wr.heap.size ∧ (Value.slice (some ⟨g', 0, none⟩) n' c').ownBlock ≠ some y) := by
            rintro y (e | e | e)
            · cases e
            · exact ⟨by have := (HL.out.xb y e).1; omega, (World.ownsRow.lt HL.out.rx y e).2, fun d => (HL.out.vb y d).2.2.1 e⟩
            · exact ⟨by have := (HL.out.ib y e).1; omega, (World.ownsRow.lt HL.out.ri y e).2, fun d => (HL.out.vb y d).2.2.2 e⟩
          have hown : OwN wr (.slice none 0 0, .slice akx nkx ckx, .slice aki nki cki) ⟨[], ks.tail.map T.least, places (ns.length + 1) ks⟩ := ⟨World.ownsRow_nil _ _ _ _, HL.out.rx, HL.out.ri⟩
          have hp : N1K wr (fun y => F y ∨ (w.heap.size ≤ y ∧ y < wr.heap.size ∧ (Value.slice (some ⟨g', 0, none⟩) n' c').ownBlock ≠ some y)) (.slice none 0 0, .slice akx nkx ckx, .slice aki nki cki) ⟨[], ks.tail.map T.least, places (ns.length + 1) ks⟩ :=
            ⟨hown.n1 (fun y hy => .inr (hbl y hy)), hown, fun y => ⟨fun e => by (cases e), fun e => (HL.out.xb y e).2.2⟩, fun y hy => .inr (hbl y hy)⟩
          have := NO.put (ms := ns) (l := layL (ns.length + 1) ks) (z := ⟨[], [], []⟩) rfl HL.out.nodes (fun y hy => ?_) hG _ hp (fun y hy hf => ?_)
          · rw [← HNV.out] at this
            rw [← HNV.out]
            exact this
          · obtain ⟨V, _, _, _, n4, _⟩ := HL.out.nodes
            rcases (HL.out.fk y hy).1 with h | h
            · exact .inl h
            · exact .inr ⟨by omega, n4 y hy⟩
          · rcases hy with e | e | e
            · cases e
            · exact (HL.out.fk y hf).2.2.1 e
            · exact (HL.out.fk y hf).2.2.2 e
        have HOF : Hid (Only (fun y => (Value.slice av nv cv).ownBlock = some y) w (((wr.setCell ⟨g', nv * 3, none⟩ (.slice none 0 0)).setCell ⟨g', nv * 3 + 1, none⟩ (.slice akx nkx ckx)).setCell ⟨g', nv * 3 + 2, none⟩ (.slice aki nki cki))) := by
          refine HL.out.only.then (((only_set (R := fun y => y = g') rfl _).trans (only_set (R := fun y => y = g') rfl _)).trans (only_set (R := fun y => y = g') rfl _)) (fun y hy e => ?_)
          subst e
          rcases (HL.out.vb y rfl).1 with h | h
          · exact h
          · omega
        have HVB : Hid (∀ y, (Value.slice (some ⟨g', 0, none⟩) n' c').ownBlock = some y → (Value.slice av nv cv).ownBlock = some y ∨ w.heap.size ≤ y) := fun y hy => (HL.out.vb y hy).1.imp id (fun h => by omega)
        clear hk' HL mf HNn
        go_wp2
        go_ret
        refine ⟨_, rfl, ?_, HOF.out, HVB.out⟩
        rw [HLY.out]
        exact HFIN.out
end Go.Proofs.Ytkflneeifllpgaa
/-
  l03SameNode of the specification: it tells whether two nodes hold the same.
-/
namespace Go.Proofs.Ytkflneeifllpgaa
open Go.RowKit
theorem neq_pair (a b c d : ByteArray) (w : World) : (binOp .neq 35 (.agg #[.string a, .string b]) (.agg #[.string c, .string d])).run Try.prog w = .ok (.bool (!decide ((a, b) = (c, d)))) w := by
  have u9 := Try.underlying9
  have hS : Try.prog.underlying 35 = some (.struct (Try.prog.fieldsOf 35)) := by kernel_rfl
  have hp : Try.prog.stoodInHeld 35 = false := by kernel_rfl
  rw [run_neq_struct, show (10000 : Nat) = 9999 + 1 from rfl, run_equalIn_agg w 9999 35 _ _ hS hp]
  simp only [Program.fieldsOf, Try.underlying35]
  by_cases h1 : a = c
  · subst h1
    by_cases h2 : b = d
    · subst h2
      rw [decide_eq_true rfl]
      go_simp
    · have t2 := str_beq h2
      rw [decide_eq_false (by simp [h2])]
      clear h2
      go_simp
  · have t1 := str_beq h1
    rw [decide_eq_false (by simp [h1])]
    clear h1
    go_simp
set_option maxHeartbeats 8000000 in
theorem sameNode_any (S S' : Nat → Prop) (ap ax ai ap' ax' ai' : Option Addr) (np cp nx cx ni ci np' cp' nx' cx' ni' ci' : Nat) (x y : NB) (w : World)
    (hP : Pr w S (.slice ap np cp) x.ps) (hS : Sr w S (.slice ax nx cx) x.keys) (hI : Ir w S (.slice ai ni ci) x.kids) (hP' : Pr w S' (.slice ap' np' cp') y.ps) (hS' : Sr w S' (.slice ax' nx' cx') y.keys) (hI' : Ir w S' (.slice ai' ni' ci') y.kids) :
    Calls Try.prog 83 #[.agg #[.slice ap np cp, .slice ax nx cx, .slice ai ni ci], .agg #[.slice ap' np' cp', .slice ax' nx' cx', .slice ai' ni' ci']] w fun e w' => e = .returned (.bool (decide (x = y))) ∧ Below w.heap.size w w' := by
  have HP := hid hP
  have HS := hid hS
  have HI := hid hI
  have HP' := hid hP'
  have HS' := hid hS'
  have HI' := hid hI'
  have lp := hid (Rw.len hP).1
  have ls := hid (Rw.len hS).1
  have li := hid (Rw.len hI).1
  have lp' := hid (Rw.len hP').1
  have ls' := hid (Rw.len hS').1
  have li' := hid (Rw.len hI').1
  have b1 := (Rw.len hP).2
  have b2 := (Rw.len hS).2
  have b3 := (Rw.len hI).2
  have b1' := (Rw.len hP').2
  have b2' := (Rw.len hS').2
  have b3' := (Rw.len hI').2
  clear hP hS hI hP' hS' hI'
  have HB0 : Hid (Below w.heap.size w ((w.alloc (.cells #[.slice ap np cp, .slice ax nx cx, .slice ai ni ci] 106)).alloc (.cells #[.slice ap' np' cp', .slice ax' nx' cx', .slice ai' ni' ci'] 106))) := below_new (below_new (Below.refl _ _))
  have KA : Hid (Bk ((w.alloc (.cells #[.slice ap np cp, .slice ax nx cx, .slice ai ni ci] 106)).alloc (.cells #[.slice ap' np' cp', .slice ax' nx' cx', .slice ai' ni' ci'] 106)) w.heap.size 106 [.slice ap np cp, .slice ax nx cx, .slice ai ni ci]) := (Bk.new w 106 [.slice ap np cp, .slice ax nx cx, .slice ai ni ci]).alloc _
  have KB : Hid (Bk ((w.alloc (.cells #[.slice ap np cp, .slice ax nx cx, .slice ai ni ci] 106)).alloc (.cells #[.slice ap' np' cp', .slice ax' nx' cx', .slice ai' ni' ci'] 106)) (w.heap.size + 1) 106 [.slice ap' np' cp', .slice ax' nx' cx', .slice ai' ni' ci']) := by
    have := Bk.new (w.alloc (.cells #[.slice ap np cp, .slice ax nx cx, .slice ai ni ci] 106)) 106 [.slice ap' np' cp', .slice ax' nx' cx', .slice ai' ni' ci']
    show Bk _ _ _ _
    simpa using this
  by_cases h1 : np = np'
  · have e1 : ((np : Int) != (np' : Int)) = false := by simp [h1]
    by_cases h2 : nx = nx'
    · have e2 : ((nx : Int) != (nx' : Int)) = false := by simp [h2]
      by_cases h3 : ni = ni'
      · have e3 : ((ni : Int) != (ni' : Int)) = false := by simp [h3]
        subst h1 h2 h3
        have HXY : Hid (x.ps = y.ps → x.keys = y.keys → x.kids = y.kids → decide (x = y) = true) := by
          intro q1 q2 q3
          rw [decide_eq_true_eq]
          cases x; cases y; simp_all
        have HNE : Hid (∀ (P : Prop), (x = y → P) → ¬ P → decide (x = y) = false) := fun P q1 q2 => decide_eq_false (fun e => q2 (q1 e))
        go_enter Try.func83, Try.ntmps83
        go_wp2_with fail
        generalize (w.alloc (.cells #[.slice ap np cp, .slice ax nx cx, .slice ai ni ci] 106)).alloc (.cells #[.slice ap' np cp', .slice ax' nx cx', .slice ai' ni ci'] 106) = u at *
        have a0 := KA.out.cell (j := 0) rfl
        have a1 := KA.out.cell (j := 1) rfl
        have a2 := KA.out.cell (j := 2) rfl
        have d0 := KB.out.cell (j := 0) rfl
        have d1 := KB.out.cell (j := 1) rfl
        have d2 := KB.out.cell (j := 2) rfl
        have HPu := hid (HP.out.below HB0.out)
        have HPu' := hid (HP'.out.below HB0.out)
        have HSu := hid (HS.out.below HB0.out)
        have HSu' := hid (HS'.out.below HB0.out)
        have HIu := hid (HI.out.below HB0.out)
        have HIu' := hid (HI'.out.below HB0.out)
        clear KA KB HP HP' HS HS' HI HI'
        go_loopw [36] (fun i wr => ∃ k q : Nat, k ≤ np ∧ i = .int .i64 k ∧ wr = u.drewN q ∧ Hid (x.ps.take k = y.ps.take k)) (fun i _ => np - (intOf i).toNat)
        case atStart => exact ⟨0, 0, Nat.zero_le _, rfl, rfl, rfl⟩
        case round =>
          obtain ⟨k, q, hk, rfl, rfl, HT⟩ := hrel
          by_cases hlt : k < np
          · have hlt' : (k : Int) < (np : Int) := by omega
            obtain ⟨g, off, hap, _, _, hc⟩ := HPu.out.at (by omega)
            obtain ⟨g', off', hap', _, _, hc'⟩ := HPu'.out.at (by omega)
            subst hap hap'
            have m0 := (hc k hlt).1
            have m1 := (hc k hlt).2
            have m0' := (hc' k hlt).1
            have m1' := (hc' k hlt).2
            have HSS : Hid (pAtB x.ps k = pAtB y.ps k → x.ps.take (k + 1) = y.ps.take (k + 1)) := by
              intro e
              have hl : k < x.ps.length := by rw [← lp.out]; exact hlt
              have hl' : k < y.ps.length := by rw [← lp'.out]; exact hlt
              rw [List.take_succ_eq_append_getElem hl, List.take_succ_eq_append_getElem hl', HT.out]
              simp [pAtB, hl, hl'] at e
              rw [e]
            have HFF : Hid (pAtB x.ps k ≠ pAtB y.ps k → decide (x = y) = false) := fun e => HNE.out _ (fun q => by rw [q]) e
            clear hc hc'
            generalize pAtB x.ps k = cx1 at *
            generalize pAtB y.ps k = cx2 at *
            obtain ⟨k1, v1⟩ := cx1
            obtain ⟨k2, v2⟩ := cx2
            have hnq := neq_pair k1 v1 k2 v2
            by_cases he : (k1, v1) = (k2, v2)
            · have HS1 := hid (HSS.out he)
              rw [decide_eq_true he] at hnq
              clear he HSS HFF
              go_wp2_with fail
              go_quiet (fail)
              go_wp2
              go_roundw
              case rel => exact ⟨k + 1, q + nq, by omega, by go_num, rfl, HS1.out⟩
              case measure => simp [intOf]; omega
            · have HF1 := hid (HFF.out he)
              rw [decide_eq_false he] at hnq
              clear he HSS HFF
              go_wp2_with fail
              go_quiet (fail)
              go_wp2
              go_ret
              exact ⟨by rw [HF1.out]; rfl, Below.drewN' (Below.drewN' HB0.out _) _⟩
          · have HQ1 : Hid (x.ps = y.ps) := by
              show _ = _
              have e := HT.out
              rwa [List.take_of_length_le (by rw [← lp.out]; omega), List.take_of_length_le (by rw [← lp'.out]; omega)] at e
            clear HT
            go_wp2_with fail
            go_loopw [54] (fun i wr => ∃ k q : Nat, k ≤ nx ∧ i = .int .i64 k ∧ wr = u.drewN q ∧ Hid (x.keys.take k = y.keys.take k)) (fun i _ => nx - (intOf i).toNat)
            case atStart => exact ⟨0, q, Nat.zero_le _, rfl, rfl, rfl⟩
            case round =>
              clear hk hlt
              obtain ⟨k, q, hk, rfl, rfl, HT⟩ := hrel
              by_cases hlt : k < nx
              · have hlt' : (k : Int) < (nx : Int) := by omega
                obtain ⟨g, off, hap, _, _, hc⟩ := HSu.out.at (by omega)
                obtain ⟨g', off', hap', _, _, hc'⟩ := HSu'.out.at (by omega)
                subst hap hap'
                have m0 := hc k hlt
                have m0' := hc' k hlt
                have HSS : Hid (sAt x.keys k = sAt y.keys k → x.keys.take (k + 1) = y.keys.take (k + 1)) := by
                  intro e
                  have hl : k < x.keys.length := by rw [← ls.out]; exact hlt
                  have hl' : k < y.keys.length := by rw [← ls'.out]; exact hlt
                  rw [List.take_succ_eq_append_getElem hl, List.take_succ_eq_append_getElem hl', HT.out]
                  simp [sAt, hl, hl'] at e
                  rw [e]
                have HFF : Hid (sAt x.keys k ≠ sAt y.keys k → decide (x = y) = false) := fun e => HNE.out _ (fun q => by rw [q]) e
                clear hc hc'
                generalize sAt x.keys k = k1 at *
                generalize sAt y.keys k = k2 at *
                by_cases he : k1 = k2
                · have HS1 := hid (HSS.out he)
                  subst he
                  skip
                  clear HSS HFF
                  go_wp2_with fail
                  go_quiet (fail)
                  go_wp2
                  go_roundw
                  case rel => exact ⟨k + 1, q + nq, by omega, by go_num, rfl, HS1.out⟩
                  case measure => simp [intOf]; omega
                · have HF1 := hid (HFF.out he)
                  have t := str_beq he
                  clear he HSS HFF
                  go_wp2_with fail
                  go_quiet (fail)
                  go_wp2
                  go_ret
                  exact ⟨by rw [HF1.out]; rfl, Below.drewN' (Below.drewN' HB0.out _) _⟩
              · have HQ2 : Hid (x.keys = y.keys) := by
                  show _ = _
                  have e := HT.out
                  rwa [List.take_of_length_le (by rw [← ls.out]; omega), List.take_of_length_le (by rw [← ls'.out]; omega)] at e
                clear HT
                go_wp2_with fail
                go_loopw [72] (fun i wr => ∃ k q : Nat, k ≤ ni ∧ i = .int .i64 k ∧ wr = u.drewN q ∧ Hid (x.kids.take k = y.kids.take k)) (fun i _ => ni - (intOf i).toNat)
                case atStart => exact ⟨0, q, Nat.zero_le _, rfl, rfl, rfl⟩
                case round =>
                  clear hk hlt
                  obtain ⟨k, q, hk, rfl, rfl, HT⟩ := hrel
                  by_cases hlt : k < ni
                  · have hlt' : (k : Int) < (ni : Int) := by omega
                    obtain ⟨g, off, hap, _, _, hc⟩ := HIu.out.at (by omega)
                    obtain ⟨g', off', hap', _, _, hc'⟩ := HIu'.out.at (by omega)
                    subst hap hap'
                    have m0 := hc k hlt
                    have m0' := hc' k hlt
                    have HSS : Hid (iAt x.kids k = iAt y.kids k → x.kids.take (k + 1) = y.kids.take (k + 1)) := by
                      intro e
                      have hl : k < x.kids.length := by rw [← li.out]; exact hlt
                      have hl' : k < y.kids.length := by rw [← li'.out]; exact hlt
                      rw [List.take_succ_eq_append_getElem hl, List.take_succ_eq_append_getElem hl', HT.out]
                      simp [iAt, hl, hl'] at e
                      rw [e]
                    have HFF : Hid (iAt x.kids k ≠ iAt y.kids k → decide (x = y) = false) := fun e => HNE.out _ (fun q => by rw [q]) e
                    clear hc hc'
                    generalize iAt x.kids k = k1 at *
                    generalize iAt y.kids k = k2 at *
                    by_cases he : k1 = k2
                    · have HS1 := hid (HSS.out he)
                      subst he
                      have t : (k1 != k1) = false := by simp
                      clear HSS HFF
                      go_wp2_with fail
                      go_quiet (fail)
                      go_wp2
                      go_roundw
                      case rel => exact ⟨k + 1, q + nq, by omega, by go_num, rfl, HS1.out⟩
                      case measure => simp [intOf]; omega
                    · have HF1 := hid (HFF.out he)
                      have t : (k1 != k2) = true := by simp [he]
                      clear he HSS HFF
                      go_wp2_with fail
                      go_quiet (fail)
                      go_wp2
                      go_ret
                      exact ⟨by rw [HF1.out]; rfl, Below.drewN' (Below.drewN' HB0.out _) _⟩
                  · have HQ3 : Hid (x.kids = y.kids) := by
                      show _ = _
                      have e := HT.out
                      rwa [List.take_of_length_le (by rw [← li.out]; omega), List.take_of_length_le (by rw [← li'.out]; omega)] at e
                    clear HT
                    have HF := hid (HXY.out HQ1.out HQ2.out HQ3.out)
                    go_wp2
                    go_ret
                    exact ⟨by rw [HF.out]; rfl, Below.drewN' HB0.out _⟩
      · have HF : Hid (decide (x = y) = false) := by
          show _ = _
          rw [decide_eq_false_iff_not]
          rintro rfl
          exact h3 (by rw [li.out, li'.out])
        have e3 : ((ni : Int) != (ni' : Int)) = true := by simp; omega
        clear h3
        go_enter Try.func83, Try.ntmps83
        go_wp2
        go_ret
        exact ⟨by rw [HF.out]; rfl, below_new (below_new (Below.refl _ _))⟩
    · have HF : Hid (decide (x = y) = false) := by
        show _ = _
        rw [decide_eq_false_iff_not]
        rintro rfl
        exact h2 (by rw [ls.out, ls'.out])
      have e2 : ((nx : Int) != (nx' : Int)) = true := by simp; omega
      clear h2
      go_enter Try.func83, Try.ntmps83
      go_wp2
      go_ret
      exact ⟨by rw [HF.out]; rfl, below_new (below_new (Below.refl _ _))⟩
  · have HF : Hid (decide (x = y) = false) := by
      show _ = _
      rw [decide_eq_false_iff_not]
      rintro rfl
      exact h1 (by rw [lp.out, lp'.out])
    have e1 : ((np : Int) != (np' : Int)) = true := by simp; omega
    clear h1
    go_enter Try.func83, Try.ntmps83
    go_wp2
    go_ret
    exact ⟨by rw [HF.out]; rfl, below_new (below_new (Below.refl _ _))⟩
end Go.Proofs.Ytkflneeifllpgaa
/-
  TreeOk of the specification.
-/
namespace Go.Proofs.Ytkflneeifllpgaa
open Go.RowKit
theorem rdSL_info (f : Nat) (rd : Int → Option (T × Nat)) (hrd : ∀ a t n, rd a = some (t, n) → 0 ≤ a ∧ (n : Int) = a + t.size ∧ t.ht ≤ f) : ∀ (kids : List Int) (nx : Nat) (ts : List T) (n : Nat), rdSL rd kids nx = some (ts, n) → n = nx + szL ts ∧ htL ts ≤ f
  | [], nx, ts, n, h => by
    simp only [rdSL, Option.some.injEq, Prod.mk.injEq] at h
    obtain ⟨rfl, rfl⟩ := h
    simp [szL, htL]
  | k :: kids, nx, ts, n, h => by
    simp only [rdSL] at h
    split at h
    · cases h
    · rename_i he
      cases hr : rd k with
      | none => simp [hr] at h
      | some x =>
        obtain ⟨t, n1⟩ := x
        simp only [hr] at h
        cases hs : rdSL rd kids n1 with
        | none => simp [hs] at h
        | some y =>
          obtain ⟨ts', n2⟩ := y
          simp only [hs, Option.some.injEq, Prod.mk.injEq] at h
          obtain ⟨rfl, rfl⟩ := h
          have h1 := hrd k t n1 hr
          have h2 := rdSL_info f rd hrd kids n1 ts' n2 hs
          have he' : k = (nx : Int) := by
            by_cases q : k = (nx : Int)
            · exact q
            · exact absurd q he
          simp only [szL, htL]
          omega
theorem rdS_info (ns : List NB) : ∀ (f : Nat) (a : Int) (t : T) (n : Nat), rdS ns f a = some (t, n) → 0 ≤ a ∧ (n : Int) = a + t.size ∧ t.ht ≤ f
  | 0, a, t, n, h => by simp [rdS] at h
  | f + 1, a, t, n, h => by
    rw [rdS] at h
    split at h
    · cases h
    · rename_i hc
      cases hs : rdSL (rdS ns f) (nAt ns a.toNat).kids (a.toNat + 1) with
      | none => simp [hs] at h
      | some x =>
        obtain ⟨ts, n1⟩ := x
        simp only [hs, Option.some.injEq, Prod.mk.injEq] at h
        obtain ⟨rfl, rfl⟩ := h
        have := rdSL_info f (rdS ns f) (rdS_info ns f) _ _ _ _ hs
        simp only [T.size, T.ht]
        omega
theorem kc7 {u v : World} {a0 a1 a2 a3 a4 a5 a6 : Addr} {x0 x1 x2 x3 x4 x5 x6 : Value} (h : KC u v [(a0, x0), (a1, x1), (a2, x2), (a3, x3), (a4, x4), (a5, x5), (a6, x6)]) : v.cell? a0 = some x0 ∧ v.cell? a1 = some x1 ∧ v.cell? a2 = some x2 ∧ v.cell? a3 = some x3 ∧ v.cell? a4 = some x4 ∧ v.cell? a5 = some x5 ∧ v.cell? a6 = some x6 ∧ KC u v [(a0, x0), (a1, x1), (a2, x2), (a3, x3), (a4, x4), (a5, x5), (a6, x6)] := ⟨h.at (by simp), h.at (by simp), h.at (by simp), h.at (by simp), h.at (by simp), h.at (by simp), h.at (by simp), h⟩
theorem kc7c {u v v' : World} {a0 a1 a2 a3 a4 a5 a6 : Addr} {x0 x1 x2 x3 x4 x5 x6 : Value} (k : Below v.heap.size v v') (h : v.cell? a0 = some x0 ∧ v.cell? a1 = some x1 ∧ v.cell? a2 = some x2 ∧ v.cell? a3 = some x3 ∧ v.cell? a4 = some x4 ∧ v.cell? a5 = some x5 ∧ v.cell? a6 = some x6 ∧ KC u v [(a0, x0), (a1, x1), (a2, x2), (a3, x3), (a4, x4), (a5, x5), (a6, x6)]) : v'.cell? a0 = some x0 ∧ v'.cell? a1 = some x1 ∧ v'.cell? a2 = some x2 ∧ v'.cell? a3 = some x3 ∧ v'.cell? a4 = some x4 ∧ v'.cell? a5 = some x5 ∧ v'.cell? a6 = some x6 ∧ KC u v' [(a0, x0), (a1, x1), (a2, x2), (a3, x3), (a4, x4), (a5, x5), (a6, x6)] := kc7 (KC.call h.2.2.2.2.2.2.2 k)
set_option maxHeartbeats 8000000 in
theorem specTreeOk_any (ns : List NB) (hlen : ns.length ≤ 1048576) (hsm : smallN ns) (S : Nat → Prop) (an : Option Addr) (nn cn : Nat) (w : World) (hN : Nr w S (.slice an nn cn) ns) :
    Calls Try.prog 38 #[.agg #[.slice an nn cn]] w fun e w' => e = .returned (.bool (spOk ns)) ∧ Below w.heap.size w w' := by
  have hnn := hid hN.len.1
  have hnn2 := hN.len.2.1
  have hnn3 := hN.len.2.2
  have HN := hid hN
  clear hN
  have HB0 := hid (below_new (o := .cells #[.slice an nn cn] 25) (w := w) (Below.refl _ _))
  have KT := hid (Bk.new w 25 [.slice an nn cn])
  by_cases h0 : nn = 0
  · have HR : Hid (spOk ns = true) := by show _ = _; rw [spOk, if_pos]; rw [← hnn.out]; exact h0
    clear HN hnn
    subst h0
    go_enter Try.func38, Try.ntmps38
    go_wp2
    go_ret
    exact ⟨by rw [HR.out]; rfl, HB0.out⟩
  · have e1 : ((nn : Int) == 0) = false := by simp; omega
    by_cases h4 : 400 < nn
    · have e2 : (400 : Int) < (nn : Int) := by omega
      have HR : Hid (spOk ns = false) := by show _ = _; rw [spOk, if_neg, if_pos] <;> rw [← hnn.out] <;> assumption
      clear h0 h4
      go_enter Try.func38, Try.ntmps38
      go_wp2
      go_ret
      exact ⟨by rw [HR.out]; rfl, HB0.out⟩
    · have e2 : ¬ (400 : Int) < (nn : Int) := by omega
      have HRS : Hid (spOk ns = match rdS ns 13 0 with
          | none => false
          | some (t, n) => decide (n = ns.length) && t.full true && decide (0 ≤ t.dp) && pOk t.all && decide (lay 0 t = ns)) := by
        show _ = _
        rw [spOk, if_neg (by rw [← hnn.out]; exact h0), if_neg (by rw [← hnn.out]; exact h4)]
        try (cases rdS ns 13 0 <;> rfl)
      have HRT : Hid (rootS ns = match rdS ns 13 0 with
          | none => none
          | some (t, n) => if n = ns.length then some t else none) := by
        show _ = _
        rw [rootS, if_neg (by rw [← hnn.out]; exact h0)]
        try (cases rdS ns 13 0 <;> rfl)
      have hnl : nn ≤ 400 := by omega
      clear h0 h4
      go_enter Try.func38, Try.ntmps38
      go_wp2_with fail
      refine (specRoot_any ns hlen hsm S an nn cn _ (HN.out.below HB0.out)).mono ?_
      generalize w.alloc (.cells #[.slice an nn cn] 25) = U at *
      rintro e w1 ⟨hpost, hb1⟩
      have HB1 := hid (HB0.out.trans (hb1.mono HB0.out.size))
      have KT1 := hid (KT.out.below hb1)
      cases hr : rootS ns with
      | none =>
        rw [hr] at hpost
        obtain ⟨lf, ap, np, cp, ak, nk, ck, he⟩ := hpost
        subst he
        have HR : Hid (spOk ns = false) := by
          show _ = _
          rw [HRS.out]
          have h1 := HRT.out
          rw [hr] at h1
          cases hx : rdS ns 13 0 with
          | none => rfl
          | some x =>
            obtain ⟨t, n⟩ := x
            rw [hx] at h1
            simp only at h1 ⊢
            split at h1
            · cases h1
            · rename_i hn
              simp [hn]
        clear hb1 hr
        go_wp2
        go_ret
        exact ⟨by rw [HR.out]; rfl, HB1.out.alloc HB1.out.size _⟩
      | some t =>
        rw [hr] at hpost
        obtain ⟨lf, ap, np, cp, ak, nk, ck, he, hsub⟩ := hpost
        subst he
        have HRD : Hid (rdS ns 13 0 = some (t, ns.length)) := by
          show _ = _
          have h1 := HRT.out
          rw [hr] at h1
          cases hx : rdS ns 13 0 with
          | none => rw [hx] at h1; cases h1
          | some x =>
            obtain ⟨t', n⟩ := x
            rw [hx] at h1
            simp only at h1
            split at h1
            · rename_i hn; cases h1; rw [hn]
            · cases h1
        have HSP : Hid (spOk ns = (t.full true && decide (0 ≤ t.dp) && pOk t.all && decide (lay 0 t = ns))) := by
          show _ = _
          rw [HRS.out, HRD.out]
          simp
        have HTI := hid (rdS_info ns 13 0 t ns.length HRD.out)
        have HB2 := hid (HB1.out.alloc HB1.out.size (.cells #[.bool lf, .slice ap np cp, .slice ak nk ck] 74))
        have KT2 := hid (KT1.out.alloc (.cells #[.bool lf, .slice ap np cp, .slice ak nk ck] 74))
        have KS2 := hid (Bk.new w1 74 [.bool lf, .slice ap np cp, .slice ak nk ck])
        have HS2 : Hid (Sub (w1.alloc (.cells #[.bool lf, .slice ap np cp, .slice ak nk ck] 74)) (fun y => U.heap.size ≤ y ∧ y < w1.heap.size) lf (.slice ap np cp) (.slice ak nk ck) t) := hsub.kept (below_new (Below.refl _ _))
        clear hb1 hr hsub KT KT1 HB0 HB1 HRS HRT
        go_wp2_with fail
        refine (specFull_any t _ true lf ap ak np cp nk ck _ HS2.out).mono ?_
        generalize hgw : w1.heap.size = sb at *
        clear hgw
        generalize w1.alloc (.cells #[.bool lf, .slice ap np cp, .slice ak nk ck] 74) = w2 at *
        rintro e w3 ⟨rfl, hb3⟩
        have HB3 := hid (HB2.out.trans (hb3.mono HB2.out.size))
        have KT3 := hid (KT2.out.below hb3)
        have KS3 := hid (KS2.out.below hb3)
        have HS3 := hid (HS2.out.kept hb3)
        clear hb3 HB2 KT2 KS2 HS2
        cases hfu : t.full true
        · have HR : Hid (spOk ns = false) := by show _ = _; rw [HSP.out, hfu]; rfl
          clear hfu
          go_wp2
          go_ret
          exact ⟨by rw [HR.out]; rfl, HB3.out⟩
        · have HFU := hid hfu
          clear hfu
          have s0 := KS3.out.cell (j := 0) rfl
          have s1 := KS3.out.cell (j := 1) rfl
          have s2 := KS3.out.cell (j := 2) rfl
          go_wp2_with fail
          refine (specDeep_any t _ lf ap ak np cp nk ck w3 HS3.out (by have := HTI.out.2.2; omega)).mono ?_
          rintro e w4 ⟨rfl, hb4⟩
          have HB4 := hid (HB3.out.trans (hb4.mono HB3.out.size))
          have KT4 := hid (KT3.out.below hb4)
          have KS4 := hid (KS3.out.below hb4)
          have HS4 := hid (HS3.out.kept hb4)
          clear hb4 HB3 KT3 KS3 HS3 s0 s1 s2
          by_cases hdp : t.dp < 0
          · have HR : Hid (spOk ns = false) := by show _ = _; rw [HSP.out, decide_eq_false (by omega : ¬ 0 ≤ t.dp)]; simp
            generalize t.dp = dd at *
            go_wp2
            go_ret
            exact ⟨by rw [HR.out]; rfl, HB4.out⟩
          · have HDP := hid hdp
            have hal : t.all.length ≤ 1048576 := by
              have h1 := full_all_le t true HFU.out
              have h2 := HTI.out.2.1
              have h3 := hnn.out
              omega
            have s0 := KS4.out.cell (j := 0) rfl
            have s1 := KS4.out.cell (j := 1) rfl
            have s2 := KS4.out.cell (j := 2) rfl
            have HAL := hid hal
            clear hal
            generalize hdd : t.dp = dd at hdp
            clear hdd
            go_wp2_with fail
            refine (specPairs_any t _ lf ap ak np cp nk ck w4 HS4.out HAL.out).mono ?_
            rintro e w5 ⟨v5, rfl, hO5, hb5⟩
            obtain ⟨a5, n5, c5, hv5, HN5⟩ := hO5.shape'
            subst hv5
            have HO5 := hid hO5
            have HB5 := hid (HB4.out.trans (hb5.mono HB4.out.size))
            have KT5 := hid (KT4.out.below hb5)
            have KS5 := hid (KS4.out.below hb5)
            have HS5 := hid (HS4.out.kept hb5)
            clear hb5 hO5 HB4 KT4 KS4 HS4 s0 s1 s2
            go_wp2_with fail
            refine (specPairsOk_any (fun _ => True) _ t.all w5 (HO5.out.pr (fun _ _ _ _ => trivial))).mono ?_
            rintro e w6 ⟨rfl, hb6⟩
            have HB6 := hid (HB5.out.trans (hb6.mono HB5.out.size))
            have KT6 := hid (KT5.out.below hb6)
            have KS6 := hid (KS5.out.below hb6)
            have HS6 := hid (HS5.out.kept hb6)
            clear hb6 HB5 KT5 KS5 HS5 HO5 HN5
            cases hpk : pOk t.all
            · have HR : Hid (spOk ns = false) := by show _ = _; rw [HSP.out, hpk]; simp
              clear hpk
              go_wp2
              go_ret
              exact ⟨by rw [HR.out]; rfl, HB6.out⟩
            · have HRV : Hid (spOk ns = decide (lay 0 t = ns)) := by show _ = _; rw [HSP.out, hpk, HFU.out, decide_eq_true (by have := HDP.out; omega : 0 ≤ t.dp)]; simp
              have s0 := KS6.out.cell (j := 0) rfl
              have s1 := KS6.out.cell (j := 1) rfl
              have s2 := KS6.out.cell (j := 2) rfl
              clear hpk HSP
              go_wp2_with fail
              refine (specLay_any t _ lf ap ak np cp nk ck w6 (fun _ => False) none 0 0 [] true HS6.out (fun y _ => by simp [Value.ownBlock]) (no_nil w6) (by have h2 := HTI.out.2.1; have h3 := hnn.out; simp; omega) HFU.out).mono ?_
              rintro e w7 ⟨v7, rfl, hN7, ho7, _⟩
              have hb7 : Below w6.heap.size w6 w7 := ho7.below (Nat.le_refl _) (fun b _ => by simp [Value.ownBlock])
              obtain ⟨a7, n7, c7, hv7, HN7L⟩ := hN7.shape
              subst hv7
              have HNR : Hid (Nr w7 (fun _ => True) (.slice a7 n7 c7) (lay 0 t)) := hN7.nr (fun _ _ => trivial)
              have HB7 := hid (HB6.out.trans (hb7.mono HB6.out.size))
              have KT7 := hid (KT6.out.below hb7)
              have HLL : Hid (n7 = nn) := by
                have h1 := HN7L.out
                have h2 := HTI.out.2.1
                have h3 := hnn.out
                simp [lay_length] at h1
                show _ = _
                omega
              have hn7 : n7 = nn := HLL.out
              clear hN7 ho7 hb7 HB6 KT6 KS6 HS6 HN7L s0 s1 s2
              subst hn7
              have t0 := KT7.out.cell (j := 0) rfl
              have hz : ((n7 : Int) != (n7 : Int)) = false := by simp
              have HTN : Hid (n7 = (lay 0 t).length) := HNR.out.len.1
              go_wp2_with fail
              go_loopw [48] (fun i wr => ∃ k : Nat, k ≤ n7 ∧ i = .int .i64 k ∧ Hid (Below w7.heap.size w7 wr) ∧ Hid ((lay 0 t).take k = ns.take k)) (fun i _ => n7 - (intOf i).toNat)
              case atStart => exact ⟨0, Nat.zero_le _, rfl, Below.refl _ _, rfl⟩
              case round =>
                obtain ⟨k, hk, rfl, HB, HT⟩ := hrel
                have HBB := hid (HB7.out.trans (HB.out.mono HB7.out.size))
                by_cases hlt : k < n7
                · have hlt' : (k : Int) < (n7 : Int) := by omega
                  have HP := hid (HNR.out.below HB.out)
                  have HP' := hid (HN.out.below HBB.out)
                  obtain ⟨bA, oA, hA, _, _, hcell⟩ := HP.out.at (by omega)
                  obtain ⟨bT, oT, hT, _, _, hcell'⟩ := HP'.out.at (by omega)
                  subst hA hT
                  obtain ⟨ap1, np1, cp1, ax1, nx1, cx1, ai1, ni1, ci1, x0, x1, x2, hp, hx, hi⟩ := hcell k hlt
                  obtain ⟨ap2, np2, cp2, ax2, nx2, cx2, ai2, ni2, ci2, y0, y1, y2, hp', hx', hi'⟩ := hcell' k hlt
                  have tt := (KT7.out.below HB.out).cell (j := 0) rfl
                  have HC : Hid (∀ v, Below wr.heap.size wr v → Calls Try.prog 83 #[.agg #[.slice ap1 np1 cp1, .slice ax1 nx1 cx1, .slice ai1 ni1 ci1], .agg #[.slice ap2 np2 cp2, .slice ax2 nx2 cx2, .slice ai2 ni2 ci2]] v fun e w' => e = .returned (.bool (decide (nAt (lay 0 t) k = nAt ns k))) ∧ Below v.heap.size v w') := fun v hv =>
                    sameNode_any _ _ ap1 ax1 ai1 ap2 ax2 ai2 np1 cp1 nx1 cx1 ni1 ci1 np2 cp2 nx2 cx2 ni2 ci2 (nAt (lay 0 t) k) (nAt ns k) v (hp.below hv) (hx.below hv) (hi.below hv) (hp'.below hv) (hx'.below hv) (hi'.below hv)
                  have HSS : Hid (nAt (lay 0 t) k = nAt ns k → (lay 0 t).take (k + 1) = ns.take (k + 1)) := by
                    intro e
                    have hl : k < (lay 0 t).length := by rw [← HTN.out]; exact hlt
                    have hl' : k < ns.length := by rw [← hnn.out]; exact hlt
                    rw [List.take_succ_eq_append_getElem hl, List.take_succ_eq_append_getElem hl', HT.out]
                    simp [nAt, hl, hl'] at e
                    rw [e]
                  have HFF : Hid (nAt (lay 0 t) k ≠ nAt ns k → spOk ns = false) := by
                    intro e
                    rw [HRV.out, decide_eq_false_iff_not]
                    intro e'
                    exact e (by rw [e'])
                  have T0 : Hid (KC wr wr [(⟨bA, oA + k * 3, none⟩, .slice ap1 np1 cp1), (⟨bA, oA + k * 3 + 1, none⟩, .slice ax1 nx1 cx1), (⟨bA, oA + k * 3 + 2, none⟩, .slice ai1 ni1 ci1), (⟨bT, oT + k * 3, none⟩, .slice ap2 np2 cp2), (⟨bT, oT + k * 3 + 1, none⟩, .slice ax2 nx2 cx2), (⟨bT, oT + k * 3 + 2, none⟩, .slice ai2 ni2 ci2), (⟨w.heap.size, 0, none⟩, .slice (some ⟨bT, oT, none⟩) n7 cn)]) := ⟨fun p hp => by simp at hp; rcases hp with rfl | rfl | rfl | rfl | rfl | rfl | rfl <;> assumption, Below.refl _ _⟩
                  clear hcell hcell' HP HP' HT hp hx hi hp' hx' hi' x0 x1 x2 y0 y1 y2 tt t0
                  generalize nAt (lay 0 t) k = cx1' at *
                  generalize nAt ns k = cx2' at *
                  by_cases he : cx1' = cx2'
                  · have HS1 := hid (HSS.out he)
                    rw [decide_eq_true he] at HC
                    clear he HSS HFF
                    go_wp2_with fail
                    go_region_held3 (fun v => v.cell? ⟨bA, oA + k * 3, none⟩ = some (.slice ap1 np1 cp1) ∧ v.cell? ⟨bA, oA + k * 3 + 1, none⟩ = some (.slice ax1 nx1 cx1) ∧ v.cell? ⟨bA, oA + k * 3 + 2, none⟩ = some (.slice ai1 ni1 ci1) ∧ v.cell? ⟨bT, oT + k * 3, none⟩ = some (.slice ap2 np2 cp2) ∧ v.cell? ⟨bT, oT + k * 3 + 1, none⟩ = some (.slice ax2 nx2 cx2) ∧ v.cell? ⟨bT, oT + k * 3 + 2, none⟩ = some (.slice ai2 ni2 ci2) ∧ v.cell? ⟨w.heap.size, 0, none⟩ = some (.slice (some ⟨bT, oT, none⟩) n7 cn) ∧ KC wr v [(⟨bA, oA + k * 3, none⟩, .slice ap1 np1 cp1), (⟨bA, oA + k * 3 + 1, none⟩, .slice ax1 nx1 cx1), (⟨bA, oA + k * 3 + 2, none⟩, .slice ai1 ni1 ci1), (⟨bT, oT + k * 3, none⟩, .slice ap2 np2 cp2), (⟨bT, oT + k * 3 + 1, none⟩, .slice ax2 nx2 cx2), (⟨bT, oT + k * 3 + 2, none⟩, .slice ai2 ni2 ci2), (⟨w.heap.size, 0, none⟩, .slice (some ⟨bT, oT, none⟩) n7 cn)])
                      (first | assumption | exact kc7 (T0.out.call (below_drew _)) | exact kc7c hbC (by assumption))
                      (first | (go_at_call 83; refine (HC.out _ (KC.bel (by first | exact (by assumption : _ ∧ _ ∧ _ ∧ _ ∧ _ ∧ _ ∧ _ ∧ _).2.2.2.2.2.2.2))).mono ?_; rintro e w' ⟨rfl, hbC⟩))
                    all_goals (rename_i hS; have HB8 := hid (Below.then' HB.out hS.2.2.2.2.2.2.2.bel (Nat.le_refl _)); clear hS; go_wp2)
                    go_roundw
                    case rel => exact ⟨k + 1, by omega, by go_num, HB8.out, HS1.out⟩
                    case measure => simp [intOf]; omega
                  · have HF1 := hid (HFF.out he)
                    rw [decide_eq_false he] at HC
                    clear he HSS HFF
                    go_wp2_with fail
                    go_region_held3 (fun v => v.cell? ⟨bA, oA + k * 3, none⟩ = some (.slice ap1 np1 cp1) ∧ v.cell? ⟨bA, oA + k * 3 + 1, none⟩ = some (.slice ax1 nx1 cx1) ∧ v.cell? ⟨bA, oA + k * 3 + 2, none⟩ = some (.slice ai1 ni1 ci1) ∧ v.cell? ⟨bT, oT + k * 3, none⟩ = some (.slice ap2 np2 cp2) ∧ v.cell? ⟨bT, oT + k * 3 + 1, none⟩ = some (.slice ax2 nx2 cx2) ∧ v.cell? ⟨bT, oT + k * 3 + 2, none⟩ = some (.slice ai2 ni2 ci2) ∧ v.cell? ⟨w.heap.size, 0, none⟩ = some (.slice (some ⟨bT, oT, none⟩) n7 cn) ∧ KC wr v [(⟨bA, oA + k * 3, none⟩, .slice ap1 np1 cp1), (⟨bA, oA + k * 3 + 1, none⟩, .slice ax1 nx1 cx1), (⟨bA, oA + k * 3 + 2, none⟩, .slice ai1 ni1 ci1), (⟨bT, oT + k * 3, none⟩, .slice ap2 np2 cp2), (⟨bT, oT + k * 3 + 1, none⟩, .slice ax2 nx2 cx2), (⟨bT, oT + k * 3 + 2, none⟩, .slice ai2 ni2 ci2), (⟨w.heap.size, 0, none⟩, .slice (some ⟨bT, oT, none⟩) n7 cn)])
                      (first | assumption | exact kc7 (T0.out.call (below_drew _)) | exact kc7c hbC (by assumption))
                      (first | (go_at_call 83; refine (HC.out _ (KC.bel (by first | exact (by assumption : _ ∧ _ ∧ _ ∧ _ ∧ _ ∧ _ ∧ _ ∧ _).2.2.2.2.2.2.2))).mono ?_; rintro e w' ⟨rfl, hbC⟩))
                    all_goals (rename_i hS; have HB8 := hid (Below.then' HBB.out hS.2.2.2.2.2.2.2.bel (Nat.le_refl _)); clear hS; go_wp2)
                    go_ret
                    exact ⟨by rw [HF1.out]; rfl, HB8.out⟩
                · have HF : Hid (spOk ns = true) := by
                    show _ = _
                    rw [HRV.out, decide_eq_true_eq]
                    have e := HT.out
                    rwa [List.take_of_length_le (by rw [← HTN.out]; omega), List.take_of_length_le (by rw [← hnn.out]; omega)] at e
                  clear HT
                  go_wp2
                  go_ret
                  exact ⟨by rw [HF.out]; rfl, HBB.out⟩
end Go.Proofs.Ytkflneeifllpgaa
/-
  What is known of a tree that is read.
-/
namespace Go.Proofs.Ytkflneeifllpgaa
open Go.RowKit
structure OkF (ns : List NB) (t : T) : Prop where
  root : rootS ns = some t
  few : t.ps.length + t.ks.length ≤ 8
  lv : t.lv ≤ 13
  ht : t.ht ≤ 13
  all : t.all.length ≤ 200
  ok : pOk t.all = true
  dp : ns.length ≠ 0 → t.dp = t.dpt
  nil : ns.length = 0 → t = .mk [] []
theorem okT_facts {ns : List NB} {t : T} (h : okT ns = some t) : OkF ns t := by
  by_cases hne : ns.length = 0
  · rw [okT, if_pos hne] at h
    cases h
    exact ⟨by rw [rootS, if_pos hne], by decide, by decide, by decide, by decide, by decide, fun h => absurd hne h, fun _ => rfl⟩
  · have g := (okT_good hne).1 h
    have hr := g.read
    have hi := rdS_info ns 13 0 t ns.length hr
    have hf := g.full
    obtain ⟨e, he⟩ := g.even
    obtain ⟨ps, ks⟩ := t
    have hfew : (T.mk ps ks).ps.length + (T.mk ps ks).ks.length ≤ 8 ∧ (T.mk ps ks).bare = false := by
      show ps.length + ks.length ≤ 8 ∧ (decide (ps.length + ks.length = 0) = false)
      rw [T.full] at hf
      split at hf
      · rename_i hk
        subst hk
        simp at hf
        constructor
        · simp; omega
        · simp; intro h0; subst h0; simp at hf
      · simp at hf
        constructor
        · have hp0 : ps.length = 0 := by rw [hf.1.2]; rfl
          omega
        · simp; intro h0 h1; subst h1; simp at hf
    refine ⟨?_, hfew.1, ?_, hi.2.2, ?_, g.ok, fun _ => ?_, fun h => absurd h hne⟩
    · rw [rootS, if_neg hne, hr]; simp
    · rw [ev_lv e _ he]; exact Nat.le_trans (ev_ht e _ he) hi.2.2
    · exact pOk_len g.ok
    · rw [g.dp, T.dpt, hfew.2]; rfl
end Go.Proofs.Ytkflneeifllpgaa
/-
  spec.TreeAll, impl.TreeAll: the same pairs, in new memory.
-/
namespace Go.Proofs.Ytkflneeifllpgaa
open Go.RowKit
def alV (ns : List NB) : List PB := match okT ns with | none => [] | some t => t.all
theorem alV_len (ns : List NB) : (alV ns).length ≤ 200 := by
  unfold alV
  cases h : okT ns with
  | none => exact Nat.zero_le _
  | some t => exact (okT_facts h).all
def OwPost (l : List PB) (w : World) (e : Ending) (w' : World) : Prop := ∃ v, e = .returned v ∧ Ow w' w.heap.size v l ∧ Below w.heap.size w w'
set_option maxHeartbeats 2000000 in
theorem implTreeAll_any (S : Nat → Prop) (an : Option Addr) (nn cn : Nat) (ns : List NB) (w : World) (hN : Nr w S (.slice an nn cn) ns) :
    Calls Try.prog 13 #[.agg #[.slice an nn cn]] w fun e w' => OwPost (alV ns) w e w' := by
  have HN := hid hN
  have h1 := hN.len.2.1
  have h2 := hN.len.2.2
  clear hN
  have HB0 := hid (below_new (o := .cells #[.slice an nn cn] 25) (w := w) (Below.refl _ _))
  go_enter Try.func13, Try.ntmps13
  go_wp2_with fail
  refine (rootOf_any S an nn cn ns _ (HN.out.below HB0.out)).mono ?_
  generalize w.alloc (.cells #[.slice an nn cn] 25) = U at *
  rintro e w1 ⟨hpost, hb1⟩
  have HB1 : Hid (Below w.heap.size w w1) := HB0.out.trans (hb1.mono HB0.out.size)
  clear hb1
  cases hr : okT ns with
  | none =>
    rw [hr] at hpost
    have he : e = .returned (.pointer none) := hpost
    subst he
    have HR : Hid (alV ns = []) := by show _ = _; rw [alV, hr]
    clear hpost hr
    go_wp2
    go_ret
    exact ⟨_, rfl, by rw [HR.out]; exact ow_nil _ _, HB1.out⟩
  | some t =>
    rw [hr] at hpost
    obtain ⟨b, he, hL⟩ := hpost
    subst he
    have HR : Hid (alV ns = t.all) := by show _ = _; rw [alV, hr]
    have HF := hid (okT_facts hr)
    have HL := hid hL
    clear hL hr
    go_wp2_with fail
    refine (all_any t _ b w1 w1.heap.size (.slice none 0 0) [] HL.out (fun x hx => hx.2) (Nat.le_refl _) (ow_nil _ _) (by have := HF.out.all; simp; omega)).mono ?_
    rintro e w2 ⟨v, rfl, hO, hb⟩
    have HB2 : Hid (Below w.heap.size w w2) := HB1.out.trans (hb.mono HB1.out.size)
    have HO : Hid (Ow w2 w.heap.size v t.all) := own_mono hO HB1.out.size
    clear hO hb
    go_wp2
    go_ret
    exact ⟨_, rfl, by rw [HR.out]; exact HO.out, HB2.out⟩
set_option maxHeartbeats 2000000 in
theorem specTreeAll_any (ns : List NB) (hlen : ns.length ≤ 1048576) (hsm : smallN ns) (S : Nat → Prop) (an : Option Addr) (nn cn : Nat) (w : World) (hN : Nr w S (.slice an nn cn) ns) :
    Calls Try.prog 10 #[.agg #[.slice an nn cn]] w fun e w' => OwPost (alV ns) w e w' := by
  have h1 := hN.len.2.1
  have h2 := hN.len.2.2
  have HB0 := hid (below_new (o := .cells #[.slice an nn cn] 25) (w := w) (Below.refl _ _))
  have K0 := hid (Bk.new w 25 [.slice an nn cn])
  have H0 := hid (hN.below HB0.out)
  have HLS := hid (And.intro hlen hsm)
  clear hN hlen hsm
  go_enter Try.func10, Try.ntmps10
  go_wp2_with fail
  refine (specTreeOk_any ns HLS.out.1 HLS.out.2 S an nn cn _ H0.out).mono ?_
  generalize w.alloc (.cells #[.slice an nn cn] 25) = U at *
  rintro e w1 ⟨rfl, hb⟩
  have HB1 := hid (HB0.out.trans (hb.mono HB0.out.size))
  have K1 := hid (K0.out.below hb)
  have H1 := hid (H0.out.below hb)
  clear hb HB0 K0 H0
  rw [spOk_eq]
  cases hr : okT ns with
  | none =>
    have HR : Hid (alV ns = []) := by show _ = _; rw [alV, hr]
    clear hr
    go_wp2
    go_ret
    exact ⟨_, rfl, by rw [HR.out]; exact ow_nil _ _, HB1.out⟩
  | some t =>
    have HR : Hid (alV ns = t.all) := by show _ = _; rw [alV, hr]
    have HF := hid (okT_facts hr)
    clear hr
    have c1 := K1.out.cell (j := 0) rfl
    go_wp2_with fail
    refine (specRoot_any ns HLS.out.1 HLS.out.2 S an nn cn _ H1.out).mono ?_
    rintro e w2 ⟨hpost, hb⟩
    rw [HF.out.root] at hpost
    obtain ⟨lf, ap, np, cp, ak, nk, ck, he, hsub⟩ := hpost
    subst he
    have HB2 := hid (Below.then' HB1.out hb (Nat.le_refl _))
    have HB3 := hid (HB2.out.alloc HB2.out.size (.cells #[.bool lf, .slice ap np cp, .slice ak nk ck] 74))
    have HS2 := hid (hsub.kept (below_new (o := .cells #[.bool lf, .slice ap np cp, .slice ak nk ck] 74) (w := w2) (Below.refl _ _)))
    clear hb hsub K1 H1 HB1 HB2 c1
    go_wp2_with fail
    refine (specPairs_any t _ lf ap ak np cp nk ck _ HS2.out (by have := HF.out.all; omega)).mono ?_
    generalize w2.alloc (.cells #[.bool lf, .slice ap np cp, .slice ak nk ck] 74) = w3 at *
    rintro e w4 ⟨v, rfl, hO, hb⟩
    have HB4 := hid (Below.then' HB3.out hb (Nat.le_refl _))
    have HO : Hid (Ow w4 w.heap.size v t.all) := own_mono hO HB3.out.size
    clear hb hO
    go_wp2
    go_ret
    exact ⟨_, rfl, by rw [HR.out]; exact HO.out, HB4.out⟩
end Go.Proofs.Ytkflneeifllpgaa
/-
  impl.treeFrom and impl.TreePut.
-/
namespace Go.Proofs.Ytkflneeifllpgaa
open Go.RowKit
/-- A tree's nodes: none where there is nothing. -/
def layT (t : T) : List NB := if t.bare = true then [] else lay 0 t
/-- A list of nodes in rows of its own, apart from each other, all new. -/
def TRow (w w' : World) (v : Value) (ms : List NB) : Prop := ∃ V, NA w' v V ms ∧ (∀ y, v.ownBlock = some y → w.heap.size ≤ y) ∧ (∀ i, i < ms.length → ∀ y, bl (vAt V i) y → w.heap.size ≤ y)
theorem TRow.nil (w w' : World) : TRow w w' (.slice none 0 0) [] := ⟨[], na_nil _, fun y hy => (by cases hy), fun i hi => (by simp at hi)⟩
theorem TRow.kept {w w' w2 : World} {v : Value} {ms : List NB} (h : TRow w w' v ms) (hb : Below w'.heap.size w' w2) : TRow w w2 v ms := by
  obtain ⟨V, h1, h2, h3⟩ := h
  exact ⟨V, h1.kept hb, h2, h3⟩
theorem TRow.shape {w w' : World} {v : Value} {ms : List NB} (h : TRow w w' v ms) : ∃ a n c, v = .slice a n c ∧ Hid (n = ms.length) := by
  obtain ⟨V, h1, _⟩ := h
  exact h1.shape
def TreePost (o : Option (List NB)) (w : World) (e : Ending) (w' : World) : Prop := ∃ v, e = .returned (.tuple #[.agg #[v], .bool o.isSome]) ∧ TRow w w' v (o.getD []) ∧ Below w.heap.size w w'
theorem results_tree2 {fn : Func} {p u : Tmp} (h : fn.results = #[.cell p 25, .tmp u]) (tmps : Array Value) (w : World) (g : Nat) {x b : Value} (hp : tmps.getD p undef = .pointer (some ⟨g, 0, none⟩)) (hb : tmps.getD u undef = b)
    (c0 : w.cell? ⟨g, 0, none⟩ = some x) : (results fn tmps).run Try.prog w = .ok (.tuple #[.agg #[x], b]) w := by
  have hp' : tmps[p]?.getD undef = .pointer (some ⟨g, 0, none⟩) := by simpa using hp
  have hb' : tmps[u]?.getD undef = b := by simpa using hb
  have hl : (loadVar 25 ⟨g, 0, none⟩).run Try.prog w = .ok (.agg #[x]) w := by go_simp
  simp [results, h, hp', hb', asAddr, hl, Result.andThen]
theorem results_tree1 {fn : Func} {p : Tmp} (h : fn.results = #[.cell p 25]) (tmps : Array Value) (w : World) (g : Nat) {x : Value} (hp : tmps.getD p undef = .pointer (some ⟨g, 0, none⟩))
    (c0 : w.cell? ⟨g, 0, none⟩ = some x) : (results fn tmps).run Try.prog w = .ok (.agg #[x]) w := by
  have hp' : tmps[p]?.getD undef = .pointer (some ⟨g, 0, none⟩) := by simpa using hp
  have hl : (loadVar 25 ⟨g, 0, none⟩).run Try.prog w = .ok (.agg #[x]) w := by go_simp
  simp [results, h, hp', asAddr, hl]
theorem okT_putIn {ns : List NB} {t : T} (h : okT ns = some t) : PutIn t.lv true t := by
  have hf := okT_facts h
  by_cases hne : ns.length = 0
  · rw [hf.nil hne]
    exact ⟨.inl ⟨rfl, rfl⟩, .inr ⟨rfl, rfl⟩, List.Pairwise.nil⟩
  · have g := (okT_good hne).1 h
    obtain ⟨e, he⟩ := g.even
    rw [ev_lv e t he]
    exact ⟨he, .inl g.full, pOk_asc hf.ok⟩
/-- The tree behind a put. -/
def putV (ns : List NB) (k v : ByteArray) : Option (List NB) := match okT ns with
  | none => none
  | some t => if kOk k = true ∧ vOk v = true then (if 200 < (rootT (putF t.lv t (k, v))).all.length then none else some (layT (rootT (putF t.lv t (k, v))))) else none
theorem rootT_ok {ns : List NB} {t : T} (h : okT ns = some t) (p : PB) : (rootT (putF t.lv t p)).full true = true ∧ (∃ h, Ev h (rootT (putF t.lv t p))) ∧ (rootT (putF t.lv t p)).all = insP t.all p := rootT_full (putF_out t.lv true t p (okT_putIn h))
set_option maxHeartbeats 1000000 in
theorem treeFrom_any (S : Nat → Prop) (b : Nat) (t : T) (w : World) (hL : Limb w S b t) (hS : ∀ x, S x → x < w.heap.size) (hf : t.full true = true ∨ t = bareT) (hs : t.ps.length + t.ks.length ≤ 1048576) (hz : t.size ≤ 1048576) :
    Calls Try.prog 37 #[.pointer (some ⟨b, 0, none⟩)] w fun e w' => ∃ v V, e = .returned (.agg #[v]) ∧ Hid (NA w' v V (layT t) ∧ (∀ y, v.ownBlock = some y → w.heap.size ≤ y) ∧ (∀ i, i < (layT t).length → ∀ y, bl (vAt V i) y → S y ∨ w.heap.size ≤ y)) ∧ Below w.heap.size w w' := by
  have HB0 := hid (below_new (o := .cells #[.slice none 0 0] 25) (w := w) (Below.refl _ _))
  have K0 := hid (Bk.new w 25 [.slice none 0 0])
  have HBA := hid (fun (w' : World) h1 => isBare_any S b t w' h1 hs)
  have HL0 := hid (hL.kept HB0.out)
  have HS0 := hid hS
  have HF := hid hf
  have HZ := hid hz
  have HW : Hid (∀ q, Below w.heap.size w ((w.alloc (.cells #[.slice none 0 0] 25)).drewN q)) := fun q => Below.then' HB0.out (below_dn _ q) (Nat.le_refl _)
  clear hL hS hf hs hz
  go_enter Try.func37, Try.ntmps37
  go_wp2_with fail
  refine (HBA.out _ HL0.out).mono ?_
  rintro e w1 ⟨rfl, n1, rfl⟩
  have HB1 := hid (HW.out n1)
  have HL1 := hid (HL0.out.kept (below_dn _ n1))
  have K1 := hid (K0.out.below (below_dn _ n1))
  generalize (w.alloc (.cells #[.slice none 0 0] 25)).drewN n1 = X at *
  clear HB0 HL0 HBA HW K0
  have c0 := K1.out.cell (j := 0) rfl
  have f0 := K1.out.free 0
  cases hb : t.bare with
  | true =>
    have HLY : Hid (layT t = []) := by show _ = _; rw [layT, if_pos hb]
    have HFB : Hid (Below w.heap.size w (X.setCell ⟨w.heap.size, 0, none⟩ (.slice none 0 0))) := ⟨HB1.out.os, HB1.out.tape, HB1.out.output, by simp [World.setCell]; exact HB1.out.size, fun i hi => (Below.heap_setCell _ _ _ _ (show i ≠ w.heap.size by omega)).trans (HB1.out.block i hi)⟩
    have d0 := (K1.out.set 0 (.slice none 0 0)).cell (j := 0) rfl
    clear hb
    go_wp2
    refine bodyPost_ret (v := .agg #[.slice none 0 0]) ?_ rfl ?_
    · refine results_tree1 rfl _ _ _ rfl ?_
      exact d0
    refine ⟨_, [], rfl, ⟨?_, fun y hy => (by cases hy), fun i hi => ?_⟩, HFB.out⟩
    · rw [HLY.out]; exact na_nil _
    · rw [HLY.out] at hi; simp at hi
  | false =>
    have hfu : t.full true = true := by
      rcases HF.out with h | h
      · exact h
      · rw [h] at hb; cases hb
    have HLY : Hid (layT t = lay 0 t) := by show _ = _; rw [layT, if_neg (by rw [hb]; simp)]
    have HND := hid (nodes_any t S b X (.slice none 0 0) [] [] true HL1.out hfu (na_nil X) (fun y hy => ⟨Nat.lt_of_lt_of_le (HS0.out y hy) HB1.out.size, by simp [Value.ownBlock], fun i hi => by simp at hi⟩) (by have := HZ.out; simpa using this))
    clear hb hfu
    go_wp2_with fail
    refine HND.out.mono ?_
    rintro e w2 ⟨v2, V, rfl, hI⟩
    simp only [List.nil_append, List.length_nil] at hI
    have hb2 : Below X.heap.size X w2 := hI.only.below (Nat.le_refl _) (fun b _ h => by cases h)
    have K2 := hid (K1.out.below hb2)
    obtain ⟨a2, n2, c2, e2, -⟩ := hI.na.shape
    subst e2
    have HI := hid hI
    have e0 := K2.out.cell (j := 0) rfl
    have e1 := K2.out.free 0
    have HBW := hid (Below.then' HB1.out hb2 (Nat.le_refl _))
    have hwx : w.heap.size < X.heap.size := K1.out.lt
    have HNV : Hid ((Value.slice a2 n2 c2).ownBlock ≠ some w.heap.size) := fun e => by
      rcases hI.vb _ e with h | h
      · cases h
      · omega
    have HNB : Hid (∀ i, i < (lay 0 t).length → ∀ y, bl (vAt V i) y → y ≠ w.heap.size) := by
      intro i hi y hy e
      rcases hI.new i (Nat.zero_le _) hi y hy with h | h
      · have := HS0.out y h; omega
      · omega
    have HFB : Hid (Below w.heap.size w (w2.setCell ⟨w.heap.size, 0, none⟩ (.slice a2 n2 c2))) := ⟨HBW.out.os, HBW.out.tape, HBW.out.output, by simp [World.setCell]; exact HBW.out.size, fun i hi => (Below.heap_setCell _ _ _ _ (show i ≠ w.heap.size by omega)).trans (HBW.out.block i hi)⟩
    have d0 := (K2.out.set 0 (.slice a2 n2 c2)).cell (j := 0) rfl
    clear hI hb2 HND
    go_wp2
    refine bodyPost_ret (v := .agg #[.slice a2 n2 c2]) ?_ rfl ?_
    · refine results_tree1 rfl _ _ _ rfl ?_
      exact d0
    refine ⟨_, V, rfl, ⟨?_, fun y hy => ?_, fun i hi y hy => ?_⟩, HFB.out⟩
    · rw [HLY.out]
      exact HI.out.na.to (only_set (R := fun y => y = w.heap.size) rfl _) (fun y hy e => HNV.out (e ▸ hy)) (fun i hi y hy e => HNB.out i hi y hy e)
    · rcases HI.out.vb y hy with h | h
      · cases h
      · have := HB1.out.size; omega
    · rw [HLY.out] at hi
      rcases HI.out.new i (Nat.zero_le _) hi y hy with h | h
      · exact .inl h
      · right; have := HB1.out.size; omega
theorem putV_size {ns : List NB} {t : T} (h : okT ns = some t) (p : PB) : (rootT (putF t.lv t p)).all.length ≤ 201 ∧ (rootT (putF t.lv t p)).size ≤ 201 ∧ (rootT (putF t.lv t p)).ps.length + (rootT (putF t.lv t p)).ks.length ≤ 8 := by
  obtain ⟨h1, h2, h3⟩ := rootT_ok h p
  have h4 := insP_len t.all p
  have h5 := (okT_facts h).all
  have h6 := full_root h1
  rw [h3] at h6
  refine ⟨by rw [h3]; omega, by omega, ?_⟩
  generalize rootT (putF t.lv t p) = y at *
  obtain ⟨ps, ks⟩ := y
  simp only [T.ps, T.ks]
  by_cases hk : ks = []
  · subst hk; have := full_lf h1; simp; omega
  · obtain ⟨_, h2, rfl, _⟩ := full_br h1 hk; simp; omega
theorem isOverfull_any (S : Nat → Prop) (b : Nat) (t : T) (w : World) (hL : Limb w S b t) (hS : ∀ x, S x → x < w.heap.size) (hn : t.all.length ≤ 1000) :
    Calls Try.prog 36 #[.pointer (some ⟨b, 0, none⟩)] w fun e w' => e = .returned (.bool (decide (200 < t.all.length))) ∧ Below w.heap.size w w' := by
  have HL := hid hL
  have HS := hid hS
  clear hL hS
  go_enter Try.func36, Try.ntmps36
  go_wp2_with fail
  refine (all_any t _ b w w.heap.size (.slice none 0 0) [] HL.out HS.out (Nat.le_refl _) (ow_nil _ _) (by simp; omega)).mono ?_
  rintro e w4 ⟨v4, rfl, hO, hb⟩
  obtain ⟨a4, n4, c4, e4, hn4⟩ := hO.shape'
  subst e4
  have HB := hid hb
  have HN4 : Hid (n4 = t.all.length) := by have := hn4.out; show _ = _; simpa using this
  have hn5 : n4 ≤ 1000 := by have := HN4.out; omega
  have HD : Hid (decide ((200 : Int) < (n4 : Int)) = decide (200 < t.all.length)) := by
    show _ = _
    rw [← HN4.out]
    by_cases h : 200 < n4
    · rw [decide_eq_true (by omega), decide_eq_true h]
    · rw [decide_eq_false (by omega), decide_eq_false h]
  clear hO hb hn4 HN4
  go_wp2
  go_ret
  exact ⟨by first | exact congrArg (fun b => Ending.returned (Value.bool b)) HD.out | rfl, HB.out⟩
set_option maxHeartbeats 1000000 in
set_option maxRecDepth 20000 in
theorem implTreePut_any (S : Nat → Prop) (an : Option Addr) (nn cn : Nat) (ns : List NB) (k v : ByteArray) (w : World) (hN : Nr w S (.slice an nn cn) ns) :
    Calls Try.prog 7 #[.agg #[.slice an nn cn], .string k, .string v] w fun e w' => TreePost (putV ns k v) w e w' := by
  have HN := hid hN
  have h1 := hN.len.2.1
  have h2 := hN.len.2.2
  clear hN
  have HB0 : Hid (Below w.heap.size w ((w.alloc (.cells #[.slice an nn cn] 25)).alloc (.cells #[.slice none 0 0] 25))) := below_new (below_new (Below.refl _ _))
  have K0 : Hid (Bk ((w.alloc (.cells #[.slice an nn cn] 25)).alloc (.cells #[.slice none 0 0] 25)) (w.heap.size + 1) 25 [.slice none 0 0]) := by
    have := Bk.new (w.alloc (.cells #[.slice an nn cn] 25)) 25 [.slice none 0 0]
    show Bk _ _ _ _
    simpa using this
  have KA : Hid (Bk ((w.alloc (.cells #[.slice an nn cn] 25)).alloc (.cells #[.slice none 0 0] 25)) w.heap.size 25 [.slice an nn cn]) := (Bk.new w 25 [.slice an nn cn]).alloc _
  have a0 := KA.out.cell (j := 0) rfl
  go_enter Try.func7, Try.ntmps7
  go_wp2_with fail
  refine (rootOf_any S an nn cn ns _ (HN.out.below HB0.out)).mono ?_
  generalize (w.alloc (.cells #[.slice an nn cn] 25)).alloc (.cells #[.slice none 0 0] 25) = U at *
  clear a0 KA
  rintro e w1 ⟨hpost, hb1⟩
  have HB1 : Hid (Below w.heap.size w w1) := HB0.out.trans (hb1.mono HB0.out.size)
  have K1 := hid (K0.out.below hb1)
  have HU := hid hb1.size
  have HK0 := hid K0.out.lt
  clear hb1
  have hno : ∀ (X : World), Bk X (w.heap.size + 1) 25 [.slice none 0 0] → Below w.heap.size w X → Below w.heap.size w (X.setCell ⟨w.heap.size + 1, 0, none⟩ (.slice none 0 0)) := fun X _ hb => ⟨hb.os, hb.tape, hb.output, by simp [World.setCell]; exact hb.size, fun i hi => (Below.heap_setCell _ _ _ _ (show i ≠ w.heap.size + 1 by omega)).trans (hb.block i hi)⟩
  have HNO := hid hno
  clear hno
  have c0 := K1.out.cell (j := 0) rfl
  have f0 := K1.out.free 0
  have d0 := (K1.out.set 0 (.slice none 0 0)).cell (j := 0) rfl
  cases hr : okT ns with
  | none =>
    rw [hr] at hpost
    have he : e = .returned (.pointer none) := hpost
    subst he
    have HR : Hid (putV ns k v = none) := by show _ = _; rw [putV, hr]
    clear hpost hr
    go_wp2
    refine bodyPost_ret (v := .tuple #[.agg #[.slice none 0 0], .bool false]) ?_ rfl ?_
    · refine results_tree2 rfl _ _ _ rfl rfl ?_
      exact d0
    · rw [HR.out]; exact ⟨_, rfl, TRow.nil _ _, HNO.out _ K1.out HB1.out⟩
  | some t =>
    rw [hr] at hpost
    obtain ⟨b, he, hL⟩ := hpost
    subst he
    have HG := hid (okT_putIn hr)
    have HRO := hid (rootT_ok hr (k, v))
    have HSZ := hid (putV_size hr (k, v))
    have HL := hid hL
    have HR : Hid (putV ns k v = if kOk k = true ∧ vOk v = true then (if 200 < (rootT (putF t.lv t (k, v))).all.length then none else some (layT (rootT (putF t.lv t (k, v))))) else none) := by show _ = _; rw [putV, hr]
    clear hL hr
    cases hk : kOk k with
    | false =>
      have HR2 : Hid (putV ns k v = none) := by show _ = _; rw [HR.out, hk]; simp
      have HKO := hid (implKeyOk_is k false hk)
      clear hk HR
      go_wp2_with fail
      refine (HKO.out w1).mono ?_
      rintro e w2 ⟨rfl, rfl⟩
      go_wp2
      refine bodyPost_ret (v := .tuple #[.agg #[.slice none 0 0], .bool false]) ?_ rfl ?_
      · refine results_tree2 rfl _ _ _ rfl rfl ?_
        exact d0
      · rw [HR2.out]; exact ⟨_, rfl, TRow.nil _ _, HNO.out _ K1.out HB1.out⟩
    | true =>
      have HKO := hid (implKeyOk_is k true hk)
      cases hv : vOk v with
      | false =>
        have HR2 : Hid (putV ns k v = none) := by show _ = _; rw [HR.out, hv]; simp
        have HVO := hid (implValOk_any v)
        rw [hv] at HVO
        clear hk hv HR
        go_wp2_with fail
        refine (HKO.out w1).mono ?_
        rintro e w2 ⟨rfl, rfl⟩
        go_wp2_with fail
        refine (HVO.out w2).mono ?_
        rintro e w3 ⟨rfl, rfl⟩
        go_wp2
        refine bodyPost_ret (v := .tuple #[.agg #[.slice none 0 0], .bool false]) ?_ rfl ?_
        · refine results_tree2 rfl _ _ _ rfl rfl ?_
          exact d0
        · rw [HR2.out]; exact ⟨_, rfl, TRow.nil _ _, HNO.out _ K1.out HB1.out⟩
      | true =>
        have HR2 : Hid (putV ns k v = if 200 < (rootT (putF t.lv t (k, v))).all.length then none else some (layT (rootT (putF t.lv t (k, v))))) := by show _ = _; rw [HR.out, hk, hv]; simp
        have HVO := hid (implValOk_any v)
        rw [hv] at HVO
        clear hk hv HR
        go_wp2_with fail
        refine (HKO.out w1).mono ?_
        rintro e w2 ⟨rfl, rfl⟩
        go_wp2_with fail
        refine (HVO.out w2).mono ?_
        rintro e w3 ⟨rfl, rfl⟩
        clear HKO HVO c0 f0 d0
        go_wp2_with fail
        refine (rootPut_any t.lv _ b t k v w2 HL.out (fun x hx => hx.2) HG.out).mono ?_
        rintro e w3 ⟨b3, rfl, S3, k1, k2, k3⟩
        have hne : ∀ y, S3 y → U.heap.size ≤ y ∧ y < w3.heap.size := fun y hy => ⟨(k2 y hy).1.elim (fun h => h.1) (fun h => Nat.le_trans HU.out h), (k2 y hy).2⟩
        have HB3 : Hid (Below w.heap.size w w3) := HB1.out.trans (k3.below HB1.out.size (fun b hb h => by have := HB0.out.size; have := h.1; omega))
        have K3 := hid (K1.out.to k3 (fun h => by have := HK0.out; have := h.1; omega))
        have HL3 := hid k1
        have HS3 := hid hne
        clear k1 k2 k3 hne HL HG K1
        generalize rootT (putF t.lv t (k, v)) = rr at *
        go_wp2_with fail
        refine (isOverfull_any _ b3 rr w3 HL3.out (fun x hx => (HS3.out x hx).2) (by have := HSZ.out.1; omega)).mono ?_
        rintro e w4 ⟨he, hb⟩
        have HB4 := hid (HB3.out.trans (hb.mono HB3.out.size))
        have K4 := hid (K3.out.below hb)
        have HL4 := hid (HL3.out.kept hb)
        have HS4 : Hid (∀ y, S3 y → U.heap.size ≤ y ∧ y < w4.heap.size) := fun y hy => ⟨(HS3.out y hy).1, Nat.lt_of_lt_of_le (HS3.out y hy).2 hb.size⟩
        clear hb K3 HL3 HS3 HB3
        have c0 := K4.out.cell (j := 0) rfl
        have f0 := K4.out.free 0
        have d0 := (K4.out.set 0 (.slice none 0 0)).cell (j := 0) rfl
        by_cases hlen : 200 < rr.all.length
        · rw [decide_eq_true hlen] at he
          subst he
          have HR3 : Hid (putV ns k v = none) := by
            show _ = _
            rw [HR2.out, if_pos hlen]
          clear hlen
          go_wp2
          refine bodyPost_ret (v := .tuple #[.agg #[.slice none 0 0], .bool false]) ?_ rfl ?_
          · refine results_tree2 rfl _ _ _ rfl rfl ?_
            exact d0
          · rw [HR3.out]; exact ⟨_, rfl, TRow.nil _ _, HNO.out _ K4.out HB4.out⟩
        · rw [decide_eq_false hlen] at he
          subst he
          have HR3 : Hid (putV ns k v = some (layT rr)) := by
            show _ = _
            rw [HR2.out, if_neg hlen]
          clear d0 hlen
          go_wp2_with fail
          refine (treeFrom_any S3 b3 rr w4 HL4.out (fun x hx => (HS4.out x hx).2) (.inl HRO.out.1) (by have := HSZ.out.2.2; omega) (by have := HSZ.out.2.1; omega)).mono ?_
          rintro e w5 ⟨v5, V, rfl, ⟨hN5, hv5, hb5⟩, hb⟩
          have K5 := hid (K4.out.below hb)
          have HB5 := hid (HB4.out.trans (hb.mono HB4.out.size))
          obtain ⟨a5, n5, c5, e5, -⟩ := hN5.shape
          subst e5
          have c1 := K5.out.cell (j := 0) rfl
          have f1 := K5.out.free 0
          have d1 := (K5.out.set 0 (.slice a5 n5 c5)).cell (j := 0) rfl
          have HWU := hid HB0.out.size
          have hx1 : w.heap.size + 1 < w4.heap.size := K4.out.lt
          have HFIN : Hid (TRow w (w5.setCell ⟨w.heap.size + 1, 0, none⟩ (.slice a5 n5 c5)) (.slice a5 n5 c5) (layT rr)) := by
            refine ⟨V, hN5.to (only_set (R := fun y => y = w.heap.size + 1) rfl _) (fun y hy e => ?_) (fun i hi y hy e => ?_), fun y hy => ?_, fun i hi y hy => ?_⟩
            · have := hv5 y hy; omega
            · rcases hb5 i hi y hy with h | h
              · have := (HS4.out y h).1; have := HK0.out; omega
              · omega
            · have := hv5 y hy; have := HB4.out.size; omega
            · rcases hb5 i hi y hy with h | h
              · have := (HS4.out y h).1; have := HWU.out; omega
              · have := HB4.out.size; omega
          have HFB : Hid (Below w.heap.size w (w5.setCell ⟨w.heap.size + 1, 0, none⟩ (.slice a5 n5 c5))) := ⟨HB5.out.os, HB5.out.tape, HB5.out.output, by simp [World.setCell]; exact HB5.out.size, fun i hi => (Below.heap_setCell _ _ _ _ (show i ≠ w.heap.size + 1 by omega)).trans (HB5.out.block i hi)⟩
          clear hN5 hv5 hb5 hb
          go_wp2
          refine bodyPost_ret (v := .tuple #[.agg #[.slice a5 n5 c5], .bool true]) ?_ rfl ?_
          · refine results_tree2 rfl _ _ _ rfl rfl ?_
            exact d1
          · rw [HR3.out]; exact ⟨_, rfl, HFIN.out, HFB.out⟩
end Go.Proofs.Ytkflneeifllpgaa
