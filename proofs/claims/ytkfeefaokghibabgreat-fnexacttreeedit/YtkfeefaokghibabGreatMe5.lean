/-
  Marks in an answer's tree, and whether they are still there: the lists of nodes.
-/
import Derived.Test.YtkfeefaokghibabGreatMe4
import Derived.Test.YtkfeefaokghibabGreatMe3
import Derived.Test.YtkfeefaokghibabGreatMe2
import Derived.Test.YtkfeefaokghibabGreatMe1
import Derived.Deep.RegionHeld3
import Derived.Laws.Cover1
namespace Go.Proofs.YtkfeefaokghibabGreat
open Go.RowKit
set_option linter.unusedVariables false
def MarkPost (w : World) (v : Value) (V : List V3) (ns : List NB) (k : Nat) (e : Ending) (w' : World) : Prop := e = .returned (.int .i64 ((k + offN ns ns.length : Nat) : Int)) ∧ MkT w' v V ns k ∧ Only (fun y => ∃ i, i < ns.length ∧ bl (vAt V i) y) w w'
set_option maxHeartbeats 4000000 in
set_option maxRecDepth 20000 in
theorem markNodeS_ex (a : Option Addr) (n c k : Nat) (V : List V3) (ns : List NB) (w : World) (h : NA w (.slice a n c) V ns) (hs : smallK ns) (hn : ns.length ≤ 100000) (hk0 : 0 < k) (hk : k ≤ 1000000) :
    Calls Tryz.prog 33 #[.slice a n c, .int .i64 k] w fun e w' => MarkPost w (.slice a n c) V ns k e w' := by
  obtain ⟨hnn, hnc, hcm⟩ := row_cap h.row
  have HNN := hid hnn
  have hn1 : n ≤ 100000 := by omega
  have H0 := hid h
  have HS := hid hs
  clear h hs hnn hn
  go_enter Tryz.func33, Tryz.ntmps33
  go_wp2_with fail
  go_loopw [1, 5] (fun x i wr => ∃ j q : Nat, x = .int .i64 (q : Int) ∧ i = .int .i64 j ∧ j ≤ n ∧ Hid (q = k + offN ns j) ∧ Hid (Only (fun y => ∃ i, i < j ∧ bl (vAt V i) y) w wr) ∧ Hid (∀ i, i < j → LiesN wr (vAt V i) (nAt ns i) (k + offN ns i))) (fun _ i _ => n - (intOf i).toNat)
  case atStart => exact ⟨0, k, rfl, rfl, Nat.zero_le _, rfl, Only.refl _ _, fun i hi => absurd hi (Nat.not_lt_zero _)⟩
  case round =>
    obtain ⟨j, q, rfl, rfl, hj, HQ, HO, HL⟩ := hrel
    by_cases hlt : j < n
    · have hlt' : (j : Int) < (n : Int) := by omega
      have hj0 : (0 : Int) ≤ (j : Int) := by omega
      have hjl : j < ns.length := by rw [← HNN.out]; exact hlt
      have hq1 : 0 < q := by have := HQ.out; omega
      have hq2 : q ≤ 1000000000 := by have h1 := HQ.out; have h2 := offN_le HS.out j (by omega); omega
      have hbd := HS.out j hjl
      have hown := (H0.out.own j hjl).1.to HO.out (fun y hy => by
        rintro ⟨i, hi, hb⟩
        exact H0.out.apart j i hjl (by omega) (by omega) y hy hb)
      have hrow := own_kept H0.out.row HO.out (fun y e => by
        rintro ⟨i, hi, hb⟩
        exact H0.out.off i (by omega) y hb e)
      obtain ⟨g, ha, -⟩ : ∃ g, a = some ⟨g, 0, none⟩ ∧ True := by
        obtain ⟨g, e, _⟩ := H0.out.rowAt (by omega)
        exact ⟨g, e, trivial⟩
      subst ha
      have HRW := hid hrow
      have HAP := hid (H0.out.own j hjl).2
      have HOF : Hid (∀ y, bl (vAt V j) y → y ≠ g) := fun y hy e => H0.out.off j hjl y hy (by rw [e]; rfl)
      have hvl : j < V.length := by rw [H0.out.len]; exact hjl
      obtain ⟨c0, -, -⟩ := row_cells hrow hvl
      have HOW := hid hown
      have HQN : Hid (offN ns (j + 1) = offN ns j + cntN (nAt ns j)) := rfl
      obtain ⟨ap, cp, e0⟩ := own_shape hown.1
      obtain ⟨ax, cx, e1⟩ := own_shape hown.2.1
      obtain ⟨ai, ci, e2⟩ := own_shape hown.2.2
      have HVL := hid hvl
      clear hrow hown hvl
      generalize hxx : nAt ns j = xx at *
      have HXX := hid hxx
      generalize hpp : vAt V j = pp at *
      have HPP := hid hpp
      obtain ⟨p0, p1, p2⟩ := pp
      simp only at e0 e1 e2 c0
      clear hxx hpp
      generalize hnp : xx.ps.length = np at *
      generalize hnx : xx.keys.length = nx at *
      generalize hni : xx.kids.length = ni at *
      have HLN := hid (And.intro hnp (And.intro hnx hni))
      clear hnp hnx hni
      subst e0 e1 e2
      obtain ⟨b1, b2, b3⟩ := hbd
      have K1 : Hid (Kw wr (fun y => (Value.slice ap np cp).ownBlock = some y) (.slice ap np cp) np (np * 2) isStr) := by
        have := kw_own (K := isStr) HOW.out.1 (fun u hu => pcs_str _ u hu)
        rw [pcs_length, HLN.out.1] at this
        exact this
      have K2 : Hid (Kw wr (fun y => (Value.slice ax nx cx).ownBlock = some y) (.slice ax nx cx) nx nx isStr) := by
        have := kw_own (K := isStr) HOW.out.2.1 (fun u hu => by simp at hu; obtain ⟨s, _, rfl⟩ := hu; exact ⟨s, rfl⟩)
        rw [List.length_map, HLN.out.2.1] at this
        exact this
      have K3 : Hid (Kw wr (fun y => (Value.slice ai ni ci).ownBlock = some y) (.slice ai ni ci) ni ni isInt) := by
        have := kw_own (K := isInt) HOW.out.2.2 (fun u hu => by simp at hu; obtain ⟨s, _, rfl⟩ := hu; exact ⟨s, rfl⟩)
        rw [List.length_map, HLN.out.2.2] at this
        exact this
      have hcaps : np ≤ cp ∧ nx ≤ cx ∧ ni ≤ ci := ⟨(row_cap HOW.out.1).2.1, (row_cap HOW.out.2.1).2.1, (row_cap HOW.out.2.2).2.1⟩
      have HCP := hid hcaps
      clear hcaps HOW
      go_wp2_with fail
      refine (markPairS_any _ ap np cp q wr K1.out (by omega) hq1 (by omega)).mono ?_
      rintro e w1 ⟨rfl, hm⟩
      have HM1 := hid hm.1.only
      have HL1 := hid hm.lies
      have HK2 := hid (K2.out.mk hm.1 kind_str)
      have HK3 := hid (K3.out.mk hm.1 kind_int)
      have HR1 : Hid (w1.ownsRow 0 84 3 (.slice (some ⟨g, 0, none⟩) n c) ns.length (ncs V)) := own_kept HRW.out HM1.out (fun y e e2 => HOF.out y (.inl e2) (by simpa [Value.ownBlock] using e.symm))
      obtain ⟨-, c1, -⟩ := row_cells HR1.out HVL.out
      rw [HPP.out] at c1
      simp only at c1
      have hs1 : q + np * 2 ≤ 1000010000 := by omega
      have hs0 : 0 < q + np * 2 := by omega
      have HQ1 : Hid (∃ z, z = q + np * 2) := ⟨_, rfl⟩
      clear hm K1 K2 K3 c0 HQ1
      generalize hq1' : q + np * 2 = q1 at *
      have HQ1 := hid hq1'
      clear hq1'
      go_wp2_with fail
      refine (markStringS_any _ ax nx cx q1 w1 HK2.out (by omega) hs0 (by omega)).mono ?_
      rintro e w2 ⟨rfl, hm⟩
      have HM2 := hid hm.1.only
      have HL2 := hid hm.lies
      have HK4 := hid (HK3.out.mk hm.1 kind_int)
      have HR2 : Hid (w2.ownsRow 0 84 3 (.slice (some ⟨g, 0, none⟩) n c) ns.length (ncs V)) := own_kept HR1.out HM2.out (fun y e e2 => HOF.out y (.inr (.inl e2)) (by simpa [Value.ownBlock] using e.symm))
      obtain ⟨-, -, c2⟩ := row_cells HR2.out HVL.out
      rw [HPP.out] at c2
      simp only at c2
      have hs3 : q1 + nx ≤ 1000020000 := by omega
      have hs4 : 0 < q1 + nx := by omega
      clear hm HK2 HK3 c1
      generalize hq2' : q1 + nx = q2 at *
      have HQ2 := hid hq2'
      clear hq2'
      go_wp2_with fail
      refine (markIntS_any _ ai ni ci q2 w2 HK4.out (by omega) hs4 (by omega)).mono ?_
      rintro e w3 ⟨rfl, hm⟩
      have HM3 := hid hm.1.only
      have HL3 := hid hm.lies
      clear hm HK4 c2
      have HO3 : Hid (Only (fun y => ∃ i, i < j + 1 ∧ bl (vAt V i) y) w w3) := by
        have o1 := HM1.out.mono (R' := fun y => ∃ i, i < j + 1 ∧ bl (vAt V i) y) (fun y _ e => ⟨j, by omega, by rw [HPP.out]; exact .inl e⟩)
        have o2 := HM2.out.mono (R' := fun y => ∃ i, i < j + 1 ∧ bl (vAt V i) y) (fun y _ e => ⟨j, by omega, by rw [HPP.out]; exact .inr (.inl e)⟩)
        have o3 := HM3.out.mono (R' := fun y => ∃ i, i < j + 1 ∧ bl (vAt V i) y) (fun y _ e => ⟨j, by omega, by rw [HPP.out]; exact .inr (.inr e)⟩)
        exact (((HO.out.mono (fun y _ ⟨i, hi, hb⟩ => ⟨i, by omega, hb⟩)).trans o1).trans o2).trans o3
      have HLF : Hid (∀ i, i < j + 1 → LiesN w3 (vAt V i) (nAt ns i) (k + offN ns i)) := by
        intro i hi
        by_cases e : i = j
        · subst e
          rw [HPP.out, HXX.out]
          unfold LiesN
          rw [HLN.out.1, HLN.out.2.1, HLN.out.2.2, ← HQ.out, HQ1.out, HQ2.out]
          have hap := HAP.out
          refine ⟨(LiesV.to ⟨_, cp, rfl, HCP.out.1, HL1.out⟩ HM2.out (fun y e e2 => ((hap y).1 e).1 e2)).to HM3.out (fun y e e2 => ((hap y).1 e).2 e2), LiesV.to ⟨ax, cx, rfl, HCP.out.2.1, HL2.out⟩ HM3.out (fun y e e2 => (hap y).2 e e2), ⟨ai, ci, rfl, HCP.out.2.2, HL3.out⟩⟩
        · have h1 := HL.out i (by omega)
          have hd : ∀ y, bl (vAt V i) y → ¬ bl (Value.slice ap np cp, Value.slice ax nx cx, Value.slice ai ni ci) y := fun y hy hz => H0.out.apart i j (by omega) hjl e y hy (by rw [HPP.out]; exact hz)
          exact ((h1.to HM1.out (fun y hy e => hd y hy (.inl e))).to HM2.out (fun y hy e => hd y hy (.inr (.inl e)))).to HM3.out (fun y hy e => hd y hy (.inr (.inr e)))
      have HQ3 : Hid (q2 + ni = k + offN ns (j + 1)) := by
        show _ = _
        rw [HQN.out, cntN, HLN.out.1, HLN.out.2.1, HLN.out.2.2, ← HQ2.out, ← HQ1.out, HQ.out]; omega
      go_wp2
      go_roundw
      case rel => exact ⟨j + 1, q2 + ni, by go_num, by go_num, by omega, HQ3.out, HO3.out, HLF.out⟩
      case measure => simp [intOf]; omega
    · have hlt' : ¬ (j : Int) < (n : Int) := by omega
      have hjn : j = ns.length := by rw [← HNN.out]; omega
      subst hjn
      have HF : Hid (MkT wr (.slice a n c) V ns k) := ⟨H0.out.len, own_kept H0.out.row HO.out (fun y e => by rintro ⟨i, hi, hb⟩; exact H0.out.off i hi y hb e), HL.out⟩
      clear HL
      go_wp2
      go_ret
      exact ⟨by rw [← HQ.out]; rfl, HF.out, HO.out⟩
set_option maxHeartbeats 1000000 in
theorem markTree_ex (a : Option Addr) (n c k : Nat) (V : List V3) (ns : List NB) (w : World) (h : NA w (.slice a n c) V ns) (hs : smallK ns) (hn : ns.length ≤ 100000) (hk0 : 0 < k) (hk : k ≤ 1000000) :
    Calls Tryz.prog 12 #[.agg #[.slice a n c], .int .i64 k] w fun e w' => MarkPost w (.slice a n c) V ns k e w' := by
  have hb := below_new (o := .cells #[.slice a n c] 30) (w := w) (Below.refl _ _)
  have HN := hid (markNodeS_ex a n c k V ns _ (h.kept hb) hs hn hk0 hk)
  have c0 := (Bk.new w 30 [.slice a n c]).cell (j := 0) rfl
  have HB := hid hb
  clear h hs hb
  go_enter Tryz.func12, Tryz.ntmps12
  go_wp2_with fail
  refine HN.out.mono ?_
  rintro e w1 ⟨rfl, hm, ho⟩
  have HM := hid hm
  have HO := hid ((only_of_below HB.out _).trans ho)
  clear hm ho
  generalize hq : k + offN ns ns.length = q at *
  have HQ := hid hq
  clear hq
  go_wp2
  go_ret
  exact ⟨by rw [HQ.out]; rfl, HM.out, HO.out⟩
set_option maxHeartbeats 4000000 in
set_option maxRecDepth 20000 in
theorem heldNodeS_any (a : Option Addr) (n c k : Nat) (V : List V3) (ns : List NB) (w : World) (h : MkT w (.slice a n c) V ns k) (hs : smallK ns) (hn : ns.length ≤ 100000) (hk0 : 0 < k) (hk : k ≤ 1000000) :
    Calls Tryz.prog 35 #[.slice a n c, .int .i64 k] w fun e w' => e = .returned (.int .i64 ((k + offN ns ns.length : Nat) : Int)) ∧ Below w.heap.size w w' := by
  obtain ⟨hnn, hnc, hcm⟩ := row_cap h.row
  have HNN := hid hnn
  have hn1 : n ≤ 100000 := by omega
  have H0 := hid h
  have HS := hid hs
  clear h hs hnn hn
  go_enter Tryz.func35, Tryz.ntmps35
  go_wp2_with fail
  go_loopw [1, 5] (fun x i wr => ∃ j q : Nat, x = .int .i64 (q : Int) ∧ i = .int .i64 j ∧ j ≤ n ∧ Hid (q = k + offN ns j) ∧ Hid (Below w.heap.size w wr)) (fun _ i _ => n - (intOf i).toNat)
  case atStart => exact ⟨0, k, rfl, rfl, Nat.zero_le _, rfl, Below.refl _ _⟩
  case round =>
    obtain ⟨j, q, rfl, rfl, hj, HQ, HB⟩ := hrel
    by_cases hlt : j < n
    · have hlt' : (j : Int) < (n : Int) := by omega
      have hj0 : (0 : Int) ≤ (j : Int) := by omega
      have hjl : j < ns.length := by rw [← HNN.out]; exact hlt
      have hq1 : 0 < q := by have := HQ.out; omega
      have hq2 : q ≤ 1000000000 := by have h1 := HQ.out; have h2 := offN_le HS.out j (by omega); omega
      have hbd := HS.out j hjl
      have H1 := hid (H0.out.below HB.out)
      obtain ⟨g, ha, -⟩ : ∃ g, a = some ⟨g, 0, none⟩ ∧ True := by
        rcases H0.out.row.2 with ⟨e, e2⟩ | ⟨g, cap, cur, e, _⟩
        · omega
        · cases e; exact ⟨g, rfl, trivial⟩
      subst ha
      have hvl : j < V.length := by rw [H0.out.len]; exact hjl
      have HVL := hid hvl
      obtain ⟨c0, -, -⟩ := row_cells H1.out.row hvl
      have hlie := H1.out.lie j hjl
      rw [← HQ.out] at hlie
      have HQN : Hid (offN ns (j + 1) = offN ns j + cntN (nAt ns j)) := rfl
      generalize hpp : vAt V j = pp at *
      have HPP := hid hpp
      obtain ⟨p0, p1, p2⟩ := pp
      generalize hxx : nAt ns j = xx at *
      clear hpp hxx hvl
      unfold LiesN at hlie
      generalize hnp : xx.ps.length = np at *
      generalize hnx : xx.keys.length = nx at *
      generalize hni : xx.kids.length = ni at *
      have HLN := hid (And.intro hnp (And.intro hnx hni))
      clear hnp hnx hni
      obtain ⟨⟨ap, cp, e0, hc0, l0⟩, ⟨ax, cx, e1, hc1, l1⟩, ⟨ai, ci, e2, hc2, l2⟩⟩ := hlie
      simp only at e0 e1 e2 c0
      subst e0 e1 e2
      have L1 := hid l1
      have L2 := hid l2
      obtain ⟨b1, b2, b3⟩ := hbd
      have HP := hid (heldPairS_any ap np cp q wr l0 hc0 (by omega) hq1 (by omega))
      clear l0 l1 l2
      go_wp2_with fail
      refine HP.out.mono ?_
      rintro e w1 ⟨rfl, hb⟩
      have HB1 := hid (Below.then' HB.out hb (Nat.le_refl _))
      obtain ⟨-, c1, -⟩ := row_cells (H1.out.below hb).row HVL.out
      rw [HPP.out] at c1
      simp only at c1
      have M1 := hid (L1.out.below hb)
      have M2 := hid (L2.out.below hb)
      have H2 := hid (H1.out.below hb)
      have hs1 : q + np * 2 ≤ 1000010000 := by omega
      have hs0 : 0 < q + np * 2 := by omega
      clear hb c0 HP L1 L2 H1
      generalize hq1' : q + np * 2 = q1 at *
      have HQ1 := hid hq1'
      have HP2 := hid (heldStringS_any ax nx cx q1 w1 M1.out hc1 (by omega) hs0 (by omega))
      clear hq1'
      have hn0 : ¬ (q1 : Int) < 0 := by omega
      go_wp2_with fail
      refine HP2.out.mono ?_
      rintro e w2 ⟨rfl, hb⟩
      have HB2 := hid (Below.then' HB1.out hb (Nat.le_refl _))
      obtain ⟨-, -, c2⟩ := row_cells (H2.out.below hb).row HVL.out
      rw [HPP.out] at c2
      simp only at c2
      have N2 := hid (M2.out.below hb)
      have hs3 : q1 + nx ≤ 1000020000 := by omega
      have hs4 : 0 < q1 + nx := by omega
      clear hb c1 HP2 M1 M2 H2
      generalize hq2' : q1 + nx = q2 at *
      have HQ2 := hid hq2'
      have HP3 := hid (heldIntS_any ai ni ci q2 w2 N2.out hc2 (by omega) hs4 (by omega))
      clear hq2'
      have hn2 : ¬ (q2 : Int) < 0 := by omega
      go_wp2_with fail
      refine HP3.out.mono ?_
      rintro e w3 ⟨rfl, rfl⟩
      have HQ3 : Hid (q2 + ni = k + offN ns (j + 1)) := by
        show _ = _
        rw [HQN.out, cntN, HLN.out.1, HLN.out.2.1, HLN.out.2.2, ← HQ2.out, ← HQ1.out, HQ.out]; omega
      have hs5 : q2 + ni ≤ 1000030000 := by omega
      clear c2 HP3 N2
      generalize hq3' : q2 + ni = q3 at *
      clear hq3'
      have hn3 : ¬ (q3 : Int) < 0 := by omega
      go_wp2
      go_roundw
      case rel => exact ⟨j + 1, q3, rfl, by go_num, by omega, HQ3.out, HB2.out⟩
      case measure => simp [intOf]; omega
    · have hlt' : ¬ (j : Int) < (n : Int) := by omega
      have hjn : j = ns.length := by rw [← HNN.out]; omega
      subst hjn
      have HE : Hid ((k : Int) + (offN ns ns.length : Int) = (q : Int)) := by have := HQ.out; show _ = _; omega
      go_wp2
      go_ret
      exact ⟨by rw [HE.out]; rfl, HB.out⟩
set_option maxHeartbeats 1000000 in
theorem heldTree_any (a : Option Addr) (n c k : Nat) (V : List V3) (ns : List NB) (w : World) (h : MkT w (.slice a n c) V ns k) (hs : smallK ns) (hn : ns.length ≤ 100000) (hk0 : 0 < k) (hk : k ≤ 1000000) :
    Calls Tryz.prog 14 #[.agg #[.slice a n c], .int .i64 k] w fun e w' => e = .returned (.int .i64 ((k + offN ns ns.length : Nat) : Int)) ∧ Below w.heap.size w w' := by
  have hb := below_new (o := .cells #[.slice a n c] 30) (w := w) (Below.refl _ _)
  have HN := hid (heldNodeS_any a n c k V ns _ (h.below hb) hs hn hk0 hk)
  have c0 := (Bk.new w 30 [.slice a n c]).cell (j := 0) rfl
  have HB := hid hb
  clear h hs hb
  go_enter Tryz.func14, Tryz.ntmps14
  go_wp2_with fail
  refine HN.out.mono ?_
  rintro e w1 ⟨rfl, hb⟩
  have HB1 := hid (Below.then' HB.out hb (Nat.le_refl _))
  clear hb
  generalize hq : k + offN ns ns.length = q at *
  have HQ := hid hq
  clear hq
  have hn0 : ¬ (q : Int) < 0 := by omega
  go_wp2
  go_ret
  exact ⟨by rw [HQ.out]; rfl, HB1.out⟩
mutual
theorem lay_small : ∀ (t : T) (r : Bool) (a : Nat), t.full r = true → ∀ x ∈ lay a t, x.ps.length ≤ 1000 ∧ x.keys.length ≤ 1000 ∧ x.kids.length ≤ 1000
  | .mk ps ks, r, a, h, x, hx => by
    by_cases hk : ks = []
    · subst hk
      have := (full_lf h).1
      simp [lay] at hx
      subst hx
      simp; omega
    · obtain ⟨_, h2, rfl, h3⟩ := full_br h hk
      simp only [lay, hk, if_false, List.mem_cons] at hx
      rcases hx with rfl | hx
      · simp only [List.length_nil, List.length_map, List.length_tail, places_length]; omega
      · exact layL_small ks (a + 1) h3 x hx
theorem layL_small : ∀ (ks : List T) (a : Nat), (∀ k ∈ ks, k.full false = true) → ∀ x ∈ layL a ks, x.ps.length ≤ 1000 ∧ x.keys.length ≤ 1000 ∧ x.kids.length ≤ 1000
  | [], a, _, x, hx => by simp [layL] at hx
  | k :: ks, a, h, x, hx => by
    rw [layL] at hx
    rcases List.mem_append.1 hx with hx | hx
    · exact lay_small k false a (h k (by simp)) x hx
    · exact layL_small ks (a + k.size) (fun y hy => h y (by simp [hy])) x hx
end
theorem smallK_of {ns : List NB} (h : ∀ x ∈ ns, x.ps.length ≤ 1000 ∧ x.keys.length ≤ 1000 ∧ x.kids.length ≤ 1000) : smallK ns := by
  intro i hi
  have : nAt ns i ∈ ns := by simp [nAt, hi]
  exact h _ this
end Go.Proofs.YtkfeefaokghibabGreat
/-
  l03Tree and TreePut of the specification.
-/
namespace Go.Proofs.YtkfeefaokghibabGreat
open Go.RowKit
/-- A root that has one kid alone gives way to it. -/
def strip1 (t : T) : T := if t.ks.length = 1 then tAt t.ks 0 else t
theorem strip1_id {t : T} (h : t.ks.length ≠ 1) : strip1 t = t := by rw [strip1, if_neg h]
def kidsN (w : World) (a : Addr) : Nat := match w.cell? a with
  | some (.slice _ n _) => if n = 1 then 1 else 0
  | _ => 0
/-- A list of nodes that is there to be read, in new blocks. -/
def NewN (w w' : World) (v : Value) (ms : List NB) : Prop := Nr w' (fun y => w.heap.size ≤ y ∧ y < w'.heap.size) v ms
theorem NewN.kept {w w' w2 : World} {v : Value} {ms : List NB} (h : NewN w w' v ms) (hb : Below w'.heap.size w' w2) : NewN w w2 v ms := (Nr.below h hb).mono (fun _ hy _ => ⟨hy.1, Nat.lt_of_lt_of_le hy.2 hb.size⟩)
theorem NewN.nil (w w' : World) : NewN w w' (.slice none 0 0) [] := ⟨[], rfl, rw_nil _ _, fun i hi => by simp at hi⟩
def NewK (w w' : World) (v : Value) (ms : List NB) : Prop := NrK w' (fun y => w.heap.size ≤ y ∧ y < w'.heap.size) v ms
theorem NewK.nil (w w' : World) : NewK w w' (.slice none 0 0) [] := nrK_nil _ _
theorem NewK.new {w w' : World} {v : Value} {ms : List NB} (h : NewK w w' v ms) : NewN w w' v ms := NrK.nr h
def STree (w : World) (ms : List NB) (e : Ending) (w' : World) : Prop := ∃ a n c, e = .returned (.agg #[.slice a n c]) ∧ NewK w w' (.slice a n c) ms ∧ Below w.heap.size w w'
set_option maxHeartbeats 2000000 in
set_option maxRecDepth 20000 in
theorem specTree_any (S : Nat → Prop) (lf : Bool) (ap ak : Option Addr) (np cp nk ck : Nat) (t : T) (w : World) (h : Sub w S lf (.slice ap np cp) (.slice ak nk ck) t) (h1 : (strip1 t).ks.length ≠ 1) (hf : (strip1 t).full true = true ∨ strip1 t = bareT) (hz : (strip1 t).size ≤ 1048576) :
    Calls Tryz.prog 20 #[.agg #[.bool lf, .slice ap np cp, .slice ak nk ck]] w fun e w' => STree w (layT (strip1 t)) e w' := by
  obtain ⟨_, _, _, _, _, _, e1, e2, -, -, -, -, -, -⟩ := h.shape
  cases e1
  cases e2
  have H0 : Hid (Sub w (fun y => y < w.heap.size) lf (.slice ap np cp) (.slice ak nk ck) t) := h.mono (fun y hy hl => hl)
  have HB0 : Hid (Below w.heap.size w ((w.alloc (.cells #[.bool lf, .slice ap np cp, .slice ak nk ck] 50)).alloc (.cells #[.slice none 0 0] 30))) := below_new (below_new (Below.refl _ _))
  have K0 : Hid (Bk ((w.alloc (.cells #[.bool lf, .slice ap np cp, .slice ak nk ck] 50)).alloc (.cells #[.slice none 0 0] 30)) w.heap.size 50 [.bool lf, .slice ap np cp, .slice ak nk ck]) := (Bk.new w 50 [.bool lf, .slice ap np cp, .slice ak nk ck]).alloc _
  have KR : Hid (Bk ((w.alloc (.cells #[.bool lf, .slice ap np cp, .slice ak nk ck] 50)).alloc (.cells #[.slice none 0 0] 30)) (w.heap.size + 1) 30 [.slice none 0 0]) := by
    have := Bk.new (w.alloc (.cells #[.bool lf, .slice ap np cp, .slice ak nk ck] 50)) 30 [.slice none 0 0]
    show Bk _ _ _ _
    simpa using this
  have HS := hid h1
  have HF := hid hf
  have HZ := hid hz
  clear h h1 hf hz
  generalize hT : strip1 t = T0 at *
  have HT := hid hT
  clear hT
  go_enter Tryz.func20, Tryz.ntmps20
  go_wp2_with fail
  go_loopw [3] (fun x wr => ∃ (l : Bool) (a0 b0 : Option Addr) (n0 c0 m0 d0 : Nat) (t' : T), x = x ∧ Hid (Bk wr w.heap.size 50 [.bool l, .slice a0 n0 c0, .slice b0 m0 d0]) ∧ Hid (Sub wr (fun y => y < w.heap.size) l (.slice a0 n0 c0) (.slice b0 m0 d0) t') ∧ Hid (strip1 t' = T0) ∧ Hid (Bk wr (w.heap.size + 1) 30 [.slice none 0 0]) ∧ Hid (Below w.heap.size w wr)) (fun _ wr => kidsN wr ⟨w.heap.size, 2, none⟩)
  case atStart => exact ⟨lf, ap, ak, np, cp, nk, ck, t, rfl, K0.out, H0.out.kept HB0.out, HT.out, KR.out, HB0.out⟩
  case round =>
    obtain ⟨l, a0, b0, n0, c0, m0, d0, t', -, HK, HSB, HE, HR, HB⟩ := hrel
    obtain ⟨_, _, _, _, _, _, e1, e2, HN0, HM0, -, -, hl, -⟩ := HSB.out.shape
    cases e1
    cases e2
    have q0 := HK.out.cell (j := 0) rfl
    have q1 := HK.out.cell (j := 1) rfl
    have q2 := HK.out.cell (j := 2) rfl
    have f0 := HK.out.free 0
    have f1 := HK.out.free 1
    have f2 := HK.out.free 2
    by_cases hm : m0 = 1
    · have hl' : l = false := by rw [hl, hm]; rfl
      subst hm
      subst hl'
      obtain ⟨g, off, hab, hg1, hg2, hkid⟩ := HSB.out.kids (by omega)
      subst hab
      obtain ⟨l9, ap9, np9, cp9, ak9, nk9, ck9, x0, x1, x2, hs9⟩ := hkid 0 (by omega)
      simp only [Nat.zero_mul, Nat.add_zero] at x0 x1 x2
      have hE : tAt t'.ks 0 = T0 := by
        have := HE.out
        rwa [strip1, if_pos HM0.out.symm] at this
      have HN9 : Hid (nk9 ≠ 1) := by
        obtain ⟨_, _, _, _, _, _, _, e2, -, h5, -⟩ := hs9.shape
        cases e2
        rw [hE] at h5
        show _ ≠ _
        rw [h5.out]; exact HS.out
      rw [hE] at hs9
      have hon : Only (fun y => y = w.heap.size) wr (((wr.setCell ⟨w.heap.size, 0, none⟩ (.bool l9)).setCell ⟨w.heap.size, 1, none⟩ (.slice ap9 np9 cp9)).setCell ⟨w.heap.size, 2, none⟩ (.slice ak9 nk9 ck9)) := ((only_set (R := fun y => y = w.heap.size) rfl _).trans (only_set (R := fun y => y = w.heap.size) rfl _)).trans (only_set (R := fun y => y = w.heap.size) rfl _)
      have HK2 := hid (((HK.out.set 0 (.bool l9)).set 1 (.slice ap9 np9 cp9)).set 2 (.slice ak9 nk9 ck9))
      have HS2 := hid (hs9.to hon (fun y hy _ e => by omega))
      have HR2 := hid (HR.out.to hon (by omega))
      have HB2 : Hid (Below w.heap.size w (((wr.setCell ⟨w.heap.size, 0, none⟩ (.bool l9)).setCell ⟨w.heap.size, 1, none⟩ (.slice ap9 np9 cp9)).setCell ⟨w.heap.size, 2, none⟩ (.slice ak9 nk9 ck9))) := HB.out.trans (hon.below HB.out.size (fun b hb e => by omega))
      have HM1 : Hid (kidsN wr ⟨w.heap.size, 2, none⟩ = 1) := by show _ = _; rw [kidsN, q2]; simp
      have HM2 : Hid (kidsN (((wr.setCell ⟨w.heap.size, 0, none⟩ (.bool l9)).setCell ⟨w.heap.size, 1, none⟩ (.slice ap9 np9 cp9)).setCell ⟨w.heap.size, 2, none⟩ (.slice ak9 nk9 ck9)) ⟨w.heap.size, 2, none⟩ = 0) := by
        show _ = _
        rw [kidsN, HK2.out.cell (j := 2) rfl]
        simp [HN9.out]
      clear hkid hs9 hon hg1 hg2 hl hE
      go_wp2
      go_roundw
      case rel => exact ⟨l9, ap9, ak9, np9, cp9, nk9, ck9, T0, trivial, HK2.out, HS2.out, strip1_id HS.out, HR2.out, HB2.out⟩
      case measure => rw [HM2.out, HM1.out]; omega
    · have hE : t' = T0 := by
        have := HE.out
        rwa [strip1, if_neg (by rw [← HM0.out]; exact hm)] at this
      subst hE
      have hm' : ¬ (m0 : Int) = 1 := by omega
      have r0 := HR.out.cell (j := 0) rfl
      have rf := HR.out.free 0
      by_cases hm0 : m0 = 0
      · have hl' : l = true := by rw [hl, hm0]; rfl
        subst hm0 hl'
        clear hl
        by_cases hn0 : n0 = 0
        · subst hn0
          have HBA : Hid (layT t' = []) := by
            show _ = _
            rw [layT, if_pos]
            exact decide_eq_true (by have h1 := HN0.out; have h2 := HM0.out; omega)
          have HFB : Hid (Below w.heap.size w (wr.setCell ⟨w.heap.size + 1, 0, none⟩ (.slice none 0 0))) := ⟨HB.out.os, HB.out.tape, HB.out.output, by simp [World.setCell]; exact HB.out.size, fun i hi => (Below.heap_setCell _ _ _ _ (show i ≠ w.heap.size + 1 by omega)).trans (HB.out.block i hi)⟩
          have d1 := (HR.out.set 0 (.slice none 0 0)).cell (j := 0) rfl
          go_wp2
          refine bodyPost_ret (v := .agg #[.slice none 0 0]) ?_ rfl ?_
          · refine results_tree1 rfl _ _ _ rfl ?_
            exact d1
          · rw [HBA.out]; exact ⟨_, _, _, rfl, NewK.nil _ _, HFB.out⟩
        · have hn1 : ¬ (n0 : Int) = 0 := by omega
          have HFU : Hid (t'.full true = true) := by
            rcases HF.out with h | h
            · exact h
            · exfalso
              have h1 := HN0.out
              have h2 := HM0.out
              rw [h] at h1 h2
              simp [bareT, T.ps, T.ks] at h1 h2
              omega
          have HBA : Hid (layT t' = lay 0 t') := by
            show _ = _
            rw [layT, if_neg]
            rw [show t'.bare = false from decide_eq_false (by have h1 := HN0.out; have h2 := HM0.out; omega)]; simp
          go_wp2_with fail
          refine (specLay_any t' (fun y => y < w.heap.size) true a0 b0 n0 c0 0 d0 wr (fun _ => False) none 0 0 [] true HSB.out (fun y _ => by simp [Value.ownBlock]) (no_nil wr) (by have := HZ.out; simpa using this) HFU.out).mono ?_
          rintro e w2 ⟨v2, rfl, hN2, ho2, hv2⟩
          have hb2 : Below wr.heap.size wr w2 := ho2.below (Nat.le_refl _) (fun b _ h => by cases h)
          obtain ⟨a2, n2, c2, e2, -⟩ := hN2.shape
          subst e2
          simp only [List.nil_append, List.length_nil] at hN2
          have HR2 := hid (HR.out.below hb2)
          have HB2 := hid (Below.then' HB.out hb2 (Nat.le_refl _))
          have hwr : w.heap.size + 1 < wr.heap.size := HR.out.lt
          have HFB : Hid (Below w.heap.size w (w2.setCell ⟨w.heap.size + 1, 0, none⟩ (.slice a2 n2 c2))) := ⟨HB2.out.os, HB2.out.tape, HB2.out.output, by simp [World.setCell]; exact HB2.out.size, fun i hi => (Below.heap_setCell _ _ _ _ (show i ≠ w.heap.size + 1 by omega)).trans (HB2.out.block i hi)⟩
          have HNN : Hid (NewK w (w2.setCell ⟨w.heap.size + 1, 0, none⟩ (.slice a2 n2 c2)) (.slice a2 n2 c2) (layT t')) := by
            show NewK _ _ _ _
            rw [HBA.out]
            have hzz : (w2.setCell ⟨w.heap.size + 1, 0, none⟩ (.slice a2 n2 c2)).heap.size = w2.heap.size := by simp [World.setCell]
            have hlt := hN2.lt
            obtain ⟨V, n1, n2', n3, n4, n5⟩ := hN2
            have hn : NrK w2 (fun y => wr.heap.size ≤ y) (.slice a2 n2 c2) (lay 0 t') := by
              refine ⟨V, n1, ⟨n2', fun y hy => ?_⟩, fun i hi => (n3 i hi).mono (fun y hy _ => ?_), n5, fun i hi y hy => (n4 y ((n3 i hi).2.2.2 y hy)).2⟩
              · rcases hv2 y hy with h | h
                · cases h
                · exact h
              · rcases hy with h | h
                · exact h.elim
                · exact h.1
            refine (hn.to (only_set (R := fun y => y = w.heap.size + 1) rfl _) (fun y hy _ e => by omega)).mono (fun y hy hl => ⟨by omega, hl⟩)
          have e0 := HR2.out.cell (j := 0) rfl
          have e1 := HR2.out.free 0
          have d1 := (HR2.out.set 0 (.slice a2 n2 c2)).cell (j := 0) rfl
          clear hN2 ho2 hv2 hb2 r0 rf
          go_wp2
          refine bodyPost_ret (v := .agg #[.slice a2 n2 c2]) ?_ rfl ?_
          · refine results_tree1 rfl _ _ _ rfl ?_
            exact d1
          · exact ⟨_, _, _, rfl, HNN.out, HFB.out⟩
      · have hl' : l = false := by rw [hl]; exact decide_eq_false hm0
        subst hl'
        clear hl
        have HFU : Hid (t'.full true = true) := by
          rcases HF.out with h | h
          · exact h
          · exfalso
            have h1 := HN0.out
            have h2 := HM0.out
            rw [h] at h1 h2
            simp [bareT, T.ps, T.ks] at h1 h2
            omega
        have HBA : Hid (layT t' = lay 0 t') := by
          show _ = _
          rw [layT, if_neg]
          rw [show t'.bare = false from decide_eq_false (by have h1 := HN0.out; have h2 := HM0.out; omega)]; simp
        go_wp2_with fail
        refine (specLay_any t' (fun y => y < w.heap.size) false a0 b0 n0 c0 m0 d0 wr (fun _ => False) none 0 0 [] true HSB.out (fun y _ => by simp [Value.ownBlock]) (no_nil wr) (by have := HZ.out; simpa using this) HFU.out).mono ?_
        rintro e w2 ⟨v2, rfl, hN2, ho2, hv2⟩
        have hb2 : Below wr.heap.size wr w2 := ho2.below (Nat.le_refl _) (fun b _ h => by cases h)
        obtain ⟨a2, n2, c2, e2, -⟩ := hN2.shape
        subst e2
        simp only [List.nil_append, List.length_nil] at hN2
        have HR2 := hid (HR.out.below hb2)
        have HB2 := hid (Below.then' HB.out hb2 (Nat.le_refl _))
        have hwr : w.heap.size + 1 < wr.heap.size := HR.out.lt
        have HFB : Hid (Below w.heap.size w (w2.setCell ⟨w.heap.size + 1, 0, none⟩ (.slice a2 n2 c2))) := ⟨HB2.out.os, HB2.out.tape, HB2.out.output, by simp [World.setCell]; exact HB2.out.size, fun i hi => (Below.heap_setCell _ _ _ _ (show i ≠ w.heap.size + 1 by omega)).trans (HB2.out.block i hi)⟩
        have HNN : Hid (NewK w (w2.setCell ⟨w.heap.size + 1, 0, none⟩ (.slice a2 n2 c2)) (.slice a2 n2 c2) (layT t')) := by
          show NewK _ _ _ _
          rw [HBA.out]
          have hzz : (w2.setCell ⟨w.heap.size + 1, 0, none⟩ (.slice a2 n2 c2)).heap.size = w2.heap.size := by simp [World.setCell]
          have hlt := hN2.lt
          obtain ⟨V, n1, n2', n3, n4, n5⟩ := hN2
          have hn : NrK w2 (fun y => wr.heap.size ≤ y) (.slice a2 n2 c2) (lay 0 t') := by
            refine ⟨V, n1, ⟨n2', fun y hy => ?_⟩, fun i hi => (n3 i hi).mono (fun y hy _ => ?_), n5, fun i hi y hy => (n4 y ((n3 i hi).2.2.2 y hy)).2⟩
            · rcases hv2 y hy with h | h
              · cases h
              · exact h
            · rcases hy with h | h
              · exact h.elim
              · exact h.1
          refine (hn.to (only_set (R := fun y => y = w.heap.size + 1) rfl _) (fun y hy _ e => by omega)).mono (fun y hy hl => ⟨by omega, hl⟩)
        have e0 := HR2.out.cell (j := 0) rfl
        have e1 := HR2.out.free 0
        have d1 := (HR2.out.set 0 (.slice a2 n2 c2)).cell (j := 0) rfl
        clear hN2 ho2 hv2 hb2 r0 rf
        go_wp2
        refine bodyPost_ret (v := .agg #[.slice a2 n2 c2]) ?_ rfl ?_
        · refine results_tree1 rfl _ _ _ rfl ?_
          exact d1
        · exact ⟨_, _, _, rfl, HNN.out, HFB.out⟩
theorem strip1_two (x : T × T) : strip1 (.mk [] (two x)) = rootT x := by
  unfold strip1 rootT two
  cases h : x.2.bare with
  | true => simp [T.ks, tAt]
  | false => simp [T.ks]
theorem two_all (x : T × T) : (T.mk [] (two x)).all = (rootT x).all := by
  have : (T.mk [] (two x)).all = allL (two x) := by simp [T.all]
  rw [this]
  unfold rootT two
  cases h : x.2.bare with
  | true => simp [allL]
  | false => simp [allL, T.all]
theorem full_ks1 {t : T} {r : Bool} (h : t.full r = true) : t.ks.length ≠ 1 := by
  obtain ⟨ps, ks⟩ := t
  simp only [T.ks]
  by_cases hk : ks = []
  · subst hk; simp
  · obtain ⟨h1, _⟩ := full_br h hk; omega
def STPost (o : Option (List NB)) (w : World) (e : Ending) (w' : World) : Prop := ∃ a n c, e = .returned (.tuple #[.agg #[.slice a n c], .bool o.isSome]) ∧ NewK w w' (.slice a n c) (o.getD []) ∧ Below w.heap.size w w'
set_option maxHeartbeats 2000000 in
set_option maxRecDepth 20000 in
theorem specTreePut_any (ns : List NB) (hlen : ns.length ≤ 1048576) (hsm : smallN ns) (S : Nat → Prop) (an : Option Addr) (nn cn : Nat) (k v : ByteArray) (w : World) (hN : Nr w S (.slice an nn cn) ns) :
    Calls Tryz.prog 22 #[.agg #[.slice an nn cn], .string k, .string v] w fun e w' => STPost (putV ns k v) w e w' := by
  have h1 := hN.len.2.1
  have h2 := hN.len.2.2
  have HB0 : Hid (Below w.heap.size w ((w.alloc (.cells #[.slice an nn cn] 30)).alloc (.cells #[.slice none 0 0] 30))) := below_new (below_new (Below.refl _ _))
  have K0 : Hid (Bk ((w.alloc (.cells #[.slice an nn cn] 30)).alloc (.cells #[.slice none 0 0] 30)) (w.heap.size + 1) 30 [.slice none 0 0]) := by
    have := Bk.new (w.alloc (.cells #[.slice an nn cn] 30)) 30 [.slice none 0 0]
    show Bk _ _ _ _
    simpa using this
  have KA : Hid (Bk ((w.alloc (.cells #[.slice an nn cn] 30)).alloc (.cells #[.slice none 0 0] 30)) w.heap.size 30 [.slice an nn cn]) := (Bk.new w 30 [.slice an nn cn]).alloc _
  have a0 := KA.out.cell (j := 0) rfl
  have H0 := hid (hN.below HB0.out)
  have HLS := hid (And.intro hlen hsm)
  clear hN hlen hsm
  go_enter Tryz.func22, Tryz.ntmps22
  go_wp2_with fail
  refine (specTreeOk_any ns HLS.out.1 HLS.out.2 S an nn cn _ H0.out).mono ?_
  generalize (w.alloc (.cells #[.slice an nn cn] 30)).alloc (.cells #[.slice none 0 0] 30) = U at *
  rintro e w1 ⟨rfl, hb⟩
  have HB1 := hid (HB0.out.trans (hb.mono HB0.out.size))
  have K1 := hid (K0.out.below hb)
  have KA1 := hid (KA.out.below hb)
  have H1 := hid (H0.out.below hb)
  clear hb HB0 K0 H0 KA a0
  have HNO : Hid (∀ (X : World) (u : Value), Below w.heap.size w X → Below w.heap.size w (X.setCell ⟨w.heap.size + 1, 0, none⟩ u)) := fun X u hb => ⟨hb.os, hb.tape, hb.output, by simp [World.setCell]; exact hb.size, fun i hi => (Below.heap_setCell _ _ _ _ (show i ≠ w.heap.size + 1 by omega)).trans (hb.block i hi)⟩
  rw [spOk_eq]
  have c0 := K1.out.cell (j := 0) rfl
  have f0 := K1.out.free 0
  have d0 := (K1.out.set 0 (.slice none 0 0)).cell (j := 0) rfl
  cases hr : okT ns with
  | none =>
    have HR : Hid (putV ns k v = none) := by show _ = _; rw [putV, hr]
    clear hr
    go_wp2
    refine bodyPost_ret (v := .tuple #[.agg #[.slice none 0 0], .bool false]) ?_ rfl ?_
    · refine results_tree2 rfl _ _ _ rfl rfl ?_
      exact d0
    · rw [HR.out]; exact ⟨_, _, _, rfl, NewK.nil _ _, HNO.out _ _ HB1.out⟩
  | some t =>
    have HR : Hid (putV ns k v = if kOk k = true ∧ vOk v = true then (if 200 < (rootT (putF t.lv t (k, v))).all.length then none else some (layT (rootT (putF t.lv t (k, v))))) else none) := by show _ = _; rw [putV, hr]
    cases hk : kOk k with
    | false =>
      have HR2 : Hid (putV ns k v = none) := by show _ = _; rw [HR.out, hk]; simp
      have HKO := hid (specKeyOk_is k false hk)
      clear hk HR hr
      go_wp2_with fail
      refine (HKO.out w1).mono ?_
      rintro e w2 ⟨rfl, rfl⟩
      go_wp2
      refine bodyPost_ret (v := .tuple #[.agg #[.slice none 0 0], .bool false]) ?_ rfl ?_
      · refine results_tree2 rfl _ _ _ rfl rfl ?_
        exact d0
      · rw [HR2.out]; exact ⟨_, _, _, rfl, NewK.nil _ _, HNO.out _ _ HB1.out⟩
    | true =>
      have HKO := hid (specKeyOk_is k true hk)
      cases hv : vOk v with
      | false =>
        have HR2 : Hid (putV ns k v = none) := by show _ = _; rw [HR.out, hv]; simp
        have HVO := hid (specValOk_any v)
        rw [hv] at HVO
        clear hk hv HR hr
        go_wp2_with fail
        refine (HKO.out w1).mono ?_
        rintro e w2 ⟨rfl, rfl⟩
        go_wp2_with fail
        refine (HVO.out w2).mono ?_
        rintro e w3 ⟨rfl, rfl⟩
        go_wp2
        refine bodyPost_ret (v := .tuple #[.agg #[.slice none 0 0], .bool false]) ?_ rfl ?_
        · refine results_tree2 rfl _ _ _ rfl rfl ?_
          exact d0
        · rw [HR2.out]; exact ⟨_, _, _, rfl, NewK.nil _ _, HNO.out _ _ HB1.out⟩
      | true =>
        have HR2 : Hid (putV ns k v = if 200 < (rootT (putF t.lv t (k, v))).all.length then none else some (layT (rootT (putF t.lv t (k, v))))) := by show _ = _; rw [HR.out, hk, hv]; simp
        have HVO := hid (specValOk_any v)
        rw [hv] at HVO
        have HOK := hid (okT_facts hr)
        have HG := hid (okT_putIn hr)
        have HRO := hid (rootT_ok hr (k, v))
        have HSZ := hid (putV_size hr (k, v))
        have HPS : Hid (putS t.lv t (k, v) = two (putF t.lv t (k, v))) := putS_eq t.lv true t (k, v) HG.out
        clear hk hv HR hr
        have g0 := KA1.out.cell (j := 0) rfl
        go_wp2_with fail
        refine (HKO.out w1).mono ?_
        rintro e w2 ⟨rfl, rfl⟩
        go_wp2_with fail
        refine (HVO.out w2).mono ?_
        rintro e w3 ⟨rfl, rfl⟩
        clear HKO HVO c0 f0 d0
        go_wp2_with fail
        refine (specRoot_any ns HLS.out.1 HLS.out.2 S an nn cn w2 H1.out).mono ?_
        rintro e w3 ⟨hpost, hb⟩
        rw [HOK.out.root] at hpost
        obtain ⟨lf, ap, np, cp, ak, nk, ck, rfl, hs⟩ := hpost
        have HS3 := hid hs
        have HB3 := hid (Below.then' HB1.out hb (Nat.le_refl _))
        have K3 := hid (K1.out.below hb)
        clear hs hb K1 KA1 g0 HB1 H1
        have HB4 := hid (below_new (o := .cells #[.bool lf, .slice ap np cp, .slice ak nk ck] 50) (w := w3) (Below.refl _ _))
        have KS := hid (Bk.new w3 50 [.bool lf, .slice ap np cp, .slice ak nk ck])
        have k0 := KS.out.cell (j := 0) rfl
        have k1 := KS.out.cell (j := 1) rfl
        have k2 := KS.out.cell (j := 2) rfl
        go_wp2_with fail
        refine (specPut_any t.lv true _ lf ap ak np cp nk ck t k v _ (HS3.out.kept HB4.out) HG.out).mono ?_
        rintro e w5 ⟨v5, rfl, hR5, hb5⟩
        rw [HPS.out] at hR5
        obtain ⟨a5, n5, c5, e5, -⟩ := hR5.shape
        subst e5
        have HR5 : Hid (SubR w5 (fun _ => True) (.slice a5 n5 c5) (two (putF t.lv t (k, v)))) := hR5.mono (fun _ _ _ => trivial)
        have HB5 := hid (Below.then' (Below.then' HB3.out HB4.out (Nat.le_refl _)) hb5 (Nat.le_refl _))
        have K5 := hid ((K3.out.below HB4.out).below hb5)
        clear hR5 hb5 k0 k1 k2 KS HB4 HB3 K3 HS3
        generalize putF t.lv t (k, v) = rr at *
        have HST := hid (strip1_two rr)
        have HAL := hid (two_all rr)
        have HNE : Hid (two rr ≠ []) := fun e => by have := (two_len rr).1; rw [e] at this; simp at this
        have HB6 := hid (below_new (o := .cells #[.bool false, .slice none 0 0, .slice a5 n5 c5] 50) (w := w5) (Below.refl _ _))
        have KS := hid (Bk.new w5 50 [.bool false, .slice none 0 0, .slice a5 n5 c5])
        have HS6 := hid ((HR5.out.kept HB6.out).sub HNE.out)
        have HBW := hid (Below.then' HB5.out HB6.out (Nat.le_refl _))
        have K6 := hid (K5.out.below HB6.out)
        have k0 := KS.out.cell (j := 0) rfl
        have k1 := KS.out.cell (j := 1) rfl
        have k2 := KS.out.cell (j := 2) rfl
        go_wp2_with fail
        refine (specPairs_any (.mk [] (two rr)) _ false none a5 0 0 n5 c5 _ HS6.out (by rw [HAL.out]; have := HSZ.out.1; omega)).mono ?_
        generalize w5.alloc (.cells #[.bool false, .slice none 0 0, .slice a5 n5 c5] 50) = X at *
        rintro e w7 ⟨v7, rfl, hO, hb⟩
        rw [HAL.out] at hO
        obtain ⟨a7, n7, c7, e7, hn7⟩ := hO.shape'
        subst e7
        have HN7 := hid hn7.out
        have hn5 : n7 ≤ 201 := by have := HN7.out; have := HSZ.out.1; omega
        have HB7 := hid (Below.then' HBW.out hb (Nat.le_refl _))
        have K7 := hid (K6.out.below hb)
        have KS7 := hid (KS.out.below hb)
        have HS7 := hid (HS6.out.kept hb)
        clear hO hb hn7 k0 k1 k2 KS K6 HS6 HBW HB6 HB5 K5 HR5
        have c0 := K7.out.cell (j := 0) rfl
        have f0 := K7.out.free 0
        have d0 := (K7.out.set 0 (.slice none 0 0)).cell (j := 0) rfl
        have k0 := KS7.out.cell (j := 0) rfl
        have k1 := KS7.out.cell (j := 1) rfl
        have k2 := KS7.out.cell (j := 2) rfl
        by_cases hlen : 200 < n7
        · have hlen' : (200 : Int) < (n7 : Int) := by omega
          have HR3 : Hid (putV ns k v = none) := by
            show _ = _
            rw [HR2.out, if_pos]
            have := HN7.out; omega
          go_wp2
          refine bodyPost_ret (v := .tuple #[.agg #[.slice none 0 0], .bool false]) ?_ rfl ?_
          · refine results_tree2 rfl _ _ _ rfl rfl ?_
            exact d0
          · rw [HR3.out]; exact ⟨_, _, _, rfl, NewK.nil _ _, HNO.out _ _ HB7.out⟩
        · have hlen' : ¬ (200 : Int) < (n7 : Int) := by omega
          have HR3 : Hid (putV ns k v = some (layT (rootT rr))) := by
            show _ = _
            rw [HR2.out, if_neg]
            have := HN7.out; omega
          clear d0
          go_wp2_with fail
          refine (specTree_any _ false none a5 0 0 n5 c5 (.mk [] (two rr)) w7 HS7.out (by rw [HST.out]; exact full_ks1 HRO.out.1) (by rw [HST.out]; exact .inl HRO.out.1) (by rw [HST.out]; have := HSZ.out.2.1; omega)).mono ?_
          rintro e w8 ⟨a8, n8, c8, rfl, hN8, hb8⟩
          rw [HST.out] at hN8
          have K8 := hid (K7.out.below hb8)
          have HB8 := hid (Below.then' HB7.out hb8 (Nat.le_refl _))
          have hwx : w.heap.size + 1 < w7.heap.size := K7.out.lt
          have HNN : Hid (NewK w (w8.setCell ⟨w.heap.size + 1, 0, none⟩ (.slice a8 n8 c8)) (.slice a8 n8 c8) (layT (rootT rr))) := (NrK.to hN8 (only_set (R := fun y => y = w.heap.size + 1) rfl _) (fun y hy _ e => by have := hy.1; omega)).mono (fun y hy hl => ⟨by have := hy.1; omega, hl⟩)
          have e0 := K8.out.cell (j := 0) rfl
          have e1 := K8.out.free 0
          have d1 := (K8.out.set 0 (.slice a8 n8 c8)).cell (j := 0) rfl
          clear hN8 hb8 c0 f0
          go_wp2
          refine bodyPost_ret (v := .tuple #[.agg #[.slice a8 n8 c8], .bool true]) ?_ rfl ?_
          · refine results_tree2 rfl _ _ _ rfl rfl ?_
            exact d1
          · rw [HR3.out]; exact ⟨_, _, _, rfl, HNN.out, HNO.out _ _ HB8.out⟩
theorem layT_small {t : T} (h : t.full true = true ∨ t = bareT) (hz : t.size ≤ 1000) : smallK (layT t) ∧ (layT t).length ≤ 100000 := by
  unfold layT
  split
  · exact ⟨fun i hi => by simp at hi, by simp⟩
  · rename_i hb
    rcases h with h | h
    · exact ⟨smallK_of (lay_small t true 0 h), by rw [lay_length]; omega⟩
    · rw [h] at hb; exact absurd rfl hb
theorem putV_small (ns : List NB) (k v : ByteArray) : smallK ((putV ns k v).getD []) ∧ ((putV ns k v).getD []).length ≤ 100000 := by
  have h0 : smallK (([] : List NB)) ∧ ([] : List NB).length ≤ 100000 := ⟨fun i hi => by simp at hi, by simp⟩
  unfold putV
  split
  · exact h0
  · rename_i t h
    split
    · split
      · exact h0
      · exact layT_small (.inl (rootT_ok h (k, v)).1) (by have := (putV_size h (k, v)).2.1; omega)
    · exact h0
end Go.Proofs.YtkfeefaokghibabGreat
/-
  l03Drop and TreeDrop of the specification.
-/
namespace Go.Proofs.YtkfeefaokghibabGreat
open Go.RowKit
theorem results_sub1 {fn : Func} {p : Tmp} (h : fn.results = #[.cell p 50]) (tmps : Array Value) (w : World) (g : Nat) {x y z : Value} (hp : tmps.getD p undef = .pointer (some ⟨g, 0, none⟩)) (c0 : w.cell? ⟨g, 0, none⟩ = some x) (c1 : w.cell? ⟨g, 1, none⟩ = some y) (c2 : w.cell? ⟨g, 2, none⟩ = some z) : (results fn tmps).run Tryz.prog w = .ok (.agg #[x, y, z]) w := by
  have hp' : tmps[p]?.getD undef = .pointer (some ⟨g, 0, none⟩) := by simpa using hp
  simp [results, h, hp', asAddr, load_sub c0 c1 c2]
def DropPost (w : World) (S : Nat → Prop) (t : T) (e : Ending) (w' : World) : Prop := ∃ lf ap np cp ak nk ck, e = .returned (.agg #[.bool lf, .slice ap np cp, .slice ak nk ck]) ∧ Sub w' (fun y => S y ∨ w.heap.size ≤ y) lf (.slice ap np cp) (.slice ak nk ck) t ∧ Below w.heap.size w w'
/-- What is kept: the sub, the cells of the answer. -/
structure DrI (w wr : World) (lf : Bool) (pv kv : Value) : Prop where
  s : Bk wr w.heap.size 50 [.bool lf, pv, kv]
  r : Bk wr (w.heap.size + 1) 50 [.bool false, .slice none 0 0, .slice none 0 0]
  b : Below w.heap.size w wr
  z : w.heap.size + 2 ≤ wr.heap.size
theorem DrI.keep {w wr w1 : World} {lf : Bool} {pv kv : Value} (h : DrI w wr lf pv kv) (hb : Below wr.heap.size wr w1) : DrI w w1 lf pv kv := ⟨h.s.below hb, h.r.below hb, Below.then' h.b hb (Nat.le_refl _), Nat.le_trans h.z hb.size⟩
theorem DrI.only {w u w2 : World} {lf : Bool} {pv kv : Value} {R : Nat → Prop} (h : DrI w u lf pv kv) (hon : Only R u w2) (ho : ∀ x, R x → w.heap.size + 2 ≤ x) : DrI w w2 lf pv kv :=
  ⟨h.s.to hon (fun e => by have := ho _ e; omega), h.r.to hon (fun e => by have := ho _ e; omega), h.b.trans (hon.below h.b.size (fun b hb e => by have := ho _ e; omega)), Nat.le_trans h.z hon.size⟩
theorem DrI.grow {w u w2 : World} {lf : Bool} {pv kv : Value} {o : Option Nat} (h : DrI w u lf pv kv) (hg : u.grownBy w2 o) (ho : ∀ x, o = some x → w.heap.size + 2 ≤ x) : DrI w w2 lf pv kv := h.only (only_of_grown hg (R := fun y => o = some y) (fun _ e => e)) (fun x e => ho x e)
theorem dri_start (w : World) (lf : Bool) (pv kv : Value) : DrI w ((w.alloc (.cells #[.bool lf, pv, kv] 50)).alloc (.cells #[.bool false, .slice none 0 0, .slice none 0 0] 50)) lf pv kv := by
  refine ⟨(Bk.new w 50 [.bool lf, pv, kv]).alloc _, ?_, below_new (below_new (Below.refl _ _)), by simp⟩
  have := Bk.new (w.alloc (.cells #[.bool lf, pv, kv] 50)) 50 [.bool false, .slice none 0 0, .slice none 0 0]
  simpa using this
/-- The answer is stored. -/
theorem DrI.done {w wr : World} {lf lf' : Bool} {pv kv pv' kv' : Value} {S : Nat → Prop} {t : T} (h : DrI w wr lf pv kv) (hs : Sub wr (fun y => S y ∨ w.heap.size + 2 ≤ y) lf' pv' kv' t) (hS : ∀ y, S y → y < w.heap.size) :
    Sub (((wr.setCell ⟨w.heap.size + 1, 0, none⟩ (.bool lf')).setCell ⟨w.heap.size + 1, 1, none⟩ pv').setCell ⟨w.heap.size + 1, 2, none⟩ kv') (fun y => S y ∨ w.heap.size ≤ y) lf' pv' kv' t ∧ Below w.heap.size w (((wr.setCell ⟨w.heap.size + 1, 0, none⟩ (.bool lf')).setCell ⟨w.heap.size + 1, 1, none⟩ pv').setCell ⟨w.heap.size + 1, 2, none⟩ kv') ∧
      Bk (((wr.setCell ⟨w.heap.size + 1, 0, none⟩ (.bool lf')).setCell ⟨w.heap.size + 1, 1, none⟩ pv').setCell ⟨w.heap.size + 1, 2, none⟩ kv') (w.heap.size + 1) 50 [.bool lf', pv', kv'] := by
  have hon : Only (fun y => y = w.heap.size + 1) wr (((wr.setCell ⟨w.heap.size + 1, 0, none⟩ (.bool lf')).setCell ⟨w.heap.size + 1, 1, none⟩ pv').setCell ⟨w.heap.size + 1, 2, none⟩ kv') := ((only_set (R := fun y => y = w.heap.size + 1) rfl _).trans (only_set (R := fun y => y = w.heap.size + 1) rfl _)).trans (only_set (R := fun y => y = w.heap.size + 1) rfl _)
  refine ⟨(hs.to hon (fun y hy _ e => ?_)).mono (fun y hy _ => hy.imp id (fun h => by omega)), h.b.trans (hon.below h.b.size (fun b hb e => by omega)), ((h.r.set 0 _).set 1 _).set 2 _⟩
  rcases hy with hy | hy
  · have := hS y hy; omega
  · omega
theorem row_setB {w : World} {base : Nat} {E : TypeId} {s g n c m : Nat} {xs : List Value} (h : w.ownsRow base E s (.slice (some ⟨g, 0, none⟩) n c) m xs) (j : Nat) (u : Value) : (w.setCell ⟨g, j, none⟩ u).ownsRow base E s (.slice (some ⟨g, 0, none⟩) n c) m (xs.set j u) := by
  obtain ⟨k1, k2⟩ := h
  rcases k2 with ⟨k2, _⟩ | ⟨g', cap, cur, e, k3, k4, k5, k6, k7, k8⟩
  · cases k2
  · cases e
    refine ⟨by simpa using k1, .inr ⟨g, c, cur.setIfInBounds j u, rfl, k3, ?_, k5, k6, by simpa using k7, ?_⟩⟩
    · simp [World.setCell, Array.getElem?_modify, k4]
    · rw [← k8]
      simp only [Array.toList_setIfInBounds, List.take_set]
theorem mkV_set (L : Nat → Bool) (P K : Nat → Value) (n q : Nat) (l : Bool) (p k : Value) : (mkV L P K n).set q (.bool l, p, k) = mkV (fun i => if i = q then l else L i) (fun i => if i = q then p else P i) (fun i => if i = q then k else K i) n := by
  apply List.ext_getElem
  · simp [mkV]
  · intro i h1 h2
    rw [List.getElem_set]
    by_cases e : q = i
    · subst e; simp [mkV]
    · rw [if_neg e]; simp [mkV, Ne.symm e]
/-- One sub of the row is stored anew. -/
theorem SO.set {w : World} {base g n c q : Nat} {S S' : Nat → Prop} {ts : List T} {lf : Bool} {pv kv : Value} {t : T} (h : SO w base S (.slice (some ⟨g, 0, none⟩) n c) ts) (hq : q < ts.length) (hs : Sub w S' lf pv kv t) (hg : ∀ y, S' y → y ≠ g) :
    SO (((w.setCell ⟨g, q * 3, none⟩ (.bool lf)).setCell ⟨g, q * 3 + 1, none⟩ pv).setCell ⟨g, q * 3 + 2, none⟩ kv) base (fun y => S y ∨ S' y) (.slice (some ⟨g, 0, none⟩) n c) (ts.set q t) := by
  obtain ⟨L, P, K, h1, h2, h3⟩ := h
  have hon : Only (fun y => y = g) w (((w.setCell ⟨g, q * 3, none⟩ (.bool lf)).setCell ⟨g, q * 3 + 1, none⟩ pv).setCell ⟨g, q * 3 + 2, none⟩ kv) := ((only_set (R := fun y => y = g) rfl _).trans (only_set (R := fun y => y = g) rfl _)).trans (only_set (R := fun y => y = g) rfl _)
  have hS : ∀ y, S y → y ≠ g := fun y hy e => h3 y hy (by rw [e]; rfl)
  refine ⟨fun i => if i = q then lf else L i, fun i => if i = q then pv else P i, fun i => if i = q then kv else K i, ?_, fun i hi => ?_, fun y hy e => ?_⟩
  · rw [List.length_set, ← mkV_set, ncs_set _ _ _ (by rw [mkV_length]; exact hq)]
    exact row_setB (row_setB (row_setB h1 _ _) _ _) _ _
  · rw [List.length_set] at hi
    by_cases e : i = q
    · subst e
      simp only [if_true]
      rw [show tAt (ts.set i t) i = t by simp [tAt, hi]]
      exact (hs.to hon (fun y hy _ => hg y hy)).mono (fun y hy _ => .inr hy)
    · simp only [e, if_false]
      rw [show tAt (ts.set q t) i = tAt ts i by simp [tAt, Ne.symm e]]
      exact ((h2 i hi).to hon (fun y hy _ => hS y hy)).mono (fun y hy _ => .inl hy)
  · have e' : g = y := by simpa [Value.ownBlock] using e
    rcases hy with hy | hy
    · exact hS y hy e'.symm
    · exact hg y hy e'.symm
/-- What is read of a row of subs. -/
theorem SO.at {w : World} {base : Nat} {S : Nat → Prop} {a : Option Addr} {n c : Nat} {ts : List T} (h : SO w base S (.slice a n c) ts) (hp : 0 < ts.length) : ∃ g, a = some ⟨g, 0, none⟩ ∧ (∀ o, w.frozen? ⟨g, o, none⟩ = false) ∧ ∀ i, i < ts.length → ∃ l ap np cp ak nk ck,
    w.cell? ⟨g, i * 3, none⟩ = some (.bool l) ∧ w.cell? ⟨g, i * 3 + 1, none⟩ = some (.slice ap np cp) ∧ w.cell? ⟨g, i * 3 + 2, none⟩ = some (.slice ak nk ck) ∧ Sub w S l (.slice ap np cp) (.slice ak nk ck) (tAt ts i) := by
  obtain ⟨L, P, K, h1, h2, h3⟩ := h
  rcases h1.2 with ⟨_, h0⟩ | ⟨g, cap, cur, e, _, k4, _⟩
  · omega
  cases e
  refine ⟨g, rfl, fun o => by simp [World.frozen?, k4], fun i hi => ?_⟩
  have hc := World.ownsRow.cells h1 (g := g) rfl
  obtain ⟨c0, c1, c2⟩ := ncs_at (mkV L P K ts.length) i (by rw [mkV_length]; exact hi)
  rw [mkV_at _ _ _ _ _ hi] at c0 c1 c2
  have d0 := hc _ _ c0
  have d1 := hc _ _ c1
  have d2 := hc _ _ c2
  rw [Addr.add_lit, Nat.zero_add] at d0 d1 d2
  have hs := h2 i hi
  obtain ⟨ap, np, cp, ak, nk, ck, e1, e2, _⟩ := hs.shape
  simp only at d1 d2
  rw [e1] at d1 hs
  rw [e2] at d2 hs
  exact ⟨L i, ap, np, cp, ak, nk, ck, d0, d1, d2, hs⟩
theorem ev_leaf {h : Nat} {a b : T} (ha : Ev h a) (hb : Ev h b) : a.ks = [] ↔ b.ks = [] := by
  obtain ⟨pa, ka⟩ := a
  obtain ⟨pb, kb⟩ := b
  cases h with
  | zero => exact ha.elim
  | succ h =>
    rcases ha with ⟨rfl, rfl⟩ | ⟨h1, h2⟩
    · rcases hb with ⟨rfl, _⟩ | ⟨h3, h4⟩
      · exact ⟨fun _ => rfl, fun _ => rfl⟩
      · obtain ⟨x, hx⟩ := List.exists_mem_of_ne_nil kb h3
        exact (h4 x hx).elim
    · rcases hb with ⟨rfl, rfl⟩ | ⟨h3, h4⟩
      · obtain ⟨x, hx⟩ := List.exists_mem_of_ne_nil ka h1
        exact (h2 x hx).elim
      · exact ⟨fun e => absurd e h1, fun e => absurd e h3⟩
theorem delS_cons (x : PB) (l : List PB) (k : ByteArray) : delS (x :: l) k = (if x.1 = k then [] else [x]) ++ delS l k := by
  unfold delS
  rw [List.filter_cons]
  by_cases e : x.1 = k <;> simp [e]
set_option maxHeartbeats 2000000 in
set_option maxRecDepth 20000 in
theorem specDrop_leaf (S : Nat → Prop) (ap ak : Option Addr) (np cp ck : Nat) (t : T) (k : ByteArray) (w : World) (h : Sub w S true (.slice ap np cp) (.slice ak 0 ck) t) (hs : t.ps.length ≤ 4) :
    Calls Tryz.prog 46 #[.agg #[.bool true, .slice ap np cp, .slice ak 0 ck], .string k] w fun e w' => DropPost w S (.mk (delS t.ps k) []) e w' := by
  obtain ⟨_, _, _, _, _, _, e1, e2, HNP, HNK, b1, b2, -, hP⟩ := h.shape
  cases e1
  cases e2
  have hnp : np ≤ 4 := by rw [HNP.out]; exact hs
  have HP := hid hP
  have HI0 := hid (dri_start w true (.slice ap np cp) (.slice ak 0 ck))
  have c0 := HI0.out.s.cell (j := 0) rfl
  have HIb := hid (HI0.out.keep (below_new (o := .cells #[] 64) (Below.refl _ _)))
  have c1 := HIb.out.s.cell (j := 1) rfl
  have HO0 : Hid (Ow (((w.alloc (.cells #[.bool true, .slice ap np cp, .slice ak 0 ck] 50)).alloc (.cells #[.bool false, .slice none 0 0, .slice none 0 0] 50)).alloc (.cells #[] 64)) (w.heap.size + 2) (.slice (some ⟨w.heap.size + 2, 0, none⟩) 0 0) []) := by
    have := ow_new ((w.alloc (.cells #[.bool true, .slice ap np cp, .slice ak 0 ck] 50)).alloc (.cells #[.bool false, .slice none 0 0, .slice none 0 0] 50)) (w.heap.size + 2) (by simp)
    show Ow _ _ _ _
    simpa using this
  clear h hs b1 b2 hP
  go_enter Tryz.func46, Tryz.ntmps46
  go_wp2_with fail
  go_loopw [5, 17] (fun x z wr => ∃ (i : Nat) (a : Option Addr) (n c : Nat) (l : List PB), i ≤ np ∧ x = .slice a n c ∧ z = .int .i64 (i : Int) ∧ Hid (DrI w wr true (.slice ap np cp) (.slice ak 0 ck)) ∧ Hid (Ow wr (w.heap.size + 2) (.slice a n c) l) ∧ Hid (l ++ delS (t.ps.drop i) k = delS t.ps k) ∧ Hid (l.length ≤ i)) (fun _ z _ => np - (intOf z).toNat)
  case atStart => exact ⟨0, _, _, _, [], Nat.zero_le _, rfl, rfl, HIb.out, by have := HO0.out; show Ow _ _ _ _; simpa using this, rfl, Nat.zero_le _⟩
  case round =>
    obtain ⟨i, a, n, c, l, hi, rfl, rfl, HI, HO, HE, HLL⟩ := hrel
    by_cases hlt : i < np
    · have hlt' : (i : Int) < (np : Int) := by omega
      have hi0 : (0 : Int) ≤ (i : Int) := by omega
      obtain ⟨g, off, hap, _, _, hc⟩ := (HP.out.below HI.out.b).at (by omega)
      subst hap
      obtain ⟨x0, x1⟩ := hc i hlt
      have HD : Hid (t.ps.drop i = pAtB t.ps i :: t.ps.drop (i + 1)) := drop_pAtB (by rw [← HNP.out]; exact hlt)
      rw [HD.out, delS_cons] at HE
      clear hc
      generalize pAtB t.ps i = xx at *
      obtain ⟨y0, y1⟩ := xx
      simp only at x0 x1 HE
      have hbx := below_new (o := .cells #[.string y0, .string y1] 64) (w := wr) (Below.refl _ _)
      have HIX := hid (HI.out.keep hbx)
      have HOX := hid (HO.out.kept hbx)
      have KX := hid (Bk.new wr 64 [.string y0, .string y1])
      have k0 := KX.out.cell (j := 0) rfl
      have k1 := KX.out.cell (j := 1) rfl
      clear hbx
      by_cases e : y0 = k
      · have HEQ : Hid (l ++ delS (t.ps.drop (i + 1)) k = delS t.ps k) := by have := HE.out; show _ = _; simpa [e] using this
        subst e
        clear HE
        go_wp2
        go_roundw
        case rel => exact ⟨i + 1, a, n, c, l, by omega, rfl, by go_num, HIX.out, HOX.out, HEQ.out, by have := HLL.out; show _ ≤ _; omega⟩
        case measure => simp [intOf]; omega
      · have HEQ : Hid ((l ++ [(y0, y1)]) ++ delS (t.ps.drop (i + 1)) k = delS t.ps k) := by have := HE.out; show _ = _; simpa [e] using this
        have hne : (y0.toList == k.toList) = false := by
          rw [beq_eq_false_iff_ne]; exact fun h => e (str_ext h)
        have hby := below_new (o := .cells #[.string y0, .string y1] 64) (w := wr.alloc (.cells #[.string y0, .string y1] 64)) (Below.refl _ _)
        have HIY := hid (HIX.out.keep hby)
        have HOY := hid (HOX.out.kept hby)
        have HPa : Hid (Pr ((wr.alloc (.cells #[.string y0, .string y1] 64)).alloc (.cells #[.string y0, .string y1] 64)) (fun _ => True) (.slice (some ⟨wr.heap.size + 1, 0, none⟩) 1 1) [(y0, y1)]) := by
          have := (Bk.new (wr.alloc (.cells #[.string y0, .string y1] 64)) 64 [.string y0, .string y1]).pr (n := 1) (ps := [(y0, y1)]) rfl (by omega) (fun _ => True) trivial
          have hz : (wr.alloc (.cells #[.string y0, .string y1] 64)).heap.size = wr.heap.size + 1 := by simp
          rw [hz] at this
          exact this
        clear HE hby
        go_wp2_with (at_builtin; refine wpList_append_pairs rfl _ _ rfl (w.heap.size + 2) _ _ rfl HOY.out (fun _ => True) _ [(y0, y1)] rfl HPa.out ?q1 ?q2 ?_)
        case q1 => have := HLL.out; simp; omega
        case q2 => have h9 := HI.out.z; first | omega | (simp; omega)
        intro v2 w2 hO2 hg2
        obtain ⟨a2, n2, c2, e2, -⟩ := hO2.shape'
        subst e2
        have HI2 := hid (HIY.out.grow hg2 (fun x e => (World.ownsRow.lt HOY.out x e).1))
        have HO2 := hid hO2
        clear hO2 hg2
        go_wp2
        go_roundw
        case rel => exact ⟨i + 1, a2, n2, c2, _, by omega, rfl, by go_num, HI2.out, HO2.out, HEQ.out, by have := HLL.out; show _ ≤ _; simp; omega⟩
        case measure => simp [intOf]; omega
    · have hlt' : ¬ (i : Int) < (np : Int) := by omega
      have HD : Hid (t.ps.drop i = []) := List.drop_eq_nil_of_le (by rw [← HNP.out]; omega)
      rw [HD.out] at HE
      have HEQ : Hid (delS t.ps k = l) := by have := HE.out; show _ = _; simpa [delS] using this.symm
      have r0 := HI.out.r.cell (j := 0) rfl
      have r1 := HI.out.r.cell (j := 1) rfl
      have r2 := HI.out.r.cell (j := 2) rfl
      have rf0 := HI.out.r.free 0
      have rf1 := HI.out.r.free 1
      have rf2 := HI.out.r.free 2
      have HD2 := hid (HI.out.done (S := fun y => S y ∧ y < w.heap.size) (Sub.leafOf (HO.out.pr (fun y _ h1 _ => .inr h1))) (fun y hy => hy.2))
      have z0 := HD2.out.2.2.cell (j := 0) rfl
      have z1 := HD2.out.2.2.cell (j := 1) rfl
      have z2 := HD2.out.2.2.cell (j := 2) rfl
      clear HE HP
      go_wp2
      refine bodyPost_ret (v := .agg #[.bool true, .slice a n c, .slice none 0 0]) ?_ rfl ?_
      · refine results_sub1 rfl _ _ _ rfl ?_ ?_ ?_
        · exact z0
        · exact z1
        · exact z2
      · refine ⟨_, _, _, _, _, _, _, rfl, ?_, HD2.out.2.1⟩
        rw [HEQ.out]
        exact HD2.out.1.mono (fun y hy _ => hy.imp (fun h => h.1) id)
end Go.Proofs.YtkfeefaokghibabGreat
/-
  l03Drop of the specification: it drops as the plain function drops.
-/
namespace Go.Proofs.YtkfeefaokghibabGreat
open Go.RowKit
set_option maxHeartbeats 4000000 in
set_option maxRecDepth 20000 in
theorem specDrop_any : ∀ (f : Nat) (r : Bool) (S : Nat → Prop) (lf : Bool) (ap ak : Option Addr) (np cp nk ck : Nat) (t : T) (k : ByteArray) (w : World), Sub w S lf (.slice ap np cp) (.slice ak nk ck) t → PutIn f r t →
    Calls Tryz.prog 46 #[.agg #[.bool lf, .slice ap np cp, .slice ak nk ck], .string k] w fun e w' => DropPost w S (dropS f t k) e w' := by
  intro f
  induction f with
  | zero => intro r S lf ap ak np cp nk ck t k w _ g; exact g.ev.elim
  | succ f ih =>
  intro r S lf ap ak np cp nk ck t k w h g
  obtain ⟨_, _, _, _, _, _, e1, e2, HNP, HNK, b1, b2, hlf, -⟩ := h.shape
  cases e1
  cases e2
  by_cases hk : t.ks = []
  · have hn : nk = 0 := by rw [HNK.out, hk]; rfl
    have hl : lf = true := by rw [hlf, hn]; rfl
    have HF : dropS (f + 1) t k = .mk (delS t.ps k) [] := by rw [dropS, if_pos hk]
    subst hn hl
    rw [HF]
    exact specDrop_leaf S ap ak np cp ck t k w h (by obtain ⟨ps, ks⟩ := t; cases (show ks = [] from hk); exact g.leaf.2.1)
  · obtain ⟨ps, ks⟩ := t
    simp only [T.ks, T.ps] at hk HNK HNP
    obtain ⟨hp0, hl1, hl2, hf3, he4, ha5⟩ := g.kids hk
    have hn0 : nk ≠ 0 := by rw [HNK.out]; have := List.length_pos_iff.2 hk; omega
    have hl : lf = false := by rw [hlf]; exact decide_eq_false hn0
    subst hl
    obtain ⟨hq, _, _⟩ := kidOf_spec k hk
    have hw := wayOf_eq (k := k) hk hf3 ha5
    have HF : Hid (dropS (f + 1) (.mk ps ks) k = if (dropS f (tAt ks (wayOf ks k)) k).poor = true then .mk [] ((ks.set (wayOf ks k) (dropS f (tAt ks (wayOf ks k)) k)).take (max (wayOf ks k) 1 - 1) ++ togS (tAt (ks.set (wayOf ks k) (dropS f (tAt ks (wayOf ks k)) k)) (max (wayOf ks k) 1 - 1)) (tAt (ks.set (wayOf ks k) (dropS f (tAt ks (wayOf ks k)) k)) (max (wayOf ks k) 1)) ++ (ks.set (wayOf ks k) (dropS f (tAt ks (wayOf ks k)) k)).drop (max (wayOf ks k) 1 + 1)) else .mk [] (ks.set (wayOf ks k) (dropS f (tAt ks (wayOf ks k)) k))) := by
      show _ = _; rw [dropS, if_neg (show ¬ (T.mk ps ks).ks = [] from hk)]; rfl
    have HKG := hid (g.kid hk k)
    rw [← hw] at hq HKG
    have HNR : Hid (Near f (dropS f (tAt ks (wayOf ks k)) k) (delP (tAt ks (wayOf ks k)).all k)) := by
      show Near _ _ _
      rw [dropS_eq f false _ k HKG.out]; exact (dropF_out f false _ k HKG.out).1
    have HKF : Hid (∀ x ∈ ks, x.full false = true) := hf3
    have HKE : Hid (∀ x ∈ ks, Ev f x) := he4
    have H0 : Hid (Sub w (fun y => S y ∧ y < w.heap.size) false (.slice ap np cp) (.slice ak nk ck) (.mk ps ks)) := h.mono (fun y hy hl => ⟨hy, hl⟩)
    have hnk : nk ≤ 4 := by rw [HNK.out]; exact hl2
    have hnk2 : 2 ≤ nk := by rw [HNK.out]; exact hl1
    have HWY := hid (fun (w' : World) (h' : Sub w' (fun y => S y ∧ y < w.heap.size) false (.slice ap np cp) (.slice ak nk ck) (.mk ps ks)) => specWay_any _ false ap ak np cp nk ck (.mk ps ks) k w' h' (by simp only [T.ks]; omega))
    simp only [T.ks] at HWY
    have IH := hid ih
    have hqn : wayOf ks k < nk := by rw [HNK.out]; exact hq
    have HQ := hid hq
    generalize hqq : wayOf ks k = q at *
    clear hqq hw h g ih hlf b1 b2 hp0 hl1 hl2 hf3 he4 ha5 hq
    have HI0 := hid (dri_start w false (.slice ap np cp) (.slice ak nk ck))
    have s0 := HI0.out.s.cell (j := 0) rfl
    have s1 := HI0.out.s.cell (j := 1) rfl
    have s2 := HI0.out.s.cell (j := 2) rfl
    go_enter Tryz.func46, Tryz.ntmps46
    go_wp2_with fail
    refine (HWY.out _ (H0.out.kept HI0.out.b)).mono ?_
    generalize (w.alloc (.cells #[.bool false, .slice ap np cp, .slice ak nk ck] 50)).alloc (.cells #[.bool false, .slice none 0 0, .slice none 0 0] 50) = U at *
    rintro e w1 ⟨rfl, hb⟩
    have HI1 := hid (HI0.out.keep hb)
    have HI2 := hid (HI1.out.keep (below_new (o := .cells #[] 50) (w := w1) (Below.refl _ _)))
    have HSN := hid (so_new w1 (w.heap.size + 2) HI1.out.z)
    clear hb s0 s1 s2 HWY HI0
    have HS2 := hid ((H0.out.kept HI2.out.b).row)
    simp only [T.ks] at HS2
    have u2 := HI2.out.s.cell (j := 2) rfl
    go_wp2_with (at_builtin; refine wpList_append_subs rfl _ _ rfl (w.heap.size + 2) _ (fun y => S y ∧ y < w.heap.size) (.slice (some ⟨w1.heap.size, 0, none⟩) 0 0) _ [] ks rfl HSN.out rfl HS2.out ?q0 ?q1 ?q2 ?_)
    case q0 => intro y hy e; have e' : w1.heap.size = y := (by simpa [Value.ownBlock] using e)
               have := HI1.out.z; have := hy.2; omega
    case q1 => have := HNK.out; simp; omega
    case q2 => have := HI1.out.z; first | omega | (simp; omega)
    intro v3 w3 hO3 hg3 ha3
    obtain ⟨a3, n3, c3, e3, hn3⟩ := hO3.shape
    subst e3
    have hlo3 := hO3.lo
    have HI3 := hid (HI2.out.grow hg3 (fun x e => by have e' : w1.heap.size = x := (by simpa [Value.ownBlock] using e); have := HI1.out.z; omega))
    have HS3 : Hid (SO w3 (w.heap.size + 2) (fun y => S y ∧ y < w.heap.size) (.slice a3 n3 c3) ks) := hO3.mono (fun y hy _ => hy.1) (fun y hy e => by have := (hlo3 y e).1; have := hy.2; omega)
    have HN3 : Hid (n3 = nk) := by have := hn3.out; have := HNK.out; show _ = _; simp at *; omega
    clear hO3 hg3 ha3 HSN HS2 HI2 u2 hlo3 hn3 HI1
    obtain ⟨gk, hak, hfr, hat⟩ := HS3.out.at (by rw [← HNK.out]; omega)
    subst hak
    obtain ⟨l9, ap9, np9, cp9, ak9, nk9, ck9, x0, x1, x2, hs9⟩ := hat q HQ.out
    have HS9 := hid hs9
    have hgk := HS3.out.lo gk rfl
    have HGK := hid hgk
    have hq2 : (0 : Int) ≤ (q : Int) := by omega
    have hq4 : (q : Int) < (n3 : Int) := by have := HN3.out; omega
    clear hat hs9 hgk hfr
    go_wp2_with fail
    refine (IH.out false _ l9 ap9 ak9 np9 cp9 nk9 ck9 (tAt ks q) k w3 HS9.out HKG.out).mono ?_
    rintro e w4 ⟨lz, apz, npz, cpz, akz, nkz, ckz, rfl, hsz, hbz⟩
    have HI4 := hid (HI3.out.keep hbz)
    have HS4 := hid (HS3.out.kept hbz)
    have HZ34 := hid hbz.size
    have hsz2 : Sub w4 (fun y => (S y ∧ y < w.heap.size) ∨ (w3.heap.size ≤ y ∧ y < w4.heap.size)) lz (.slice apz npz cpz) (.slice akz nkz ckz) (dropS f (tAt ks q) k) := hsz.mono (fun y hy hl => hy.imp id (fun h => ⟨h, hl⟩))
    have HS5 := hid (HS4.out.set HQ.out hsz2 (fun y hy e => by
      have := HGK.out
      rcases hy with hy | hy
      · have := hy.2; omega
      · omega))
    obtain ⟨_, e5, hfr4, hat4⟩ := HS4.out.at (by rw [← HNK.out]; omega)
    cases e5
    obtain ⟨m9, _, _, _, _, _, _, y0, y1, y2, -⟩ := hat4 q HQ.out
    have yf0 := hfr4 (q * 3)
    have yf1 := hfr4 (q * 3 + 1)
    have yf2 := hfr4 (q * 3 + 2)
    generalize hrr : dropS f (tAt ks q) k = rr at *
    have HRR := hid hrr
    have HI5 : Hid (DrI w (((w4.setCell ⟨gk, q * 3, none⟩ (.bool lz)).setCell ⟨gk, q * 3 + 1, none⟩ (.slice apz npz cpz)).setCell ⟨gk, q * 3 + 2, none⟩ (.slice akz nkz ckz)) false (.slice ap np cp) (.slice ak nk ck)) := HI4.out.only (((only_set (R := fun y => y = gk) rfl _).trans (only_set (R := fun y => y = gk) rfl _)).trans (only_set (R := fun y => y = gk) rfl _)) (fun x e => by have := HGK.out; omega)
    have HLN : Hid ((ks.set q rr).length = nk) := by show _ = _; rw [List.length_set]; exact HNK.out.symm
    obtain ⟨_, e5, hfr5, hat5⟩ := HS5.out.at (by rw [HLN.out]; omega)
    cases e5
    obtain ⟨l5, ap5, np5, cp5, ak5, nk5, ck5, t0, t1, t2, hs5⟩ := hat5 q (by rw [HLN.out]; exact hqn)
    rw [show tAt (ks.set q rr) q = rr by simp [tAt, HQ.out]] at hs5
    have HFW := hid (specFew_any _ l5 ap5 ak5 np5 cp5 nk5 ck5 rr _ hs5 (fun h => (HNR.out.br h).1))
    have HW5 : Hid (w4.heap.size = (((w4.setCell ⟨gk, q * 3, none⟩ (.bool lz)).setCell ⟨gk, q * 3 + 1, none⟩ (.slice apz npz cpz)).setCell ⟨gk, q * 3 + 2, none⟩ (.slice akz nkz ckz)).heap.size) := by show _ = _; simp [World.setCell]
    clear hsz hbz hsz2 hat4 hfr4 hat5 hfr5 hs5 hrr
    go_wp2_with fail
    refine HFW.out.mono ?_
    generalize hX : (((w4.setCell ⟨gk, q * 3, none⟩ (.bool lz)).setCell ⟨gk, q * 3 + 1, none⟩ (.slice apz npz cpz)).setCell ⟨gk, q * 3 + 2, none⟩ (.slice akz nkz ckz)) = X at *
    clear hX y0 y1 y2 yf0 yf1 yf2 x0 x1 x2
    rintro e w6 ⟨rfl, hb⟩
    have HI6 := hid (HI5.out.keep hb)
    have HS6 := hid (HS5.out.kept hb)
    have HZ6 := hid hb.size
    clear hb t0 t1 t2 HFW HS5 HI5 HS4 HI4 HS3 HI3 HS9
    have hn32 : ¬ (n3 : Int) < 2 := by have := HN3.out; omega
    cases hpo : rr.poor with
    | false =>
      have HF2 : Hid (dropS (f + 1) (.mk ps ks) k = .mk [] (ks.set q rr)) := by show _ = _; rw [HF.out, if_neg (by rw [hpo]; simp)]
      have r0 := HI6.out.r.cell (j := 0) rfl
      have r1 := HI6.out.r.cell (j := 1) rfl
      have r2 := HI6.out.r.cell (j := 2) rfl
      have rf0 := HI6.out.r.free 0
      have rf1 := HI6.out.r.free 1
      have rf2 := HI6.out.r.free 2
      have hsr : SubR w6 (fun y => (S y ∧ y < w.heap.size) ∨ w.heap.size + 2 ≤ y) (.slice (some ⟨gk, 0, none⟩) n3 c3) (ks.set q rr) := HS6.out.subR (fun y _ h1 _ => .inr h1) (fun y hy _ => by
        rcases hy with h | h | h
        · exact .inl h
        · exact .inl h
        · right; have := HGK.out; omega)
      have HD2 := hid (HI6.out.done (S := fun y => S y ∧ y < w.heap.size) (hsr.sub (by intro e; have := HLN.out; rw [e] at this; simp at this; omega)) (fun y hy => hy.2))
      have z0 := HD2.out.2.2.cell (j := 0) rfl
      have z1 := HD2.out.2.2.cell (j := 1) rfl
      have z2 := HD2.out.2.2.cell (j := 2) rfl
      clear hpo hsr
      go_wp2
      refine bodyPost_ret (v := .agg #[.bool false, .slice none 0 0, .slice (some ⟨gk, 0, none⟩) n3 c3]) ?_ rfl ?_
      · refine results_sub1 rfl _ _ _ rfl ?_ ?_ ?_
        · exact z0
        · exact z1
        · exact z2
      · refine ⟨_, _, _, _, _, _, _, rfl, ?_, HD2.out.2.1⟩
        rw [HF2.out]
        exact HD2.out.1.mono (fun y hy _ => hy.imp (fun h => h.1) id)
    | true =>
      obtain ⟨s, hs⟩ : ∃ s, max q 1 = s + 1 := ⟨max q 1 - 1, by omega⟩
      have HF2 : Hid (dropS (f + 1) (.mk ps ks) k = .mk [] ((ks.set q rr).take s ++ togS (tAt (ks.set q rr) s) (tAt (ks.set q rr) (s + 1)) ++ (ks.set q rr).drop (s + 1 + 1))) := by show _ = _; rw [HF.out, if_pos hpo, hs, Nat.add_sub_cancel]
      have hsn : s + 1 < nk := by omega
      have HKS : Hid (SO w6 (w.heap.size + 2) (fun y => (S y ∧ y < w.heap.size) ∨ (w3.heap.size ≤ y ∧ y < w4.heap.size)) (.slice (some ⟨gk, 0, none⟩) n3 c3) (ks.set q rr)) := HS6.out.mono (fun y hy _ => by
        rcases hy with h | h | h
        · exact .inl h
        · exact .inl h
        · exact .inr h) (fun y hy e => by
        have e' : gk = y := by simpa [Value.ownBlock] using e
        have := HGK.out
        rcases hy with h | h
        · have := h.2; omega
        · omega)
      have HSM : Hid (∀ i, i < nk → Ev f (tAt (ks.set q rr) i) ∧ (tAt (ks.set q rr) i).ps.length ≤ 4 ∧ (tAt (ks.set q rr) i).ks.length ≤ 4) := by
        intro i hi
        by_cases e : i = q
        · subst e
          rw [show tAt (ks.set i rr) i = rr by simp [tAt, HQ.out]]
          refine ⟨HNR.out.ev, ?_, ?_⟩
          · by_cases h : rr.ks = []
            · exact HNR.out.leaf h
            · rw [(HNR.out.br h).1]; simp
          · by_cases h : rr.ks = []
            · rw [h]; simp
            · exact (HNR.out.br h).2.1
        · rw [show tAt (ks.set q rr) i = tAt ks i by simp [tAt, Ne.symm e]]
          have hm : tAt ks i ∈ ks := tAt_mem (by rw [← HNK.out]; exact hi)
          exact ⟨HKE.out _ hm, full_small (HKF.out _ hm)⟩
      have HNE : Hid ((ks.set q rr).take s ++ togS (tAt (ks.set q rr) s) (tAt (ks.set q rr) (s + 1)) ++ (ks.set q rr).drop (s + 1 + 1) ≠ []) := by
        intro e
        have h1 := List.append_eq_nil_iff.1 e
        have h2 := List.append_eq_nil_iff.1 h1.1
        have h3 : splT (.mk ((tAt (ks.set q rr) s).ps ++ (tAt (ks.set q rr) (s + 1)).ps) ((tAt (ks.set q rr) s).ks ++ (tAt (ks.set q rr) (s + 1)).ks)) = [] := h2.2
        unfold splT at h3
        split at h3
        · cases h3
        · split at h3 <;> cases h3
      have HTL : Hid ((togS (tAt (ks.set q rr) s) (tAt (ks.set q rr) (s + 1))).length ≤ 2) := by
        show (splT _).length ≤ 2
        unfold splT
        split
        · simp
        · split <;> simp
      have HTP : Hid (0 < (togS (tAt (ks.set q rr) s) (tAt (ks.set q rr) (s + 1))).length) := by
        show 0 < (splT _).length
        unfold splT
        split
        · simp
        · split <;> simp
      have HQ0 : Hid (q = 0 ∧ s = 0 ∨ q = s + 1) := by show _ ∨ _; omega
      have HSN : Hid (s + 1 < nk) := hsn
      have HPO := hid hpo
      generalize hkz : ks.set q rr = kz at *
      clear hkz HNR HKF HKE HF HRR HS6 hs hsn
      have hn4 : n3 ≤ 4 := by have := HN3.out; omega
      rcases HQ0.out with ⟨hq0', hs0'⟩ | hqs
      · have hqz : (q : Int) = 0 := by omega
        subst hs0'
        simp only [Nat.zero_add, List.take_zero, List.nil_append] at HTL HF2 HNE HSN HTP
        have HI7 := hid (HI6.out.keep (below_new (o := .cells #[] 50) (w := w6) (Below.refl _ _)))
        have HK7 := hid (HKS.out.kept (below_new (o := .cells #[] 50) (w := w6) (Below.refl _ _)))
        have HS7 := hid (so_new w6 w6.heap.size (Nat.le_refl _))
        have HGZ : Hid (gk < w6.heap.size ∧ w4.heap.size ≤ w6.heap.size ∧ w.heap.size + 2 ≤ w6.heap.size) := ⟨(HKS.out.lo gk rfl).2, by have h1 := HZ6.out; have h2 := HW5.out; omega, HI6.out.z⟩
        have HR7 : Hid (SubR (w6.alloc (.cells #[] 50)) (fun y => y < w6.heap.size ∧ ((S y ∧ y < w.heap.size) ∨ w.heap.size + 2 ≤ y)) (.slice (some ⟨gk, 0, none⟩) n3 c3) kz) := HK7.out.subR (fun y e h1 _ => by have e' : gk = y := (by simpa [Value.ownBlock] using e); have := HGZ.out; exact ⟨by omega, .inr h1⟩) (fun y hy _ => by
          have := HGZ.out
          have := HGK.out
          rcases hy with h | h
          · exact ⟨by have := h.2; omega, .inl h⟩
          · exact ⟨by omega, .inr (by omega)⟩)
        have hn1 : 0 + 1 < n3 := by have := HN3.out; have := HSN.out; omega
        have hc3 : n3 ≤ c3 ∧ c3 ≤ 9223372036854775807 := by obtain ⟨L, P, K, h1, _⟩ := HKS.out; exact (row_cap h1).2
        obtain ⟨hc31, hc32⟩ := hc3
        have hzn : 0 < n3 := by omega
        have hzn1 : 1 < n3 := by omega
        have hz1 : (0 : Int) ≤ (c3 : Int) := by omega
        have hz2 : (1 : Int) < (n3 : Int) := by omega
        have hz3 : (0 : Int) < (n3 : Int) := by omega
        have hwr : IntKind.i64.wrap (0 : Int) = 0 := by rw [IntKind.wrap_i64]; omega
        go_wp2_with (at_builtin; refine wpList_append_subs rfl _ _ rfl w6.heap.size _ (fun y => y < w6.heap.size ∧ ((S y ∧ y < w.heap.size) ∨ w.heap.size + 2 ≤ y)) (.slice (some ⟨w6.heap.size, 0, none⟩) 0 0) _ [] (kz.take (0)) rfl HS7.out rfl (HR7.out.take (by omega)) ?q0 ?q1 ?q2 ?_)
        case q0 => intro y hy e; have e' : w6.heap.size = y := (by simpa [Value.ownBlock] using e)
                   have := hy.1; omega
        case q1 => first | (rw [List.length_take]; simp; omega) | simp
        case q2 => first | omega | simp
        intro v8 w8 hO8 hg8 ha8
        obtain ⟨a8, n8, c8, e8, -⟩ := hO8.shape
        subst e8
        have hlo8 := hO8.lo
        have HI8 := hid (HI7.out.grow hg8 (fun x e => by have e' : w6.heap.size = x := (by simpa [Value.ownBlock] using e); have := HGZ.out; omega))
        have hon8 : Only (fun y => y = w6.heap.size) (w6.alloc (.cells #[] 50)) w8 := only_of_grown hg8 (fun x e => by have e' : w6.heap.size = x := (by simpa [Value.ownBlock] using e); omega)
        have HK8 := hid (HK7.out.to hon8 (fun y e h => by have e' : gk = y := (by simpa [Value.ownBlock] using e); have := HGZ.out; omega) (fun y hy _ h => by have := HGZ.out; rcases hy with h2 | h2 <;> omega))
        have HS8 : Hid (SO w8 w6.heap.size (fun y => y < w6.heap.size ∧ ((S y ∧ y < w.heap.size) ∨ w.heap.size + 2 ≤ y)) (.slice a8 n8 c8) (kz.take (0))) := by
          refine SO.mono (S := fun y => y < w6.heap.size ∧ ((S y ∧ y < w.heap.size) ∨ w.heap.size + 2 ≤ y)) ?_ (fun y hy _ => hy) (fun y hy e => by have := (hlo8 y e).1; have := hy.1; omega)
          have h9 := hO8.mono (R := fun y => y < w6.heap.size ∧ ((S y ∧ y < w.heap.size) ∨ w.heap.size + 2 ≤ y)) (fun y hy _ => by first | exact hy.1 | exact hy.1.resolve_left id) (fun y hy e => by have := (hlo8 y e).1; have := hy.1; omega)
          simpa using h9
        have HZ68 : Hid (w6.heap.size ≤ w8.heap.size) := by have := hon8.size; simp at this; show _ ≤ _; omega
        clear hO8 hg8 ha8 HI7 HK7 HS7 HR7 hlo8 hon8
        obtain ⟨_, eK, _, hatK⟩ := HK8.out.at (by rw [HLN.out]; omega)
        cases eK
        obtain ⟨la, apa, npa, cpa, aka, nka, cka, i0, i1, i2, hsa⟩ := hatK (0) (by rw [HLN.out]; have := HSN.out; omega)
        obtain ⟨lb, apb, npb, cpb, akb, nkb, ckb, j0, j1, j2, hsb⟩ := hatK (1) (by rw [HLN.out]; exact HSN.out)
        try simp only [Nat.zero_mul, Nat.one_mul, Nat.zero_add] at i0 i1 i2 j0 j1 j2
        have HTG := hid (specTogether_any _ la lb apa aka apb akb npa cpa nka cka npb cpb nkb ckb _ _ w8.drew (hsa.kept (below_drew _)) (hsb.kept (below_drew _)) (ev_leaf (HSM.out (0) (by have := HSN.out; omega)).1 (HSM.out (1) HSN.out).1) (by have h1 := (HSM.out (0) (by have := HSN.out; omega)).2.1; have h2 := (HSM.out (1) HSN.out).2.1; omega) (by have h1 := (HSM.out (0) (by have := HSN.out; omega)).2.2; have h2 := (HSM.out (1) HSN.out).2.2; omega))
        have HAP : Hid (∀ y, ((S y ∧ y < w.heap.size) ∨ (w3.heap.size ≤ y ∧ y < w4.heap.size)) ∨ w8.drew.heap.size ≤ y → (Value.slice a8 n8 c8).ownBlock ≠ some y) := by
          intro y hy e
          have h1 := HS8.out.lo y e
          have h2 := HGZ.out
          rcases hy with (h | h) | h
          · have := h.2; omega
          · omega
          · have h3 : w8.heap.size ≤ y := h
            omega
        have HTL2 : Hid ((kz.take (0)).length + (togS (tAt kz (0)) (tAt kz (1))).length ≤ 1048576) := by have := HTL.out; rw [List.length_take]; show _ ≤ _; omega
        have HST : Hid (∀ (w9 : World), Below w8.drew.heap.size w8.drew w9 → SO w9 w6.heap.size (fun y => y < w6.heap.size ∧ ((S y ∧ y < w.heap.size) ∨ w.heap.size + 2 ≤ y)) (.slice a8 n8 c8) (kz.take (0)) ∧ w6.heap.size ≤ w9.heap.size) := by
          intro w9 hb
          refine ⟨HS8.out.kept (Below.then' (below_drew w8) hb (Nat.le_refl _)), ?_⟩
          have h5 : w8.heap.size ≤ w9.heap.size := hb.size
          have := HZ68.out; omega
        have HFIN : Hid (∀ (w9 wA : World) (aA : Option Addr) (nA cA : Nat) (R : Nat → Prop), Below w8.drew.heap.size w8.drew w9 → SO wA w6.heap.size R (.slice aA nA cA) (kz.take (0) ++ togS (tAt kz (0)) (tAt kz (1))) → (∀ y, R y → ((S y ∧ y < w.heap.size) ∨ w.heap.size + 2 ≤ y)) → w9.grownBy wA (Value.slice a8 n8 c8).ownBlock →
            SO wA w6.heap.size (fun y => ((S y ∧ y < w.heap.size) ∨ (w.heap.size + 2 ≤ y ∧ (Value.slice aA nA cA).ownBlock ≠ some y))) (.slice aA nA cA) (kz.take (0) ++ togS (tAt kz (0)) (tAt kz (1))) ∧ DrI w wA false (.slice ap np cp) (.slice ak nk ck) ∧ SO wA (w.heap.size + 2) (fun y => (S y ∧ y < w.heap.size) ∨ (w3.heap.size ≤ y ∧ y < w4.heap.size)) (.slice (some ⟨gk, 0, none⟩) n3 c3) kz) := by
          intro w9 wA aA nA cA R hb hO hR hg
          have hlo := hO.lo
          have hz := HGZ.out
          have hb2 := Below.then' (below_drew w8) hb (Nat.le_refl _)
          have hon : Only (fun y => w6.heap.size ≤ y) w9 wA := only_of_grown hg (fun x e => (HS8.out.lo x e).1)
          refine ⟨?_, (HI8.out.keep hb2).only hon (fun x h => by omega), (HK8.out.kept hb2).to hon (fun y e h => by have e' : gk = y := (by simpa [Value.ownBlock] using e); omega) (fun y hy _ h => by rcases hy with h2 | h2 <;> omega)⟩
          obtain ⟨L, P, K, h1, h2, h3⟩ := hO
          refine ⟨L, P, K, h1, fun i hi => (h2 i hi).mono (fun y hy hl => ?_), ?_⟩
          · rcases hR y hy with h | h
            · exact .inl h
            · exact .inr ⟨h, h3 y hy⟩
          · rintro y (h | h)
            · intro e; have := (hlo y e).1; have := h.2; omega
            · exact h.2
        have HRR2 : Hid (∀ y, ((y < w6.heap.size ∧ ((S y ∧ y < w.heap.size) ∨ w.heap.size + 2 ≤ y)) ∨ ((S y ∧ y < w.heap.size) ∨ (w3.heap.size ≤ y ∧ y < w4.heap.size)) ∨ w8.drew.heap.size ≤ y) ∧ True → ((S y ∧ y < w.heap.size) ∨ w.heap.size + 2 ≤ y)) := by
          have h1 := HGK.out
          have h2 := HGZ.out
          have h4 := HZ68.out
          rintro y ⟨h | (h | h) | h, -⟩
          · exact h.2
          · exact .inl h
          · right; omega
          · have h3 : w8.heap.size ≤ y := h
            right; omega
        clear hsa hsb hatK
        go_wp2_with fail
        go_cut [10] (fun x v2 => ∃ (aA : Option Addr) (nA cA : Nat), x = .slice aA nA cA ∧ Hid (SO v2 w6.heap.size (fun y => ((S y ∧ y < w.heap.size) ∨ (w.heap.size + 2 ≤ y ∧ (Value.slice aA nA cA).ownBlock ≠ some y))) (.slice aA nA cA) (kz.take (0) ++ togS (tAt kz (0)) (tAt kz (1)))) ∧ Hid (DrI w v2 false (.slice ap np cp) (.slice ak nk ck)) ∧ Hid (SO v2 (w.heap.size + 2) (fun y => (S y ∧ y < w.heap.size) ∨ (w3.heap.size ≤ y ∧ y < w4.heap.size)) (.slice (some ⟨gk, 0, none⟩) n3 c3) kz))
        case first =>
          go_region_law (first
            | (go_simp; go_at_call 72; refine HTG.out.mono ?_; rintro e w9 ⟨v9, rfl, hR9, hb9⟩)
            | (refine step_append_subs rfl _ _ rfl w6.heap.size _ _ (.slice a8 n8 c8) _ (kz.take (0)) (togS (tAt kz (0)) (tAt kz (1))) rfl (HST.out _ hb9).1 rfl hR9 HAP.out HTL2.out (HST.out _ hb9).2 ?_; intro vA wA hOA hgA haA; obtain ⟨aA, nA, cA, eA, -⟩ := hOA.shape; subst eA))
          all_goals (go_wp2_with fail; go_meet)
          all_goals exact ⟨aA, nA, cA, rfl, (HFIN.out _ _ _ _ _ _ hb9 hOA (fun y hy => HRR2.out y ⟨hy.1, trivial⟩) hgA).1, (HFIN.out _ _ _ _ _ _ hb9 hOA (fun y hy => HRR2.out y ⟨hy.1, trivial⟩) hgA).2.1, (HFIN.out _ _ _ _ _ _ hb9 hOA (fun y hy => HRR2.out y ⟨hy.1, trivial⟩) hgA).2.2⟩
        case rest =>
          obtain ⟨aA, nA, cA, rfl, HSA, HIA, HKA⟩ := hcut
          clear HFIN HST HAP HTG i0 i1 i2 j0 j1 j2 HS8 HI8 HK8 HTL2 HRR2
          have HZB : Hid (w6.heap.size ≤ wc.heap.size) := by
            obtain ⟨L, P, K, h1, _⟩ := HSA.out
            have hlen : 0 < (kz.take (0) ++ togS (tAt kz (0)) (tAt kz (1))).length := by
              rw [List.length_append]
              have := HTP.out
              omega
            rcases h1.2 with ⟨_, h0⟩ | ⟨g, _, _, h0, h2, h3, _⟩
            · omega
            · have := (Array.getElem?_eq_some_iff.1 h3).1
              show _ ≤ _; omega
          have HRA : Hid (SubR wc (fun y => y < w6.heap.size ∧ ((S y ∧ y < w.heap.size) ∨ w.heap.size + 2 ≤ y)) (.slice (some ⟨gk, 0, none⟩) n3 c3) kz) := HKA.out.subR (fun y e h1 _ => by have e' : gk = y := (by simpa [Value.ownBlock] using e); have := HGZ.out; exact ⟨by omega, .inr h1⟩) (fun y hy _ => by
            have := HGZ.out
            have := HGK.out
            rcases hy with h | h
            · exact ⟨by have := h.2; omega, .inl h⟩
            · exact ⟨by omega, .inr (by omega)⟩)
          have HAQ : Hid (∀ y, y < w6.heap.size ∧ ((S y ∧ y < w.heap.size) ∨ w.heap.size + 2 ≤ y) → (Value.slice aA nA cA).ownBlock ≠ some y) := fun y hy e => by have := (HSA.out.lo y e).1; have := hy.1; omega
          have HDL : Hid ((kz.take (0) ++ togS (tAt kz (0)) (tAt kz (1))).length + (kz.drop (2)).length ≤ 1048576) := by
            have := HTL.out
            have := HLN.out
            rw [List.length_append, List.length_take, List.length_drop]; show _ ≤ _; omega
          have hzz1 : (2 : Int) ≤ (n3 : Int) := by omega
          have hzz2 : (0 : Int) ≤ (2 : Int) := by omega
          by_cases hcap : ¬ c3 = 2
          · have HDR := hid (HRA.out.drop (m := 2) (by omega))
            rw [Nat.zero_add] at HDR
            go_wp2_with (at_builtin; refine wpList_append_subs rfl _ _ rfl w6.heap.size _ (fun y => y < w6.heap.size ∧ ((S y ∧ y < w.heap.size) ∨ w.heap.size + 2 ≤ y)) (.slice aA nA cA) _ _ (kz.drop (2)) rfl HSA.out rfl HDR.out HAQ.out HDL.out HZB.out ?_)
            intro v6 wD hO6 hg6 ha6
            obtain ⟨a6, n6, c6, e6, -⟩ := hO6.shape
            subst e6
            have hID := HIA.out.grow hg6 (fun x e => by have := (HSA.out.lo x e).1; have := HGZ.out; omega)
            have hSD : Sub wD (fun y => (S y ∧ y < w.heap.size) ∨ w.heap.size + 2 ≤ y) false (.slice none 0 0) (.slice a6 n6 c6) (.mk [] (togS (tAt kz 0) (tAt kz 1) ++ kz.drop 2)) := (hO6.subR (fun y _ h1 _ => .inr (by have := HGZ.out; omega)) (fun y hy _ => by
              rcases hy.1 with (h | h) | h
              · exact .inl h
              · exact .inr h.1
              · exact h.2)).sub HNE.out
            have HD2 := hid (hID.done (S := fun y => S y ∧ y < w.heap.size) hSD (fun y hy => hy.2))
            have r0 := hID.r.cell (j := 0) rfl
            have r1 := hID.r.cell (j := 1) rfl
            have r2 := hID.r.cell (j := 2) rfl
            have rf0 := hID.r.free 0
            have rf1 := hID.r.free 1
            have rf2 := hID.r.free 2
            have z0 := HD2.out.2.2.cell (j := 0) rfl
            have z1 := HD2.out.2.2.cell (j := 1) rfl
            have z2 := HD2.out.2.2.cell (j := 2) rfl
            clear hO6 hg6 ha6 hID hSD HDR
            go_wp2
            refine bodyPost_ret (v := .agg #[.bool false, .slice none 0 0, .slice a6 n6 c6]) ?_ rfl ?_
            · refine results_sub1 rfl _ _ _ rfl ?_ ?_ ?_
              · exact z0
              · exact z1
              · exact z2
            · refine ⟨_, _, _, _, _, _, _, rfl, ?_, HD2.out.2.1⟩
              rw [HF2.out]
              exact HD2.out.1.mono (fun y hy _ => hy.imp (fun h => h.1) id)
          · have hck : c3 = 2 := by omega
            have hnk1 : n3 = 2 := by omega
            have HDR : Hid (SubR wc (fun y => y < w6.heap.size ∧ ((S y ∧ y < w.heap.size) ∨ w.heap.size + 2 ≤ y)) (.slice (some ⟨gk, 0, none⟩) 0 0) (kz.drop (2))) := by
              rw [List.drop_eq_nil_of_le (by rw [HLN.out]; have := HN3.out; omega)]
              exact ⟨fun _ => false, fun _ => .slice none 0 0, fun _ => .slice none 0 0, ⟨_, 0, rfl, Nat.le_refl _, by omega, fun _ => rfl, fun h => (by cases h), fun h => (by simp at h)⟩, fun i hi => (by simp at hi)⟩
            subst hck hnk1
            go_wp2_with (at_builtin; refine wpList_append_subs rfl _ _ rfl w6.heap.size _ (fun y => y < w6.heap.size ∧ ((S y ∧ y < w.heap.size) ∨ w.heap.size + 2 ≤ y)) (.slice aA nA cA) _ _ (kz.drop (2)) rfl HSA.out rfl HDR.out HAQ.out HDL.out HZB.out ?_)
            intro v6 wD hO6 hg6 ha6
            obtain ⟨a6, n6, c6, e6, -⟩ := hO6.shape
            subst e6
            have hID := HIA.out.grow hg6 (fun x e => by have := (HSA.out.lo x e).1; have := HGZ.out; omega)
            have hSD : Sub wD (fun y => (S y ∧ y < w.heap.size) ∨ w.heap.size + 2 ≤ y) false (.slice none 0 0) (.slice a6 n6 c6) (.mk [] (togS (tAt kz 0) (tAt kz 1) ++ kz.drop 2)) := (hO6.subR (fun y _ h1 _ => .inr (by have := HGZ.out; omega)) (fun y hy _ => by
              rcases hy.1 with (h | h) | h
              · exact .inl h
              · exact .inr h.1
              · exact h.2)).sub HNE.out
            have HD2 := hid (hID.done (S := fun y => S y ∧ y < w.heap.size) hSD (fun y hy => hy.2))
            have r0 := hID.r.cell (j := 0) rfl
            have r1 := hID.r.cell (j := 1) rfl
            have r2 := hID.r.cell (j := 2) rfl
            have rf0 := hID.r.free 0
            have rf1 := hID.r.free 1
            have rf2 := hID.r.free 2
            have z0 := HD2.out.2.2.cell (j := 0) rfl
            have z1 := HD2.out.2.2.cell (j := 1) rfl
            have z2 := HD2.out.2.2.cell (j := 2) rfl
            clear hO6 hg6 ha6 hID hSD HDR
            go_wp2
            refine bodyPost_ret (v := .agg #[.bool false, .slice none 0 0, .slice a6 n6 c6]) ?_ rfl ?_
            · refine results_sub1 rfl _ _ _ rfl ?_ ?_ ?_
              · exact z0
              · exact z1
              · exact z2
            · refine ⟨_, _, _, _, _, _, _, rfl, ?_, HD2.out.2.1⟩
              rw [HF2.out]
              exact HD2.out.1.mono (fun y hy _ => hy.imp (fun h => h.1) id)
      · have hqz : ¬ (q : Int) = 0 := by omega
        subst hqs
        simp only [List.append_assoc] at HF2 HNE
        have HI7 := hid (HI6.out.keep (below_new (o := .cells #[] 50) (w := w6) (Below.refl _ _)))
        have HK7 := hid (HKS.out.kept (below_new (o := .cells #[] 50) (w := w6) (Below.refl _ _)))
        have HS7 := hid (so_new w6 w6.heap.size (Nat.le_refl _))
        have HGZ : Hid (gk < w6.heap.size ∧ w4.heap.size ≤ w6.heap.size ∧ w.heap.size + 2 ≤ w6.heap.size) := ⟨(HKS.out.lo gk rfl).2, by have h1 := HZ6.out; have h2 := HW5.out; omega, HI6.out.z⟩
        have HR7 : Hid (SubR (w6.alloc (.cells #[] 50)) (fun y => y < w6.heap.size ∧ ((S y ∧ y < w.heap.size) ∨ w.heap.size + 2 ≤ y)) (.slice (some ⟨gk, 0, none⟩) n3 c3) kz) := HK7.out.subR (fun y e h1 _ => by have e' : gk = y := (by simpa [Value.ownBlock] using e); have := HGZ.out; exact ⟨by omega, .inr h1⟩) (fun y hy _ => by
          have := HGZ.out
          have := HGK.out
          rcases hy with h | h
          · exact ⟨by have := h.2; omega, .inl h⟩
          · exact ⟨by omega, .inr (by omega)⟩)
        have hn1 : s + 1 < n3 := by have := HN3.out; have := HSN.out; omega
        have hc3 : n3 ≤ c3 ∧ c3 ≤ 9223372036854775807 := by obtain ⟨L, P, K, h1, _⟩ := HKS.out; exact (row_cap h1).2
        obtain ⟨hc31, hc32⟩ := hc3
        have hz5 : (0 : Int) ≤ (s : Int) + 1 := by omega
        have hz0 : (0 : Int) ≤ (s : Int) := by omega
        have hz1 : (s : Int) ≤ (c3 : Int) := by omega
        have hz2 : (s : Int) + 1 < (n3 : Int) := by omega
        have hz3 : (s : Int) < (n3 : Int) := by omega
        have hz4 : (s : Int) ≤ 1000 := by omega
        have hwr : IntKind.i64.wrap (s : Int) = (s : Int) := by rw [IntKind.wrap_i64]; omega
        have hwr2 : IntKind.i64.wrap ((s : Int) + 1 - 1) = (s : Int) := by rw [IntKind.wrap_i64]; omega
        go_wp2_with (at_builtin; refine wpList_append_subs rfl _ _ rfl w6.heap.size _ (fun y => y < w6.heap.size ∧ ((S y ∧ y < w.heap.size) ∨ w.heap.size + 2 ≤ y)) (.slice (some ⟨w6.heap.size, 0, none⟩) 0 0) _ [] (kz.take (s)) rfl HS7.out rfl (HR7.out.take (by omega)) ?q0 ?q1 ?q2 ?_)
        case q0 => intro y hy e; have e' : w6.heap.size = y := (by simpa [Value.ownBlock] using e)
                   have := hy.1; omega
        case q1 => first | (rw [List.length_take]; simp; omega) | simp
        case q2 => first | omega | simp
        intro v8 w8 hO8 hg8 ha8
        obtain ⟨a8, n8, c8, e8, -⟩ := hO8.shape
        subst e8
        have hlo8 := hO8.lo
        have HI8 := hid (HI7.out.grow hg8 (fun x e => by have e' : w6.heap.size = x := (by simpa [Value.ownBlock] using e); have := HGZ.out; omega))
        have hon8 : Only (fun y => y = w6.heap.size) (w6.alloc (.cells #[] 50)) w8 := only_of_grown hg8 (fun x e => by have e' : w6.heap.size = x := (by simpa [Value.ownBlock] using e); omega)
        have HK8 := hid (HK7.out.to hon8 (fun y e h => by have e' : gk = y := (by simpa [Value.ownBlock] using e); have := HGZ.out; omega) (fun y hy _ h => by have := HGZ.out; rcases hy with h2 | h2 <;> omega))
        have HS8 : Hid (SO w8 w6.heap.size (fun y => y < w6.heap.size ∧ ((S y ∧ y < w.heap.size) ∨ w.heap.size + 2 ≤ y)) (.slice a8 n8 c8) (kz.take (s))) := by
          refine SO.mono (S := fun y => y < w6.heap.size ∧ ((S y ∧ y < w.heap.size) ∨ w.heap.size + 2 ≤ y)) ?_ (fun y hy _ => hy) (fun y hy e => by have := (hlo8 y e).1; have := hy.1; omega)
          have h9 := hO8.mono (R := fun y => y < w6.heap.size ∧ ((S y ∧ y < w.heap.size) ∨ w.heap.size + 2 ≤ y)) (fun y hy _ => by first | exact hy.1 | exact hy.1.resolve_left id) (fun y hy e => by have := (hlo8 y e).1; have := hy.1; omega)
          simpa using h9
        have HZ68 : Hid (w6.heap.size ≤ w8.heap.size) := by have := hon8.size; simp at this; show _ ≤ _; omega
        clear hO8 hg8 ha8 HI7 HK7 HS7 HR7 hlo8 hon8
        obtain ⟨_, eK, _, hatK⟩ := HK8.out.at (by rw [HLN.out]; omega)
        cases eK
        obtain ⟨la, apa, npa, cpa, aka, nka, cka, i0, i1, i2, hsa⟩ := hatK (s) (by rw [HLN.out]; have := HSN.out; omega)
        obtain ⟨lb, apb, npb, cpb, akb, nkb, ckb, j0, j1, j2, hsb⟩ := hatK (s + 1) (by rw [HLN.out]; exact HSN.out)
        try simp only [Nat.zero_mul, Nat.one_mul, Nat.zero_add] at i0 i1 i2 j0 j1 j2
        have HTG := hid (specTogether_any _ la lb apa aka apb akb npa cpa nka cka npb cpb nkb ckb _ _ w8.drew (hsa.kept (below_drew _)) (hsb.kept (below_drew _)) (ev_leaf (HSM.out (s) (by have := HSN.out; omega)).1 (HSM.out (s + 1) HSN.out).1) (by have h1 := (HSM.out (s) (by have := HSN.out; omega)).2.1; have h2 := (HSM.out (s + 1) HSN.out).2.1; omega) (by have h1 := (HSM.out (s) (by have := HSN.out; omega)).2.2; have h2 := (HSM.out (s + 1) HSN.out).2.2; omega))
        have HAP : Hid (∀ y, ((S y ∧ y < w.heap.size) ∨ (w3.heap.size ≤ y ∧ y < w4.heap.size)) ∨ w8.drew.heap.size ≤ y → (Value.slice a8 n8 c8).ownBlock ≠ some y) := by
          intro y hy e
          have h1 := HS8.out.lo y e
          have h2 := HGZ.out
          rcases hy with (h | h) | h
          · have := h.2; omega
          · omega
          · have h3 : w8.heap.size ≤ y := h
            omega
        have HTL2 : Hid ((kz.take (s)).length + (togS (tAt kz (s)) (tAt kz (s + 1))).length ≤ 1048576) := by have := HTL.out; rw [List.length_take]; show _ ≤ _; omega
        have HST : Hid (∀ (w9 : World), Below w8.drew.heap.size w8.drew w9 → SO w9 w6.heap.size (fun y => y < w6.heap.size ∧ ((S y ∧ y < w.heap.size) ∨ w.heap.size + 2 ≤ y)) (.slice a8 n8 c8) (kz.take (s)) ∧ w6.heap.size ≤ w9.heap.size) := by
          intro w9 hb
          refine ⟨HS8.out.kept (Below.then' (below_drew w8) hb (Nat.le_refl _)), ?_⟩
          have h5 : w8.heap.size ≤ w9.heap.size := hb.size
          have := HZ68.out; omega
        have HFIN : Hid (∀ (w9 wA : World) (aA : Option Addr) (nA cA : Nat) (R : Nat → Prop), Below w8.drew.heap.size w8.drew w9 → SO wA w6.heap.size R (.slice aA nA cA) (kz.take (s) ++ togS (tAt kz (s)) (tAt kz (s + 1))) → (∀ y, R y → ((S y ∧ y < w.heap.size) ∨ w.heap.size + 2 ≤ y)) → w9.grownBy wA (Value.slice a8 n8 c8).ownBlock →
            SO wA w6.heap.size (fun y => ((S y ∧ y < w.heap.size) ∨ (w.heap.size + 2 ≤ y ∧ (Value.slice aA nA cA).ownBlock ≠ some y))) (.slice aA nA cA) (kz.take (s) ++ togS (tAt kz (s)) (tAt kz (s + 1))) ∧ DrI w wA false (.slice ap np cp) (.slice ak nk ck) ∧ SO wA (w.heap.size + 2) (fun y => (S y ∧ y < w.heap.size) ∨ (w3.heap.size ≤ y ∧ y < w4.heap.size)) (.slice (some ⟨gk, 0, none⟩) n3 c3) kz) := by
          intro w9 wA aA nA cA R hb hO hR hg
          have hlo := hO.lo
          have hz := HGZ.out
          have hb2 := Below.then' (below_drew w8) hb (Nat.le_refl _)
          have hon : Only (fun y => w6.heap.size ≤ y) w9 wA := only_of_grown hg (fun x e => (HS8.out.lo x e).1)
          refine ⟨?_, (HI8.out.keep hb2).only hon (fun x h => by omega), (HK8.out.kept hb2).to hon (fun y e h => by have e' : gk = y := (by simpa [Value.ownBlock] using e); omega) (fun y hy _ h => by rcases hy with h2 | h2 <;> omega)⟩
          obtain ⟨L, P, K, h1, h2, h3⟩ := hO
          refine ⟨L, P, K, h1, fun i hi => (h2 i hi).mono (fun y hy hl => ?_), ?_⟩
          · rcases hR y hy with h | h
            · exact .inl h
            · exact .inr ⟨h, h3 y hy⟩
          · rintro y (h | h)
            · intro e; have := (hlo y e).1; have := h.2; omega
            · exact h.2
        have HRR2 : Hid (∀ y, ((y < w6.heap.size ∧ ((S y ∧ y < w.heap.size) ∨ w.heap.size + 2 ≤ y)) ∨ ((S y ∧ y < w.heap.size) ∨ (w3.heap.size ≤ y ∧ y < w4.heap.size)) ∨ w8.drew.heap.size ≤ y) ∧ True → ((S y ∧ y < w.heap.size) ∨ w.heap.size + 2 ≤ y)) := by
          have h1 := HGK.out
          have h2 := HGZ.out
          have h4 := HZ68.out
          rintro y ⟨h | (h | h) | h, -⟩
          · exact h.2
          · exact .inl h
          · right; omega
          · have h3 : w8.heap.size ≤ y := h
            right; omega
        clear hsa hsb hatK
        go_wp2_with fail
        go_cut [10] (fun x v2 => ∃ (aA : Option Addr) (nA cA : Nat), x = .slice aA nA cA ∧ Hid (SO v2 w6.heap.size (fun y => ((S y ∧ y < w.heap.size) ∨ (w.heap.size + 2 ≤ y ∧ (Value.slice aA nA cA).ownBlock ≠ some y))) (.slice aA nA cA) (kz.take (s) ++ togS (tAt kz (s)) (tAt kz (s + 1)))) ∧ Hid (DrI w v2 false (.slice ap np cp) (.slice ak nk ck)) ∧ Hid (SO v2 (w.heap.size + 2) (fun y => (S y ∧ y < w.heap.size) ∨ (w3.heap.size ≤ y ∧ y < w4.heap.size)) (.slice (some ⟨gk, 0, none⟩) n3 c3) kz))
        case first =>
          go_region_law (first
            | (go_simp; go_at_call 72; refine HTG.out.mono ?_; rintro e w9 ⟨v9, rfl, hR9, hb9⟩)
            | (refine step_append_subs rfl _ _ rfl w6.heap.size _ _ (.slice a8 n8 c8) _ (kz.take (s)) (togS (tAt kz (s)) (tAt kz (s + 1))) rfl (HST.out _ hb9).1 rfl hR9 HAP.out HTL2.out (HST.out _ hb9).2 ?_; intro vA wA hOA hgA haA; obtain ⟨aA, nA, cA, eA, -⟩ := hOA.shape; subst eA))
          all_goals (go_wp2_with fail; go_meet)
          all_goals exact ⟨aA, nA, cA, rfl, (HFIN.out _ _ _ _ _ _ hb9 hOA (fun y hy => HRR2.out y ⟨hy.1, trivial⟩) hgA).1, (HFIN.out _ _ _ _ _ _ hb9 hOA (fun y hy => HRR2.out y ⟨hy.1, trivial⟩) hgA).2.1, (HFIN.out _ _ _ _ _ _ hb9 hOA (fun y hy => HRR2.out y ⟨hy.1, trivial⟩) hgA).2.2⟩
        case rest =>
          obtain ⟨aA, nA, cA, rfl, HSA, HIA, HKA⟩ := hcut
          clear HFIN HST HAP HTG i0 i1 i2 j0 j1 j2 HS8 HI8 HK8 HTL2 HRR2
          have HZB : Hid (w6.heap.size ≤ wc.heap.size) := by
            obtain ⟨L, P, K, h1, _⟩ := HSA.out
            have hlen : 0 < (kz.take (s) ++ togS (tAt kz (s)) (tAt kz (s + 1))).length := by
              rw [List.length_append]
              have := HTP.out
              omega
            rcases h1.2 with ⟨_, h0⟩ | ⟨g, _, _, h0, h2, h3, _⟩
            · omega
            · have := (Array.getElem?_eq_some_iff.1 h3).1
              show _ ≤ _; omega
          have HRA : Hid (SubR wc (fun y => y < w6.heap.size ∧ ((S y ∧ y < w.heap.size) ∨ w.heap.size + 2 ≤ y)) (.slice (some ⟨gk, 0, none⟩) n3 c3) kz) := HKA.out.subR (fun y e h1 _ => by have e' : gk = y := (by simpa [Value.ownBlock] using e); have := HGZ.out; exact ⟨by omega, .inr h1⟩) (fun y hy _ => by
            have := HGZ.out
            have := HGK.out
            rcases hy with h | h
            · exact ⟨by have := h.2; omega, .inl h⟩
            · exact ⟨by omega, .inr (by omega)⟩)
          have HAQ : Hid (∀ y, y < w6.heap.size ∧ ((S y ∧ y < w.heap.size) ∨ w.heap.size + 2 ≤ y) → (Value.slice aA nA cA).ownBlock ≠ some y) := fun y hy e => by have := (HSA.out.lo y e).1; have := hy.1; omega
          have HDL : Hid ((kz.take (s) ++ togS (tAt kz (s)) (tAt kz (s + 1))).length + (kz.drop (s + 1 + 1)).length ≤ 1048576) := by
            have := HTL.out
            have := HLN.out
            rw [List.length_append, List.length_take, List.length_drop]; show _ ≤ _; omega
          have hzz1 : ((s : Int) + 1 + 1 : Int) ≤ (n3 : Int) := by omega
          have hzz2 : (0 : Int) ≤ ((s : Int) + 1 + 1 : Int) := by omega
          by_cases hcap : ¬ c3 = s + 1 + 1
          · have HDR := hid (HRA.out.drop (m := s + 1 + 1) (by omega))
            rw [Nat.zero_add] at HDR
            go_wp2_with (at_builtin; refine wpList_append_subs rfl _ _ rfl w6.heap.size _ (fun y => y < w6.heap.size ∧ ((S y ∧ y < w.heap.size) ∨ w.heap.size + 2 ≤ y)) (.slice aA nA cA) _ _ (kz.drop (s + 1 + 1)) rfl HSA.out rfl HDR.out HAQ.out HDL.out HZB.out ?_)
            intro v6 wD hO6 hg6 ha6
            obtain ⟨a6, n6, c6, e6, -⟩ := hO6.shape
            subst e6
            have hID := HIA.out.grow hg6 (fun x e => by have := (HSA.out.lo x e).1; have := HGZ.out; omega)
            have hSD : Sub wD (fun y => (S y ∧ y < w.heap.size) ∨ w.heap.size + 2 ≤ y) false (.slice none 0 0) (.slice a6 n6 c6) (.mk [] (kz.take s ++ (togS (tAt kz s) (tAt kz (s + 1)) ++ kz.drop (s + 1 + 1)))) := (hO6.subR (fun y _ h1 _ => .inr (by have := HGZ.out; omega)) (fun y hy _ => by
              rcases hy.1 with (h | h) | h
              · exact .inl h
              · exact .inr h.1
              · exact h.2)).sub HNE.out
            have HD2 := hid (hID.done (S := fun y => S y ∧ y < w.heap.size) hSD (fun y hy => hy.2))
            have r0 := hID.r.cell (j := 0) rfl
            have r1 := hID.r.cell (j := 1) rfl
            have r2 := hID.r.cell (j := 2) rfl
            have rf0 := hID.r.free 0
            have rf1 := hID.r.free 1
            have rf2 := hID.r.free 2
            have z0 := HD2.out.2.2.cell (j := 0) rfl
            have z1 := HD2.out.2.2.cell (j := 1) rfl
            have z2 := HD2.out.2.2.cell (j := 2) rfl
            clear hO6 hg6 ha6 hID hSD HDR
            go_wp2
            refine bodyPost_ret (v := .agg #[.bool false, .slice none 0 0, .slice a6 n6 c6]) ?_ rfl ?_
            · refine results_sub1 rfl _ _ _ rfl ?_ ?_ ?_
              · exact z0
              · exact z1
              · exact z2
            · refine ⟨_, _, _, _, _, _, _, rfl, ?_, HD2.out.2.1⟩
              rw [HF2.out]
              exact HD2.out.1.mono (fun y hy _ => hy.imp (fun h => h.1) id)
          · have hck : c3 = s + 1 + 1 := by omega
            have hnk1 : n3 = s + 1 + 1 := by omega
            have HDR : Hid (SubR wc (fun y => y < w6.heap.size ∧ ((S y ∧ y < w.heap.size) ∨ w.heap.size + 2 ≤ y)) (.slice (some ⟨gk, 0, none⟩) 0 0) (kz.drop (s + 1 + 1))) := by
              rw [List.drop_eq_nil_of_le (by rw [HLN.out]; have := HN3.out; omega)]
              exact ⟨fun _ => false, fun _ => .slice none 0 0, fun _ => .slice none 0 0, ⟨_, 0, rfl, Nat.le_refl _, by omega, fun _ => rfl, fun h => (by cases h), fun h => (by simp at h)⟩, fun i hi => (by simp at hi)⟩
            subst hck hnk1
            go_wp2_with (at_builtin; refine wpList_append_subs rfl _ _ rfl w6.heap.size _ (fun y => y < w6.heap.size ∧ ((S y ∧ y < w.heap.size) ∨ w.heap.size + 2 ≤ y)) (.slice aA nA cA) _ _ (kz.drop (s + 1 + 1)) rfl HSA.out rfl HDR.out HAQ.out HDL.out HZB.out ?_)
            intro v6 wD hO6 hg6 ha6
            obtain ⟨a6, n6, c6, e6, -⟩ := hO6.shape
            subst e6
            have hID := HIA.out.grow hg6 (fun x e => by have := (HSA.out.lo x e).1; have := HGZ.out; omega)
            have hSD : Sub wD (fun y => (S y ∧ y < w.heap.size) ∨ w.heap.size + 2 ≤ y) false (.slice none 0 0) (.slice a6 n6 c6) (.mk [] (kz.take s ++ (togS (tAt kz s) (tAt kz (s + 1)) ++ kz.drop (s + 1 + 1)))) := (hO6.subR (fun y _ h1 _ => .inr (by have := HGZ.out; omega)) (fun y hy _ => by
              rcases hy.1 with (h | h) | h
              · exact .inl h
              · exact .inr h.1
              · exact h.2)).sub HNE.out
            have HD2 := hid (hID.done (S := fun y => S y ∧ y < w.heap.size) hSD (fun y hy => hy.2))
            have r0 := hID.r.cell (j := 0) rfl
            have r1 := hID.r.cell (j := 1) rfl
            have r2 := hID.r.cell (j := 2) rfl
            have rf0 := hID.r.free 0
            have rf1 := hID.r.free 1
            have rf2 := hID.r.free 2
            have z0 := HD2.out.2.2.cell (j := 0) rfl
            have z1 := HD2.out.2.2.cell (j := 1) rfl
            have z2 := HD2.out.2.2.cell (j := 2) rfl
            clear hO6 hg6 ha6 hID hSD HDR
            go_wp2
            refine bodyPost_ret (v := .agg #[.bool false, .slice none 0 0, .slice a6 n6 c6]) ?_ rfl ?_
            · refine results_sub1 rfl _ _ _ rfl ?_ ?_ ?_
              · exact z0
              · exact z1
              · exact z2
            · refine ⟨_, _, _, _, _, _, _, rfl, ?_, HD2.out.2.1⟩
              rw [HF2.out]
              exact HD2.out.1.mono (fun y hy _ => hy.imp (fun h => h.1) id)
end Go.Proofs.YtkfeefaokghibabGreat
/-
  spec.TreeDrop.
-/
namespace Go.Proofs.YtkfeefaokghibabGreat
open Go.RowKit
theorem strip1_rootD (t : T) : strip1 t = rootD t := rfl
theorem dropV_small (ns : List NB) (k : ByteArray) : smallK ((dropV ns k).getD []) ∧ ((dropV ns k).getD []).length ≤ 100000 := by
  have h0 : smallK (([] : List NB)) ∧ ([] : List NB).length ≤ 100000 := ⟨fun i hi => by simp at hi, by simp⟩
  unfold dropV
  split
  · exact h0
  · rename_i t h
    split
    · exact layT_small (rootD_out (k := k) (okT_putIn h)).1 (by have := (dropV_size h k).2.1; omega)
    · exact h0
theorem rootD_ks1 {h : Nat} {t : T} {k : ByteArray} (g : PutIn h true t) : (rootD (dropF h t k)).ks.length ≠ 1 := by
  rcases (rootD_out (k := k) g).1 with h1 | h1
  · exact full_ks1 h1
  · rw [h1]; decide
set_option maxHeartbeats 2000000 in
set_option maxRecDepth 20000 in
theorem specTreeDrop_any (ns : List NB) (hlen : ns.length ≤ 1048576) (hsm : smallN ns) (S : Nat → Prop) (an : Option Addr) (nn cn : Nat) (k : ByteArray) (w : World) (hN : Nr w S (.slice an nn cn) ns) :
    Calls Tryz.prog 21 #[.agg #[.slice an nn cn], .string k] w fun e w' => STPost (dropV ns k) w e w' := by
  have h1 := hN.len.2.1
  have h2 := hN.len.2.2
  have HB0 : Hid (Below w.heap.size w ((w.alloc (.cells #[.slice an nn cn] 30)).alloc (.cells #[.slice none 0 0] 30))) := below_new (below_new (Below.refl _ _))
  have K0 : Hid (Bk ((w.alloc (.cells #[.slice an nn cn] 30)).alloc (.cells #[.slice none 0 0] 30)) (w.heap.size + 1) 30 [.slice none 0 0]) := by
    have := Bk.new (w.alloc (.cells #[.slice an nn cn] 30)) 30 [.slice none 0 0]
    show Bk _ _ _ _
    simpa using this
  have KA : Hid (Bk ((w.alloc (.cells #[.slice an nn cn] 30)).alloc (.cells #[.slice none 0 0] 30)) w.heap.size 30 [.slice an nn cn]) := (Bk.new w 30 [.slice an nn cn]).alloc _
  have a0 := KA.out.cell (j := 0) rfl
  have H0 := hid (hN.below HB0.out)
  have HLS := hid (And.intro hlen hsm)
  clear hN hlen hsm
  go_enter Tryz.func21, Tryz.ntmps21
  go_wp2_with fail
  refine (specTreeOk_any ns HLS.out.1 HLS.out.2 S an nn cn _ H0.out).mono ?_
  generalize (w.alloc (.cells #[.slice an nn cn] 30)).alloc (.cells #[.slice none 0 0] 30) = U at *
  rintro e w1 ⟨rfl, hb⟩
  have HB1 := hid (HB0.out.trans (hb.mono HB0.out.size))
  have K1 := hid (K0.out.below hb)
  have KA1 := hid (KA.out.below hb)
  have H1 := hid (H0.out.below hb)
  clear hb HB0 K0 H0 KA a0
  have HNO : Hid (∀ (X : World) (u : Value), Below w.heap.size w X → Below w.heap.size w (X.setCell ⟨w.heap.size + 1, 0, none⟩ u)) := fun X u hb => ⟨hb.os, hb.tape, hb.output, by simp [World.setCell]; exact hb.size, fun i hi => (Below.heap_setCell _ _ _ _ (show i ≠ w.heap.size + 1 by omega)).trans (hb.block i hi)⟩
  rw [spOk_eq]
  have c0 := K1.out.cell (j := 0) rfl
  have f0 := K1.out.free 0
  have d0 := (K1.out.set 0 (.slice none 0 0)).cell (j := 0) rfl
  cases hr : okT ns with
  | none =>
    have HR : Hid (dropV ns k = none) := by show _ = _; rw [dropV, hr]
    clear hr
    go_wp2
    refine bodyPost_ret (v := .tuple #[.agg #[.slice none 0 0], .bool false]) ?_ rfl ?_
    · refine results_tree2 rfl _ _ _ rfl rfl ?_
      exact d0
    · rw [HR.out]; exact ⟨_, _, _, rfl, NewK.nil _ _, HNO.out _ _ HB1.out⟩
  | some t =>
    have HR : Hid (dropV ns k = if kOk k = true then some (layT (rootD (dropF t.lv t k))) else none) := by show _ = _; rw [dropV, hr]
    cases hk : kOk k with
    | false =>
      have HR2 : Hid (dropV ns k = none) := by show _ = _; rw [HR.out, hk]; simp
      have HKO := hid (specKeyOk_is k false hk)
      clear hk HR hr
      go_wp2_with fail
      refine (HKO.out w1).mono ?_
      rintro e w2 ⟨rfl, rfl⟩
      go_wp2
      refine bodyPost_ret (v := .tuple #[.agg #[.slice none 0 0], .bool false]) ?_ rfl ?_
      · refine results_tree2 rfl _ _ _ rfl rfl ?_
        exact d0
      · rw [HR2.out]; exact ⟨_, _, _, rfl, NewK.nil _ _, HNO.out _ _ HB1.out⟩
    | true =>
      have HKO := hid (specKeyOk_is k true hk)
      have HR3 : Hid (dropV ns k = some (layT (rootD (dropF t.lv t k)))) := by show _ = _; rw [HR.out, hk]; simp
      have HOK := hid (okT_facts hr)
      have HG := hid (okT_putIn hr)
      have HRO := hid (rootD_out (k := k) (okT_putIn hr))
      have HSZ := hid (dropV_size hr k)
      have HDS : Hid (dropS t.lv t k = dropF t.lv t k) := dropS_eq t.lv true t k HG.out
      have HK1 := hid (rootD_ks1 (k := k) (okT_putIn hr))
      clear hk HR hr
      have g0 := KA1.out.cell (j := 0) rfl
      go_wp2_with fail
      refine (HKO.out w1).mono ?_
      rintro e w2 ⟨rfl, rfl⟩
      clear HKO c0 f0 d0
      go_wp2_with fail
      refine (specRoot_any ns HLS.out.1 HLS.out.2 S an nn cn w2 H1.out).mono ?_
      rintro e w3 ⟨hpost, hb⟩
      rw [HOK.out.root] at hpost
      obtain ⟨lf, ap, np, cp, ak, nk, ck, rfl, hs⟩ := hpost
      have HS3 := hid hs
      have HB3 := hid (Below.then' HB1.out hb (Nat.le_refl _))
      have K3 := hid (K1.out.below hb)
      clear hs hb K1 KA1 g0 HB1 H1
      have HB4 := hid (below_new (o := .cells #[.bool lf, .slice ap np cp, .slice ak nk ck] 50) (w := w3) (Below.refl _ _))
      have KS := hid (Bk.new w3 50 [.bool lf, .slice ap np cp, .slice ak nk ck])
      have k0 := KS.out.cell (j := 0) rfl
      have k1 := KS.out.cell (j := 1) rfl
      have k2 := KS.out.cell (j := 2) rfl
      go_wp2_with fail
      refine (specDrop_any t.lv true _ lf ap ak np cp nk ck t k _ (HS3.out.kept HB4.out) HG.out).mono ?_
      rintro e w5 ⟨l5, ap5, np5, cp5, ak5, nk5, ck5, rfl, hR5, hb5⟩
      rw [HDS.out] at hR5
      have HR5 := hid hR5
      have HB7 := hid (Below.then' (Below.then' HB3.out HB4.out (Nat.le_refl _)) hb5 (Nat.le_refl _))
      have K7 := hid ((K3.out.below HB4.out).below hb5)
      clear hR5 hb5 k0 k1 k2 KS HB4 HB3 K3 HS3
      have HT := hid (specTree_any _ l5 ap5 ak5 np5 cp5 nk5 ck5 (dropF t.lv t k) w5 HR5.out HK1.out HRO.out.1 (by have := HSZ.out.2.1; rw [strip1_rootD]; omega))
      go_wp2_with fail
      refine HT.out.mono ?_
      rintro e w8 ⟨a8, n8, c8, rfl, hN8, hb8⟩
      rw [strip1_rootD] at hN8
      have K8 := hid (K7.out.below hb8)
      have HB8 := hid (Below.then' HB7.out hb8 (Nat.le_refl _))
      have hwx : w.heap.size + 1 < w5.heap.size := K7.out.lt
      have HNN : Hid (NewK w (w8.setCell ⟨w.heap.size + 1, 0, none⟩ (.slice a8 n8 c8)) (.slice a8 n8 c8) (layT (rootD (dropF t.lv t k)))) := (NrK.to hN8 (only_set (R := fun y => y = w.heap.size + 1) rfl _) (fun y hy _ e => by have := hy.1; omega)).mono (fun y hy hl => ⟨by have := hy.1; omega, hl⟩)
      have e0 := K8.out.cell (j := 0) rfl
      have e1 := K8.out.free 0
      have d1 := (K8.out.set 0 (.slice a8 n8 c8)).cell (j := 0) rfl
      clear hN8 hb8 HT
      go_wp2
      refine bodyPost_ret (v := .tuple #[.agg #[.slice a8 n8 c8], .bool true]) ?_ rfl ?_
      · refine results_tree2 rfl _ _ _ rfl rfl ?_
        exact d1
      · rw [HR3.out]; exact ⟨_, _, _, rfl, HNN.out, HNO.out _ _ HB8.out⟩
end Go.Proofs.YtkfeefaokghibabGreat
/-
  impl.TreeOf and spec.TreeOf: the same tree.
-/
namespace Go.Proofs.YtkfeefaokghibabGreat
open Go.RowKit
/-- t is a right root whose pairs are l. -/
structure RootI (t : T) (l : List PB) : Prop where
  inn : PutIn t.lv true t
  all : t.all = l
  ok : pOk l = true
theorem rootI_bare : RootI bareT [] := ⟨⟨.inl ⟨rfl, rfl⟩, .inr ⟨rfl, rfl⟩, List.Pairwise.nil⟩, rfl, rfl⟩
theorem RootI.good {t : T} {l : List PB} (g : RootI t l) : t.full true = true ∨ t = bareT := g.inn.full.imp id (fun h => h.2)
theorem full_bare {t : T} {r : Bool} (h : t.full r = true) : t.bare = false := by
  cases hb : t.bare with
  | false => rfl
  | true => rw [bare_iff.1 hb] at h; cases r <;> cases h
theorem RootI.okT {t : T} {l : List PB} (g : RootI t l) : okT (layT t) = some t := by
  rcases g.good with h | h
  · have hb := full_bare h
    have e : layT t = lay 0 t := by rw [layT, if_neg (by rw [hb]; simp)]
    have hl : (layT t).length ≠ 0 := by rw [e, lay_length]; have := T.size_pos t; omega
    exact (okT_good hl).2 ⟨h, ⟨_, g.inn.ev⟩, by rw [g.all]; exact g.ok, e.symm⟩
  · rw [h]; rfl
theorem RootI.put {t : T} {l : List PB} {p : PB} (g : RootI t l) (hok : pOk (l ++ [p]) = true) : RootI (rootT (putF t.lv t p)) (l ++ [p]) := by
  obtain ⟨h1, ⟨h, h2⟩, h3⟩ := rootT_full (putF_out t.lv true t p g.inn)
  have ha := pOk_asc hok
  have he : insP t.all p = l ++ [p] := by
    rw [g.all]
    have := insP_left l (B := []) (p := p) (fun x hx => (List.pairwise_append.1 ha).2.2 x hx p (by simp))
    rw [List.append_nil, insP_nil] at this
    exact this
  rw [he] at h3
  exact ⟨⟨by rw [ev_lv h _ h2]; exact h2, .inl h1, by rw [h3]; exact ha⟩, h3, hok⟩
theorem RootI.putV {t : T} {l : List PB} {p : PB} (g : RootI t l) (hok : pOk (l ++ [p]) = true) : putV (layT t) p.1 p.2 = some (layT (rootT (putF t.lv t p))) := by
  have h1 := g.put hok
  have hm := pOk_mem hok (x := p) (by simp)
  have hl := pOk_len hok
  rw [Go.Proofs.YtkfeefaokghibabGreat.putV, g.okT]
  simp only
  rw [if_pos hm, if_neg]
  rw [show ((p.1, p.2) : PB) = p from rfl, h1.all]
  omega
theorem pOk_take {l : List PB} (h : pOk l = true) (j : Nat) : pOk (l.take j) = true := by
  have ha := pOk_asc h
  refine pOk_of (by have := pOk_len h; rw [List.length_take]; omega) (fun x hx => pOk_mem h (List.mem_of_mem_take hx)) ?_
  have := List.take_append_drop j l
  rw [← this] at ha
  exact (List.pairwise_append.1 ha).1
/-- The tree of the first j pairs. -/
def ofT (l : List PB) : Nat → T
  | 0 => bareT
  | j + 1 => rootT (putF (ofT l j).lv (ofT l j) (pAtB l j))
theorem take_pAtB {l : List PB} {j : Nat} (h : j < l.length) : l.take (j + 1) = l.take j ++ [pAtB l j] := by rw [pAtB_lt h, List.take_succ_eq_append_getElem h]
theorem ofT_root {l : List PB} (h : pOk l = true) : ∀ j, j ≤ l.length → RootI (ofT l j) (l.take j)
  | 0, _ => by simpa [ofT] using rootI_bare
  | j + 1, hj => by
    have := ofT_root h j (by omega)
    rw [take_pAtB (by omega), ofT]
    exact this.put (by rw [← take_pAtB (by omega)]; exact pOk_take h (j + 1))
theorem ofT_putV {l : List PB} (h : pOk l = true) {j : Nat} (hj : j < l.length) : putV (layT (ofT l j)) (pAtB l j).1 (pAtB l j).2 = some (layT (ofT l (j + 1))) :=
  (ofT_root h j (by omega)).putV (by rw [← take_pAtB hj]; exact pOk_take h (j + 1))
def ofV (l : List PB) : Option (List NB) := if pOk l = true then some (layT (ofT l l.length)) else none
theorem RootI.size {t : T} {l : List PB} (g : RootI t l) : t.size ≤ 201 ∧ t.ps.length + t.ks.length ≤ 8 := by
  have hs := g.inn.small
  refine ⟨?_, by omega⟩
  rcases g.good with h | h
  · have := full_root h
    have := pOk_len g.ok
    rw [g.all] at *
    omega
  · rw [h]; decide
theorem layT_smallN {t : T} {l : List PB} (g : RootI t l) : smallN (layT t) ∧ (layT t).length ≤ 1048576 := by
  obtain ⟨h1, h2⟩ := layT_small g.good (by have := g.size.1; omega)
  exact ⟨fun i hi => by have := h1 i hi; omega, by omega⟩
def OfPost (o : Option (List NB)) (w : World) (e : Ending) (w' : World) : Prop := ∃ a n c, e = .returned (.tuple #[.agg #[.slice a n c], .bool o.isSome]) ∧ NewN w w' (.slice a n c) (o.getD []) ∧ Below w.heap.size w w'
theorem ofV_small (l : List PB) : smallK ((ofV l).getD []) ∧ ((ofV l).getD []).length ≤ 100000 := by
  unfold ofV
  split
  · rename_i h
    have g := ofT_root h l.length (Nat.le_refl _)
    exact layT_small g.good (by have := g.size.1; omega)
  · exact ⟨fun i hi => by simp at hi, by simp⟩
end Go.Proofs.YtkfeefaokghibabGreat
/-
  spec.TreeGet, impl.TreeGet: the same.
-/
namespace Go.Proofs.YtkfeefaokghibabGreat
open Go.RowKit
def getV (ns : List NB) (k : ByteArray) : Option ByteArray := if kOk k = true then fnd (alV ns) k else none
theorem okT_get {ns : List NB} {t : T} (h : okT ns = some t) : GetOk t := by
  have hf := okT_facts h
  by_cases hne : ns.length = 0
  · rw [hf.nil hne]
    exact ⟨List.Pairwise.nil, fun h => absurd rfl h, by decide⟩
  · exact full_getOk ((okT_good hne).1 h).full (pOk_asc hf.ok)
def fndF (l : List PB) (k : ByteArray) : Nat → Nat → Option ByteArray
  | 0, _ => none
  | f + 1, j => if (pAtB l j).1 = k then some (pAtB l j).2 else fndF l k f (j + 1)
theorem fndF_eq (l : List PB) (k : ByteArray) : ∀ (f j : Nat), j + f = l.length → fndF l k f j = fnd (l.drop j) k
  | 0, j, h => by rw [List.drop_eq_nil_of_le (by omega)]; rfl
  | f + 1, j, h => by
    rw [fndF, ← List.getElem_cons_drop (by omega : j < l.length), fnd, List.findSome?_cons, pAtB_lt (by omega)]
    by_cases e : l[j].1 = k
    · simp [e]
    · simp only [e, if_false]
      exact fndF_eq l k f (j + 1) (by omega)
end Go.Proofs.YtkfeefaokghibabGreat
/-
  spec.Depth, impl.Depth: the same.
-/
namespace Go.Proofs.YtkfeefaokghibabGreat
open Go.RowKit
theorem below_drewN (w : World) (q : Nat) : Below w.heap.size w (w.drewN q) := ⟨rfl, rfl, rfl, Nat.le_refl _, fun _ _ => rfl⟩
def dpV (ns : List NB) : Int := match okT ns with | none => -1 | some t => t.dpt
end Go.Proofs.YtkfeefaokghibabGreat
/-
  Plain facts of trees for the laws.
-/
namespace Go.Proofs.YtkfeefaokghibabGreat
open Go.RowKit
theorem TreePost.nr {o : Option (List NB)} {w w' : World} {v : Value} (h : TRow w w' v (o.getD [])) : Nr w' (fun _ => True) v (o.getD []) := by
  obtain ⟨V, h1, _⟩ := h
  exact h1.nr (fun _ _ => trivial)
theorem RootI.alV {t : T} {l : List PB} (g : RootI t l) : alV (layT t) = l := by rw [Go.Proofs.YtkfeefaokghibabGreat.alV, g.okT]; exact g.all
theorem RootI.dpV {t : T} {l : List PB} (g : RootI t l) : dpV (layT t) = t.dpt := by rw [Go.Proofs.YtkfeefaokghibabGreat.dpV, g.okT]
theorem RootI.deep {t : T} {l : List PB} (g : RootI t l) : (t.dpt = 0 ↔ l.length = 0) ∧ t.dpt ≤ 13 ∧ (2 ≤ t.dpt → 2 ^ (t.dpt - 1) ≤ l.length) := by
  have hlen := pOk_len g.ok
  rcases g.good with h | h
  · have hb := full_bare h
    have hd : t.dpt = t.lv := by rw [T.dpt, hb]; rfl
    have he := g.inn.ev
    have h1 := ev_size _ _ _ he h
    have h2 := full_root h
    have h3 := T.size_pos t
    rw [g.all] at h2
    rw [hd]
    have h13 : t.lv ≤ 13 := by
      rcases Nat.lt_or_ge 13 t.lv with h | h
      · have : 2 ^ 14 ≤ 2 ^ t.lv := Nat.pow_le_pow_right (by omega) h
        omega
      · exact h
    refine ⟨⟨fun e => ?_, fun e => by omega⟩, h13, fun e => ?_⟩
    · exfalso
      rw [e] at he
      cases t
      exact he
    · obtain ⟨m, hm⟩ : ∃ m, t.lv = m + 1 := ⟨t.lv - 1, by omega⟩
      rw [hm] at h1 ⊢
      rw [Nat.pow_succ] at h1
      simp only [Nat.add_sub_cancel]
      have : 1 ≤ 2 ^ m := Nat.one_le_two_pow
      omega
  · have ha := g.all
    rw [h] at ha
    rw [h]
    have : l = [] := ha.symm
    subst this
    exact ⟨⟨fun _ => rfl, fun _ => rfl⟩, by decide, fun h => absurd h (by decide)⟩
theorem okT_root {ns : List NB} {t : T} (h : okT ns = some t) : RootI t t.all := ⟨okT_putIn h, rfl, (okT_facts h).ok⟩
end Go.Proofs.YtkfeefaokghibabGreat
/-
  Keys and ranges: what the program's functions and the specification's answer, for all strings.
-/
namespace Go.Proofs.YtkfeefaokghibabGreat
open Go.RowKit

def rng (lo hi : ByteArray) : Value := .agg #[.string lo, .string hi]
/-- Whether s lies ahead of the end hi. -/
def ahd (s hi : ByteArray) : Bool := decide (hi.toList = []) || Op.bytesLess s.toList hi.toList
/-- A range that lies in a new block, kept. -/
theorem s2 {w w1 : World} {lo hi : ByteArray} {T : TypeId} (h : Below (w.alloc (.cells #[.string lo, .string hi] T)).heap.size (w.alloc (.cells #[.string lo, .string hi] T)) w1) :
    w1.cell? ⟨w.heap.size, 0, none⟩ = some (.string lo) ∧ w1.cell? ⟨w.heap.size, 1, none⟩ = some (.string hi) ∧ Below (w.alloc (.cells #[.string lo, .string hi] T)).heap.size (w.alloc (.cells #[.string lo, .string hi] T)) w1 := by
  refine ⟨?_, ?_, h⟩
  · rw [h.cell (p := ⟨w.heap.size, 0, none⟩) (by simp), World.cell?_alloc_at (hn := rfl)]; rfl
  · rw [h.cell (p := ⟨w.heap.size, 1, none⟩) (by simp), World.cell?_alloc_at (hn := rfl)]; rfl
theorem s2k {w w1 w2 : World} {lo hi : ByteArray} {T : TypeId} (h2 : Below w1.heap.size w1 w2)
    (h : w1.cell? ⟨w.heap.size, 0, none⟩ = some (.string lo) ∧ w1.cell? ⟨w.heap.size, 1, none⟩ = some (.string hi) ∧ Below (w.alloc (.cells #[.string lo, .string hi] T)).heap.size (w.alloc (.cells #[.string lo, .string hi] T)) w1) :
    w2.cell? ⟨w.heap.size, 0, none⟩ = some (.string lo) ∧ w2.cell? ⟨w.heap.size, 1, none⟩ = some (.string hi) ∧ Below (w.alloc (.cells #[.string lo, .string hi] T)).heap.size (w.alloc (.cells #[.string lo, .string hi] T)) w2 :=
  s2 (h.2.2.trans (h2.mono h.2.2.size))
def rOk (lo hi : ByteArray) : Bool := decide (lo.size ≤ 17) && decide (hi.size ≤ 17) && ahd lo hi
def rHas (lo hi k : ByteArray) : Bool := rOk lo hi && kOk k && !Op.bytesLess k.toList lo.toList && ahd k hi

end Go.Proofs.YtkfeefaokghibabGreat
/-
  Keys and ranges, the specification's side, and the law's helpers over ranges.
-/
namespace Go.Proofs.YtkfeefaokghibabGreat
open Go.RowKit

end Go.Proofs.YtkfeefaokghibabGreat
/-
  A scan: the pairs of a list in a range, from the first on or from the last on, as many as there is room for. Nothing here speaks of the program.
-/
namespace Go.Proofs.YtkfeefaokghibabGreat
open Go.RowKit
def dirL (back : Bool) (l : List PB) : List PB := if back = true then l.reverse else l
/-- What a scan tells. -/
def scV (l : List PB) (lo hi : ByteArray) (most : Int) (back : Bool) : List PB := ((dirL back l).filter fun p => rHas lo hi p.1).take most.toNat
def scJ (l : List PB) (lo hi : ByteArray) (most : Int) (back : Bool) (j : Nat) : List PB := (((dirL back l).take j).filter fun p => rHas lo hi p.1).take most.toNat
theorem dirL_length (back : Bool) (l : List PB) : (dirL back l).length = l.length := by cases back <;> simp [dirL]
theorem dirL_at (l : List PB) (j : Nat) (h : j < l.length) : pAtB (dirL true l) j = pAtB l (l.length - 1 - j) := by
  rw [pAtB_lt (by rw [dirL_length]; exact h), pAtB_lt (by omega)]
  simp [dirL]
theorem scJ_end (l : List PB) (lo hi : ByteArray) (most : Int) (back : Bool) : scJ l lo hi most back l.length = scV l lo hi most back := by
  have e : (dirL back l).take l.length = dirL back l := List.take_of_length_le (by rw [dirL_length]; exact Nat.le_refl _)
  rw [scJ, e]
  rfl
theorem scJ_le (l : List PB) (lo hi : ByteArray) (most : Int) (back : Bool) (j : Nat) : (scJ l lo hi most back j).length ≤ l.length := by
  rw [scJ, List.length_take]
  refine Nat.le_trans (Nat.min_le_right _ _) (Nat.le_trans (List.length_filter_le _ _) ?_)
  rw [List.length_take, dirL_length]
  omega
theorem scJ_step (l : List PB) (lo hi : ByteArray) (most : Int) (back : Bool) (j : Nat) (h : j < l.length) : scJ l lo hi most back (j + 1) =
    if ((scJ l lo hi most back j).length : Int) < most ∧ rHas lo hi (pAtB (dirL back l) j).1 = true then scJ l lo hi most back j ++ [pAtB (dirL back l) j] else scJ l lo hi most back j := by
  have hj : j < (dirL back l).length := by rw [dirL_length]; exact h
  have e : (dirL back l).take (j + 1) = (dirL back l).take j ++ [pAtB (dirL back l) j] := by rw [List.take_succ_eq_append_getElem hj, pAtB_lt hj]
  unfold scJ
  rw [e, List.filter_append]
  generalize ((dirL back l).take j).filter (fun p => rHas lo hi p.1) = X
  cases hp : rHas lo hi (pAtB (dirL back l) j).1 with
  | false => simp [hp]
  | true =>
    simp only [List.filter_cons, hp, if_true, List.filter_nil, and_true, List.length_take]
    by_cases hx : X.length < most.toNat
    · rw [if_pos (by omega), List.take_of_length_le (by simp; omega), List.take_of_length_le (by omega)]
    · rw [if_neg (by omega), List.take_append_of_le_length (by omega)]
end Go.Proofs.YtkfeefaokghibabGreat
/-
  Plain facts of trees for the laws: what is found behind a put and behind a drop.
-/
namespace Go.Proofs.YtkfeefaokghibabGreat
open Go.RowKit
theorem fnd_cons (x : PB) (l : List PB) (k : ByteArray) : fnd (x :: l) k = if x.1 = k then some x.2 else fnd l k := by
  rw [fnd, List.findSome?_cons]
  by_cases e : x.1 = k
  · simp [e]
  · simp [e, fnd]
theorem fnd_insP (l : List PB) (p : PB) : fnd (insP l p) p.1 = some p.2 := by
  induction l with
  | nil => rw [insP_nil, fnd_cons, if_pos rfl]
  | cons x l ih =>
    cases hk : klt x.1 p.1 with
    | true => rw [insP_lt hk, fnd_cons, if_neg (klt_ne hk), ih]
    | false =>
      by_cases e : x.1 = p.1
      · rw [insP_eq e, fnd_cons, if_pos rfl]
      · rw [insP_gt hk e, fnd_cons, if_pos rfl]
theorem fnd_insP_ne (l : List PB) (p : PB) (q : ByteArray) (h : q ≠ p.1) : fnd (insP l p) q = fnd l q := by
  induction l with
  | nil => rw [insP_nil, fnd_cons, if_neg (Ne.symm h)]
  | cons x l ih =>
    cases hk : klt x.1 p.1 with
    | true => rw [insP_lt hk, fnd_cons, fnd_cons, ih]
    | false =>
      by_cases e : x.1 = p.1
      · rw [insP_eq e, fnd_cons, fnd_cons, if_neg (Ne.symm h), if_neg (by rw [e]; exact Ne.symm h)]
      · rw [insP_gt hk e, fnd_cons, if_neg (Ne.symm h)]
theorem insP_count {l : List PB} (p : PB) (ha : Asc l) : (insP l p).length = l.length + if (fnd l p.1).isSome = true then 0 else 1 := by
  induction l with
  | nil => rw [insP_nil]; rfl
  | cons x l ih =>
    obtain ⟨h1, h2⟩ := List.pairwise_cons.1 ha
    cases hk : klt x.1 p.1 with
    | true => rw [insP_lt hk, fnd_cons, if_neg (klt_ne hk), List.length_cons, ih h2, List.length_cons]; omega
    | false =>
      by_cases e : x.1 = p.1
      · rw [insP_eq e, fnd_cons, if_pos e]; rfl
      · have hlt : klt p.1 x.1 = true := by
          cases hq : klt p.1 x.1 with
          | true => rfl
          | false => exact absurd (key_eq hk hq) e
        have hn : fnd (x :: l) p.1 = none := fnd_none (fun y hy => by
          rcases List.mem_cons.1 hy with rfl | hy
          · exact e
          · exact (klt_ne (klt_trans hlt (h1 y hy))).symm)
        rw [insP_gt hk e, hn]; rfl
theorem mem_fnd {l : List PB} (ha : Asc l) {p : PB} (hp : p ∈ l) : fnd l p.1 = some p.2 := by
  induction l with
  | nil => cases hp
  | cons x l ih =>
    obtain ⟨h1, h2⟩ := List.pairwise_cons.1 ha
    rw [fnd_cons]
    rcases List.mem_cons.1 hp with rfl | hp
    · rw [if_pos rfl]
    · rw [if_neg (klt_ne (h1 p hp)), ih h2 hp]
theorem fnd_delP {l : List PB} (k : ByteArray) (ha : Asc l) : fnd (delP l k) k = none := by
  rw [← delS_eq ha]
  refine fnd_none (fun p hp => ?_)
  have := (List.mem_filter.1 hp).2
  exact of_decide_eq_true this
theorem RootI.ins {t : T} {l : List PB} {p : PB} (g : RootI t l) (hp : kOk p.1 = true ∧ vOk p.2 = true) (hl : (rootT (putF t.lv t p)).all.length ≤ 200) : RootI (rootT (putF t.lv t p)) (insP l p) := by
  obtain ⟨h1, ⟨h, h2⟩, h3⟩ := rootT_full (putF_out t.lv true t p g.inn)
  rw [g.all] at h3
  have ha : Asc (insP l p) := insP_asc (pOk_asc g.ok)
  rw [h3] at hl
  refine ⟨⟨by rw [ev_lv h _ h2]; exact h2, .inl h1, by rw [h3]; exact ha⟩, h3, pOk_of hl (fun x hx => ?_) ha⟩
  rcases insP_mem hx with rfl | hx
  · exact hp
  · exact pOk_mem g.ok hx
theorem RootI.del {t : T} {l : List PB} (g : RootI t l) (k : ByteArray) : RootI (rootD (dropF t.lv t k)) (delP l k) := by
  obtain ⟨h1, ⟨h, h2⟩, h3⟩ := rootD_out (k := k) g.inn
  rw [g.all] at h3
  exact ⟨⟨by rw [ev_lv h _ h2]; exact h2, h1.imp id (fun h => ⟨rfl, h⟩), by rw [h3]; exact delP_asc (pOk_asc g.ok)⟩, h3, pOk_del g.ok⟩
theorem rootD_lv {h : Nat} {t : T} {k : ByteArray} (g : PutIn h true t) : (rootD (dropF h t k)).lv ≤ h := by
  obtain ⟨h1, _⟩ := dropF_out h true t k g
  have he := h1.ev
  generalize dropF h t k = y at *
  obtain ⟨ps, ks⟩ := y
  have er : rootD (.mk ps ks) = if ks.length = 1 then tAt ks 0 else .mk ps ks := rfl
  rw [er]
  split
  · rename_i e
    cases h with
    | zero => exact he.elim
    | succ h =>
      rcases he with ⟨e2, _⟩ | ⟨_, e2⟩
      · subst e2; simp at e
      · rw [ev_lv h _ (e2 _ (tAt_mem (by omega)))]; omega
  · rw [ev_lv h _ he]; exact Nat.le_refl _
theorem dpt_le (t : T) : t.dpt ≤ t.lv := by
  rw [T.dpt]; split
  · exact Nat.zero_le _
  · exact Nat.le_refl _
theorem RootI.shallow {t : T} {l : List PB} (g : RootI t l) (k : ByteArray) : (rootD (dropF t.lv t k)).dpt ≤ t.dpt := by
  rcases g.good with h | h
  · have hd : t.dpt = t.lv := by rw [T.dpt, full_bare h]; rfl
    rw [hd]
    exact Nat.le_trans (dpt_le _) (rootD_lv g.inn)
  · have hl : l = [] := by rw [← g.all, h]; rfl
    subst hl
    have := (g.del k).deep.1.2 (by rw [delP_nil]; rfl)
    omega
/-- What a put gives, where it gives something. -/
structure PutF (l : List PB) (k v : ByteArray) (ms : List NB) : Prop where
  small : smallN ms ∧ ms.length ≤ 1048576
  ok : (Go.Proofs.YtkfeefaokghibabGreat.okT ms).isSome = true
  got : getV ms k = some v
  all : (alV ms).length = l.length + if (fnd l k).isSome = true then 0 else 1
  others : ∀ i, i < l.length → (pAtB l i).1 ≠ k → getV ms (pAtB l i).1 = some (pAtB l i).2
theorem pAtB_mem {l : List PB} {i : Nat} (h : i < l.length) : pAtB l i ∈ l := by rw [pAtB_lt h]; exact List.getElem_mem h
theorem putV_facts {ns : List NB} {k v : ByteArray} {ms : List NB} (h : putV ns k v = some ms) : PutF (alV ns) k v ms ∧ kOk k = true := by
  unfold putV at h
  split at h
  · cases h
  · rename_i t ht
    split at h
    · rename_i hkv
      split at h
      · cases h
      · rename_i hl
        cases h
        have g0 := okT_root ht
        have hal : alV ns = t.all := by unfold alV; rw [ht]
        rw [hal]
        have g := g0.ins (p := (k, v)) hkv (by omega)
        have ha := pOk_asc g0.ok
        refine ⟨⟨layT_smallN g, by rw [g.okT]; rfl, ?_, ?_, fun i hi hne => ?_⟩, hkv.1⟩
        · rw [getV, if_pos hkv.1, g.alV]; exact fnd_insP _ (k, v)
        · rw [g.alV]; exact insP_count (k, v) ha
        · rw [getV, if_pos (pOk_mem g0.ok (pAtB_mem hi)).1, g.alV, fnd_insP_ne _ (k, v) _ hne]
          exact mem_fnd ha (pAtB_mem hi)
    · cases h
/-- What a drop gives, where it gives something. -/
structure DropF (l : List PB) (k : ByteArray) (d : Int) (ms : List NB) : Prop where
  small : smallN ms ∧ ms.length ≤ 1048576
  ok : (Go.Proofs.YtkfeefaokghibabGreat.okT ms).isSome = true
  got : getV ms k = none
  all : alV ms = delS l k
  deep : dpV ms ≤ d
theorem dropV_facts {ns : List NB} {k : ByteArray} {ms : List NB} (h : dropV ns k = some ms) : DropF (alV ns) k (dpV ns) ms := by
  unfold dropV at h
  split at h
  · cases h
  · rename_i t ht
    split at h
    · rename_i hk
      cases h
      have g0 := okT_root ht
      have hal : alV ns = t.all := by unfold alV; rw [ht]
      have hdp : dpV ns = t.dpt := by unfold dpV; rw [ht]
      rw [hal, hdp]
      have g := g0.del k
      have ha := pOk_asc g0.ok
      refine ⟨layT_smallN g, by rw [g.okT]; rfl, ?_, ?_, ?_⟩
      · rw [getV, if_pos hk, g.alV]; exact fnd_delP k ha
      · rw [g.alV, delS_eq ha]
      · rw [g.dpV]; have := g0.shallow k; omega
    · cases h
/-- Dropping one pair after the other. -/
theorem okT_layT {ns : List NB} {t : T} (h : okT ns = some t) : layT t = ns := by
  by_cases hne : ns.length = 0
  · rw [(okT_facts h).nil hne, List.eq_nil_of_length_eq_zero hne]; rfl
  · have g := (okT_good hne).1 h
    rw [layT, if_neg (by rw [full_bare g.full]; simp)]
    exact g.laid
theorem drop_next {t : T} {l : List PB} {j : Nat} (hj : j < l.length) (g : RootI t (l.drop j)) : dropV (layT t) (pAtB l j).1 = some (layT (rootD (dropF t.lv t (pAtB l j).1))) ∧ RootI (rootD (dropF t.lv t (pAtB l j).1)) (l.drop (j + 1)) := by
  have e : l.drop j = pAtB l j :: l.drop (j + 1) := by rw [pAtB_lt hj]; exact List.drop_eq_getElem_cons hj
  have h2 := g.del (pAtB l j).1
  rw [e, delP_eq rfl] at h2
  refine ⟨?_, h2⟩
  rw [dropV, g.okT]
  simp only
  rw [if_pos (pOk_mem g.ok (x := pAtB l j) (by rw [e]; simp)).1]
theorem RootI.none {t : T} (g : RootI t []) : layT t = [] := by
  have hd := g.deep.1.2 rfl
  rcases g.good with h | h
  · have := g.all
    have h2 := full_root h
    have h3 := T.size_pos t
    rw [this] at h2
    simp at h2
    omega
  · rw [h]; rfl
/-- Scans. -/
theorem scV_all {l : List PB} (hl : l.length ≤ 200) (lo hi : ByteArray) (back : Bool) : scV l lo hi 200 back = (dirL back l).filter fun p => rHas lo hi p.1 := by
  rw [scV]
  refine List.take_of_length_le ?_
  refine Nat.le_trans (List.length_filter_le _ _) ?_
  rw [dirL_length]
  exact hl
theorem scV_back {l : List PB} (hl : l.length ≤ 200) (lo hi : ByteArray) : scV l lo hi 200 true = (scV l lo hi 200 false).reverse := by
  rw [scV_all hl, scV_all hl]
  simp [dirL]
theorem scV_one {l : List PB} (hl : l.length ≤ 200) (lo hi : ByteArray) : scV l lo hi 1 true = (scV l lo hi 200 true).take 1 := by
  rw [scV_all hl]
  rfl
theorem scV_has {l : List PB} (hl : l.length ≤ 200) (lo hi : ByteArray) {i : Nat} (h : i < (scV l lo hi 200 false).length) : rHas lo hi (pAtB (scV l lo hi 200 false) i).1 = true := by
  have := pAtB_mem h
  rw [scV_all hl] at this
  have := (List.mem_filter.1 this).2
  rwa [scV_all hl]
end Go.Proofs.YtkfeefaokghibabGreat
/-
  Slices of strings: what is read of one; the law's helpers over them; SplitsOk of the program and of the specification.
-/
namespace Go.Proofs.YtkfeefaokghibabGreat
open Go.RowKit

/-- The slice value '.slice a n c' has in the world w the strings ss. -/
def Sd (w : World) (a : Option Addr) (n c : Nat) (ss : List ByteArray) : Prop :=
  n = ss.length ∧ n ≤ c ∧ c ≤ 9223372036854775807 ∧ (∀ i : Nat, (ss[i]?.getD ⟨#[]⟩).size ≤ 9223372036854775807) ∧
    (0 < n → ∃ b off, a = some ⟨b, off, none⟩ ∧ b < w.heap.size ∧ ∀ i, i < n → w.cell? ⟨b, off + i, none⟩ = some (.string (ss[i]?.getD ⟨#[]⟩)))
theorem Sd.kept {w w' : World} {a : Option Addr} {n c : Nat} {ss : List ByteArray} (h : Sd w a n c ss) (hB : Below w.heap.size w w') : Sd w' a n c ss := by
  obtain ⟨h1, h2, h3, h4, h5⟩ := h
  refine ⟨h1, h2, h3, h4, fun hp => ?_⟩
  obtain ⟨b, off, rfl, hb, hc⟩ := h5 hp
  refine ⟨b, off, rfl, Nat.lt_of_lt_of_le hb hB.size, fun i hi => ?_⟩
  rw [hB.cell (p := ⟨b, off + i, none⟩) hb]
  exact hc i hi
/-- The list is right from place k on: keys, each above the one ahead. -/
def sOkF (ss : List ByteArray) : Nat → Nat → Bool
  | 0, _ => true
  | f + 1, k => kOk (ss[k]?.getD ⟨#[]⟩) && (decide (k = 0) || Op.bytesLess (ss[k - 1]?.getD ⟨#[]⟩).toList (ss[k]?.getD ⟨#[]⟩).toList) && sOkF ss f (k + 1)
def sOk (ss : List ByteArray) : Bool := decide (ss.length ≤ 3) && sOkF ss ss.length 0
theorem sOkF_no (ss : List ByteArray) (f k : Nat) (h : kOk (ss[k]?.getD ⟨#[]⟩) = false) : sOkF ss (f + 1) k = false := by simp [sOkF, h]
theorem sOkF_0 (ss : List ByteArray) (f : Nat) (h : kOk (ss[0]?.getD ⟨#[]⟩) = true) : sOkF ss (f + 1) 0 = sOkF ss f 1 := by simp only [sOkF, h]; simp
theorem sOkF_s (ss : List ByteArray) (f j : Nat) (h : kOk (ss[j + 1]?.getD ⟨#[]⟩) = true) (b : Bool) (h2 : Op.bytesLess (ss[j]?.getD ⟨#[]⟩).toList (ss[j + 1]?.getD ⟨#[]⟩).toList = b) : sOkF ss (f + 1) (j + 1) = (b && sOkF ss f (j + 1 + 1)) := by
  simp only [sOkF, h, Nat.add_sub_cancel, h2]; simp
end Go.Proofs.YtkfeefaokghibabGreat
/-
  Pages as plain data; PageOk of the specification.
-/
namespace Go.Proofs.YtkfeefaokghibabGreat
open Go.RowKit
/-- A page: its keys, values and kids. -/
structure PG where
  keys : List ByteArray
  vals : List ByteArray
  kids : List Int
def kidOk (k : Int) : Bool := decide (2 ≤ k) && decide (k < 400)
def pgLeaf (p : PG) : Bool := p.vals.all vOk && (decide (1 ≤ p.keys.length) && decide (p.keys.length ≤ 4) && decide (p.vals.length = p.keys.length))
def pgBranch (p : PG) : Bool := p.kids.all kidOk && (decide (2 ≤ p.kids.length) && decide (p.kids.length ≤ 4) && decide (p.keys.length + 1 = p.kids.length) && decide (p.vals.length = 0))
def pgOk (p : PG) : Bool := sOkF p.keys p.keys.length 0 && (if p.kids.length = 0 then pgLeaf p else pgBranch p)
theorem pgOk_leaf {p : PG} (h : sOkF p.keys p.keys.length 0 = true) (h0 : p.kids.length = 0) : pgOk p = pgLeaf p := by rw [pgOk, h, if_pos h0]; rfl
theorem pgOk_branch {p : PG} (h : sOkF p.keys p.keys.length 0 = true) (h0 : ¬ p.kids.length = 0) : pgOk p = pgBranch p := by rw [pgOk, h, if_neg h0]; rfl
theorem pgOk_no {p : PG} (h : sOkF p.keys p.keys.length 0 = false) : pgOk p = false := by rw [pgOk, h]; rfl
theorem all_take {α : Type} (l : List α) (f : α → Bool) (d : α) {k : Nat} (h : k < l.length) : (l.take (k + 1)).all f = ((l.take k).all f && f (l[k]?.getD d)) := by
  rw [List.take_succ_eq_append_getElem h, List.all_append]
  simp [h]
theorem all_no {α : Type} (l : List α) (f : α → Bool) (d : α) {k : Nat} (h : k < l.length) (hf : f (l[k]?.getD d) = false) : l.all f = false := by
  rw [List.all_eq_false]
  refine ⟨l[k], List.getElem_mem h, ?_⟩
  simp [h] at hf
  simp [hf]
theorem pgLeaf_no {p : PG} (h : p.vals.all vOk = false) : pgLeaf p = false := by rw [pgLeaf, h]; rfl
theorem pgBranch_no {p : PG} (h : p.kids.all kidOk = false) : pgBranch p = false := by rw [pgBranch, h]; rfl
/-- The slices lead to the page. -/
structure Pgr (w : World) (S : Nat → Prop) (ka : Option Addr) (kn kc : Nat) (va : Option Addr) (vn vc : Nat) (ia : Option Addr) (jn ic : Nat) (p : PG) : Prop where
  hk : Sr w S (.slice ka kn kc) p.keys
  hv : Sr w S (.slice va vn vc) p.vals
  hi : Ir w S (.slice ia jn ic) p.kids
theorem Pgr.below {w w' : World} {S : Nat → Prop} {ka : Option Addr} {kn kc : Nat} {va : Option Addr} {vn vc : Nat} {ia : Option Addr} {jn ic : Nat} {p : PG} (h : Pgr w S ka kn kc va vn vc ia jn ic p) (hb : Below w.heap.size w w') : Pgr w' S ka kn kc va vn vc ia jn ic p := ⟨h.hk.below hb, h.hv.below hb, h.hi.below hb⟩
theorem Pgr.to {w w' : World} {S R : Nat → Prop} {ka : Option Addr} {kn kc : Nat} {va : Option Addr} {vn vc : Nat} {ia : Option Addr} {jn ic : Nat} {p : PG} (h : Pgr w S ka kn kc va vn vc ia jn ic p) (ho : Only R w w') (hd : ∀ b, S b → b < w.heap.size → ¬ R b) : Pgr w' S ka kn kc va vn vc ia jn ic p := ⟨h.hk.to ho hd, h.hv.to ho hd, h.hi.to ho hd⟩
end Go.Proofs.YtkfeefaokghibabGreat
/-
  Edits as plain data, rows of edits; BatchOk on both sides.
-/
namespace Go.Proofs.YtkfeefaokghibabGreat
open Go.RowKit
set_option linter.unusedVariables false
/-- An edit: its key, its value, whether it is a drop. -/
abbrev ED := ByteArray × ByteArray × Bool
def eAt (l : List ED) (i : Nat) : ED := l[i]?.getD (⟨#[]⟩, ⟨#[]⟩, false)
/-- The cells of a row of edits. -/
def ecs : List ED → List Value
  | [] => []
  | p :: ps => .string p.1 :: .string p.2.1 :: .bool p.2.2 :: ecs ps
theorem ecs_length (l : List ED) : (ecs l).length = l.length * 3 := by
  induction l with
  | nil => rfl
  | cons p ps ih => simp [ecs, ih]; omega
theorem ecs_at (l : List ED) : ∀ i, i < l.length → (ecs l)[i * 3]? = some (.string (eAt l i).1) ∧ (ecs l)[i * 3 + 1]? = some (.string (eAt l i).2.1) ∧ (ecs l)[i * 3 + 2]? = some (.bool (eAt l i).2.2) := by
  induction l with
  | nil => intro i h; exact absurd h (Nat.not_lt_zero _)
  | cons p ps ih =>
    intro i h
    cases i with
    | zero => exact ⟨rfl, rfl, rfl⟩
    | succ i =>
      have := ih i (by simpa using h)
      rw [show (i + 1) * 3 = i * 3 + 3 by omega, show i * 3 + 3 + 1 = i * 3 + 1 + 3 by omega, show i * 3 + 3 + 2 = i * 3 + 2 + 3 by omega]
      exact this
theorem ecs_set (l : List ED) (p : ED) : ∀ j, j < l.length → ecs (l.set j p) = (((ecs l).set (j * 3) (.string p.1)).set (j * 3 + 1) (.string p.2.1)).set (j * 3 + 2) (.bool p.2.2) := by
  induction l with
  | nil => intro j h; exact absurd h (Nat.not_lt_zero _)
  | cons q l ih =>
    intro j h
    cases j with
    | zero => rfl
    | succ j =>
      have := ih j (by simpa using h)
      rw [show (j + 1) * 3 = j * 3 + 3 by omega, show j * 3 + 3 + 1 = j * 3 + 1 + 3 by omega, show j * 3 + 3 + 2 = j * 3 + 2 + 3 by omega]
      show Value.string q.1 :: Value.string q.2.1 :: Value.bool q.2.2 :: ecs (l.set j p) = _
      rw [this]
      rfl
theorem ecs_one (l : List ED) : ∀ u ∈ ecs l, u.oneCell' = true := by
  induction l with
  | nil => intro u hu; cases hu
  | cons p ps ih =>
    intro u hu
    simp only [ecs, List.mem_cons] at hu
    rcases hu with rfl | rfl | rfl | hu
    · rfl
    · rfl
    · rfl
    · exact ih u hu
/-- The slice value v leads to the edits l. -/
def Er (w : World) (S : Nat → Prop) (v : Value) (l : List ED) : Prop := Rw w S v l.length (ecs l)
theorem Er.to {w w' : World} {S R : Nat → Prop} {v : Value} {l : List ED} (h : Er w S v l) (ho : Only R w w') (hd : ∀ b, S b → b < w.heap.size → ¬ R b) : Er w' S v l := Rw.to h ho hd
theorem Er.below {w w' : World} {S : Nat → Prop} {v : Value} {l : List ED} (h : Er w S v l) (hb : Below w.heap.size w w') : Er w' S v l := Rw.to h (only_of_below hb (fun _ => False)) (fun _ _ _ h => h)
theorem Er.mono {w : World} {S R : Nat → Prop} {v : Value} {l : List ED} (h : Er w S v l) (hd : ∀ b, S b → b < w.heap.size → R b) : Er w R v l := Rw.mono h hd
theorem Er.len {w : World} {S : Nat → Prop} {a : Option Addr} {n c : Nat} {l : List ED} (h : Er w S (.slice a n c) l) : n = l.length ∧ n ≤ c ∧ c ≤ 9223372036854775807 := Rw.len h
theorem Er.at {w : World} {S : Nat → Prop} {a : Option Addr} {n c : Nat} {l : List ED} (h : Er w S (.slice a n c) l) (hp : 0 < n) : ∃ b off, a = some ⟨b, off, none⟩ ∧ S b ∧ b < w.heap.size ∧
    ∀ i, i < n → w.cell? ⟨b, off + i * 3, none⟩ = some (.string (eAt l i).1) ∧ w.cell? ⟨b, off + i * 3 + 1, none⟩ = some (.string (eAt l i).2.1) ∧ w.cell? ⟨b, off + i * 3 + 2, none⟩ = some (.bool (eAt l i).2.2) := by
  obtain ⟨b, off, h1, h2, h3, h4⟩ := Rw.at h hp
  refine ⟨b, off, h1, h2, h3, fun i hi => ?_⟩
  have hn := h.len.1
  have := ecs_at l i (by omega)
  exact ⟨h4 _ _ this.1, by rw [Nat.add_assoc]; exact h4 _ _ this.2.1, by rw [Nat.add_assoc]; exact h4 _ _ this.2.2⟩
/-- When an edit, a batch is right. -/
def eOk (e : ED) : Bool := kOk e.1 && (vOk e.2.1 && (!e.2.2 || decide (e.2.1 = ⟨#[]⟩)))
def bOk (l : List ED) : Bool := decide (l.length ≤ 40) && l.all eOk
theorem bOk_no {l : List ED} (h : ¬ l.length ≤ 40) : bOk l = false := by rw [bOk, decide_eq_false h]; rfl
theorem bOk_yes {l : List ED} (h : l.length ≤ 40) : bOk l = l.all eOk := by rw [bOk, decide_eq_true h]; rfl
theorem empty_toList : (⟨#[]⟩ : ByteArray).toList = [] := by rw [ByteArray.toList_eq]
theorem bytes_empty {s : ByteArray} : s.toList = [] ↔ s = ⟨#[]⟩ := by
  constructor
  · intro h
    exact str_ext (h.trans empty_toList.symm)
  · rintro rfl; exact empty_toList
theorem load_edit {w : World} {g : Nat} {k v : ByteArray} {b : Bool} (c0 : w.cell? ⟨g, 0, none⟩ = some (.string k)) (c1 : w.cell? ⟨g, 1, none⟩ = some (.string v)) (c2 : w.cell? ⟨g, 2, none⟩ = some (.bool b)) :
    (loadVar 54 ⟨g, 0, none⟩).run Tryz.prog w = .ok (.agg #[.string k, .string v, .bool b]) w := by go_simp
set_option maxHeartbeats 1600000 in
theorem editOk_any (k v : ByteArray) (b : Bool) (w : World) : Calls Tryz.prog 54 #[.agg #[.string k, .string v, .bool b]] w fun e w' => e = .returned (.bool (eOk (k, v, b))) ∧ Below w.heap.size w w' := by
  have HB := hid (below_new (o := .cells #[.string k, .string v, .bool b] 54) (w := w) (Below.refl _ _))
  have hnot : ∀ (x : Bool) (w : World), (Op.unary .not (.bool x)).run Tryz.prog w = .ok (.bool (!x)) w := fun _ _ => rfl
  cases h1 : kOk k
  · have HE : Hid (eOk (k, v, b) = false) := by show _ = _; simp [eOk, h1]
    have HK := hid (implKeyOk_is k false h1)
    clear h1
    go_enter Tryz.func54, Tryz.ntmps54
    go_wp2_with fail
    refine (HK.out _).mono ?_
    rintro e w1 ⟨rfl, rfl⟩
    go_wp2
    go_ret
    exact ⟨by rw [HE.out]; rfl, HB.out⟩
  · have HK := hid (implKeyOk_is k true h1)
    cases h2 : vOk v
    · have HE : Hid (eOk (k, v, b) = false) := by show _ = _; simp [eOk, h2]
      have HV := hid (implValOk_any v)
      rw [h2] at HV
      clear h1 h2
      go_enter Tryz.func54, Tryz.ntmps54
      go_wp2_with fail
      refine (HK.out _).mono ?_
      rintro e w1 ⟨rfl, rfl⟩
      go_wp2_with fail
      refine (HV.out _).mono ?_
      rintro e w2 ⟨rfl, rfl⟩
      go_wp2
      go_ret
      exact ⟨by rw [HE.out]; rfl, HB.out⟩
    · have HV := hid (implValOk_any v)
      rw [h2] at HV
      cases b with
      | false =>
        have HE : Hid (eOk (k, v, false) = true) := by show _ = _; simp [eOk, h1, h2]
        clear h1 h2
        go_enter Tryz.func54, Tryz.ntmps54
        go_wp2_with fail
        refine (HK.out _).mono ?_
        rintro e w1 ⟨rfl, rfl⟩
        go_wp2_with fail
        refine (HV.out _).mono ?_
        rintro e w2 ⟨rfl, rfl⟩
        go_wp2
        go_ret
        exact ⟨by rw [HE.out]; rfl, HB.out⟩
      | true =>
        by_cases h3 : v = ⟨#[]⟩
        · subst h3
          have HE : Hid (eOk (k, ⟨#[]⟩, true) = true) := by show _ = _; simp [eOk, h1, h2]
          clear h1 h2
          go_enter Tryz.func54, Tryz.ntmps54
          go_wp2_with fail
          refine (HK.out _).mono ?_
          rintro e w1 ⟨rfl, rfl⟩
          go_wp2_with fail
          refine (HV.out _).mono ?_
          rintro e w2 ⟨rfl, rfl⟩
          go_wp2
          go_ret
          exact ⟨by rw [HE.out]; rfl, HB.out⟩
        · have HE : Hid (eOk (k, v, true) = false) := by show _ = _; simp [eOk, h3]
          have t1 : ¬ (v.toList = []) := fun e => h3 (bytes_empty.1 e)
          have t2 : v.toList.isEmpty = false := by cases h : v.toList with | nil => exact absurd h t1 | cons _ _ => rfl
          have t3 : (v.toList == []) = false := by cases h : v.toList with | nil => exact absurd h t1 | cons _ _ => rfl
          clear h1 h2 h3
          go_enter Tryz.func54, Tryz.ntmps54
          go_wp2_with fail
          refine (HK.out _).mono ?_
          rintro e w1 ⟨rfl, rfl⟩
          go_wp2_with fail
          refine (HV.out _).mono ?_
          rintro e w2 ⟨rfl, rfl⟩
          go_wp2
          go_ret
          exact ⟨by rw [HE.out]; rfl, HB.out⟩
set_option maxHeartbeats 800000 in
theorem batchFn_any (k v : ByteArray) (b : Bool) (w : World) : Calls Tryz.prog 53 #[.agg #[.string k, .string v, .bool b]] w fun e w' => e = .returned (.bool (!eOk (k, v, b))) ∧ Below w.heap.size w w' := by
  have HB := hid (below_new (o := .cells #[.string k, .string v, .bool b] 54) (w := w) (Below.refl _ _))
  have hnot : ∀ (x : Bool) (w : World), (Op.unary .not (.bool x)).run Tryz.prog w = .ok (.bool (!x)) w := fun _ _ => rfl
  go_enter Tryz.func53, Tryz.ntmps53
  go_wp2_with fail
  refine (editOk_any k v b _).mono ?_
  generalize w.alloc (.cells #[.string k, .string v, .bool b] 54) = U at *
  rintro e w1 ⟨rfl, hb⟩
  have HB1 := hid (HB.out.trans (hb.mono HB.out.size))
  clear hb
  go_wp2
  go_ret
  exact ⟨rfl, HB1.out⟩
set_option maxHeartbeats 2000000 in
theorem idxE_any (S : Nat → Prop) (a : Option Addr) (n c : Nat) (l : List ED) (w : World) (h : Er w S (.slice a n c) l) :
    Calls Tryz.prog 81 #[.slice a n c, .func (.func 53) #[] #[]] w fun e w' => (∃ x : Int, e = .returned (.int .i64 x) ∧ decide (0 ≤ x) = !(l.all eOk) ∧ -1 ≤ x ∧ x ≤ 9223372036854775807) ∧ Below w.heap.size w w' := by
  have HN := hid (Rw.len h).1
  have bk := (Rw.len h).2
  have H0 := hid h
  clear h
  go_enter Tryz.func81, Tryz.ntmps81
  go_wp2_with fail
  go_loopw [8] (fun i v => ∃ k : Nat, k ≤ n ∧ i = .int .i64 k ∧ Hid (Below w.heap.size w v) ∧ Hid ((l.take k).all eOk = true)) (fun i _ => n - (intOf i).toNat)
  case atStart => exact ⟨0, Nat.zero_le _, rfl, Below.refl _ _, rfl⟩
  case round =>
    obtain ⟨m, hm, rfl, HB, HT⟩ := hrel
    by_cases hlt : m < n
    · have hlt' : (m : Int) < (n : Int) := by omega
      have hml : m < l.length := by rw [← HN.out]; exact hlt
      obtain ⟨b, off, ha, -, -, hcell⟩ := (H0.out.below HB.out).at (by omega)
      obtain ⟨hc0, hc1, hc2⟩ := hcell m hlt
      clear hcell
      subst ha
      generalize hcur : eAt l m = cur at hc0 hc1 hc2
      have HC : Hid (l[m]?.getD (⟨#[]⟩, ⟨#[]⟩, false) = cur) := hcur
      clear hcur
      obtain ⟨ck, cv, cb⟩ := cur
      go_wp2_with fail
      refine (batchFn_any ck cv cb _).mono ?_
      rintro e w1 ⟨rfl, hb⟩
      have HB1 := hid (HB.out.trans (hb.mono HB.out.size))
      clear hb HB
      cases h1 : eOk (ck, cv, cb)
      · have HZ : Hid (l.all eOk = false) := all_no _ _ (⟨#[]⟩, ⟨#[]⟩, false) hml (by rw [HC.out]; exact h1)
        go_wp2
        go_ret
        exact ⟨⟨_, rfl, by rw [HZ.out]; simp, by omega, by omega⟩, HB1.out⟩
      · have HT2 : Hid ((l.take (m + 1)).all eOk = true) := by
          show _ = true
          rw [all_take _ _ (⟨#[]⟩, ⟨#[]⟩, false) hml, HT.out, HC.out, h1]; rfl
        go_wp2
        go_roundw
        case rel => exact ⟨m + 1, by omega, by go_num, HB1.out, HT2.out⟩
        case measure => simp [intOf]; omega
    · have HA : Hid (l.all eOk = true) := by
        have := HT.out
        rwa [List.take_of_length_le (by rw [← HN.out]; omega)] at this
      go_wp2
      go_ret
      exact ⟨⟨_, rfl, by rw [HA.out]; decide, by omega, by omega⟩, HB.out⟩
set_option maxHeartbeats 800000 in
theorem hasE_any (S : Nat → Prop) (a : Option Addr) (n c : Nat) (l : List ED) (w : World) (h : Er w S (.slice a n c) l) :
    Calls Tryz.prog 52 #[.slice a n c, .func (.func 53) #[] #[]] w fun e w' => e = .returned (.bool (!(l.all eOk))) ∧ Below w.heap.size w w' := by
  have H0 := hid h
  clear h
  go_enter Tryz.func52, Tryz.ntmps52
  go_wp2_with fail
  refine (idxE_any S a n c l _ H0.out).mono ?_
  rintro e w1 ⟨⟨x, rfl, hx, h0, h1⟩, hb⟩
  have HX := hid hx
  have HB := hid hb
  clear hx hb
  go_wp2
  go_ret
  exact ⟨by rw [← HX.out]; rfl, HB.out⟩
set_option maxHeartbeats 800000 in
theorem implBatchOk_any (S : Nat → Prop) (a : Option Addr) (n c : Nat) (l : List ED) (w : World) (h : Er w S (.slice a n c) l) :
    Calls Tryz.prog 26 #[.slice a n c] w fun e w' => e = .returned (.bool (bOk l)) ∧ Below w.heap.size w w' := by
  have HN := hid (Rw.len h).1
  have bk := (Rw.len h).2
  have H0 := hid h
  have hnot : ∀ (x : Bool) (w : World), (Op.unary .not (.bool x)).run Tryz.prog w = .ok (.bool (!x)) w := fun _ _ => rfl
  clear h
  by_cases h40 : n ≤ 40
  · have HE : Hid (bOk l = l.all eOk) := bOk_yes (by rw [← HN.out]; exact h40)
    have h40' : (n : Int) ≤ 40 := by omega
    go_enter Tryz.func26, Tryz.ntmps26
    go_wp2_with fail
    refine (hasE_any S a n c l _ H0.out).mono ?_
    rintro e w1 ⟨rfl, hb⟩
    have HB := hid hb
    clear hb
    generalize l.all eOk = z at *
    go_wp2
    go_ret
    exact ⟨by rw [HE.out]; cases z <;> rfl, HB.out⟩
  · have HE : Hid (bOk l = false) := bOk_no (by rw [← HN.out]; exact h40)
    have h40' : ¬ (n : Int) ≤ 40 := by omega
    go_enter Tryz.func26, Tryz.ntmps26
    go_wp2
    go_ret
    exact ⟨by rw [HE.out]; rfl, Below.refl _ _⟩
set_option maxHeartbeats 4000000 in
theorem specBatchOk_any (S : Nat → Prop) (a : Option Addr) (n c : Nat) (l : List ED) (w : World) (h : Er w S (.slice a n c) l) :
    Calls Tryz.prog 18 #[.slice a n c] w fun e w' => e = .returned (.bool (bOk l)) ∧ Below w.heap.size w w' := by
  have HN := hid (Rw.len h).1
  have bk := (Rw.len h).2
  have H0 := hid h
  have hnot : ∀ (x : Bool) (w : World), (Op.unary .not (.bool x)).run Tryz.prog w = .ok (.bool (!x)) w := fun _ _ => rfl
  clear h
  by_cases h40 : n ≤ 40
  · have HE : Hid (bOk l = l.all eOk) := bOk_yes (by rw [← HN.out]; exact h40)
    have h40' : ¬ (40 : Int) < (n : Int) := by omega
    go_enter Tryz.func18, Tryz.ntmps18
    go_wp2_with fail
    go_loopw [10] (fun i v => ∃ k : Nat, k ≤ n ∧ i = .int .i64 k ∧ Hid (Below w.heap.size w v) ∧ Hid ((l.take k).all eOk = true)) (fun i _ => n - (intOf i).toNat)
    case atStart => exact ⟨0, Nat.zero_le _, rfl, Below.refl _ _, rfl⟩
    case round =>
      obtain ⟨m, hm, rfl, HB, HT⟩ := hrel
      by_cases hlt : m < n
      · have hlt' : (m : Int) < (n : Int) := by omega
        have hml : m < l.length := by rw [← HN.out]; exact hlt
        obtain ⟨b, off, ha, -, -, hcell⟩ := (H0.out.below HB.out).at (by omega)
        obtain ⟨hc0, hc1, hc2⟩ := hcell m hlt
        clear hcell
        subst ha
        generalize hcur : eAt l m = cur at hc0 hc1 hc2
        have HC : Hid (l[m]?.getD (⟨#[]⟩, ⟨#[]⟩, false) = cur) := hcur
        clear hcur
        obtain ⟨ck, cv, cb⟩ := cur
        have HB1 : Hid (Below w.heap.size w (wr.alloc (.cells #[.string ck, .string cv, .bool cb] 54))) := HB.out.trans (below_new (Below.refl _ _) |>.mono HB.out.size)
        have HNO : Hid (eOk (ck, cv, cb) = false → l.all eOk = false) := fun h => all_no _ _ (⟨#[]⟩, ⟨#[]⟩, false) hml (by rw [HC.out]; exact h)
        have HYES : Hid (eOk (ck, cv, cb) = true → (l.take (m + 1)).all eOk = true) := fun h => by rw [all_take _ _ (⟨#[]⟩, ⟨#[]⟩, false) hml, HT.out, HC.out, h]; rfl
        clear HC HT HB hml
        cases h1 : kOk ck
        · have HZ := hid (HNO.out (by simp [eOk, h1]))
          have C1 := hid (specKeyOk_is ck _ h1)
          clear h1 HNO HYES
          go_wp2_with fail
          refine (C1.out _).mono ?_
          rintro e w1 ⟨rfl, rfl⟩
          go_wp2
          go_ret
          exact ⟨by rw [HE.out, HZ.out]; rfl, HB1.out⟩
        · have C1 := hid (specKeyOk_is ck _ h1)
          cases h2 : vOk cv
          · have HZ := hid (HNO.out (by simp [eOk, h2]))
            have C2 := hid (specValOk_is cv _ h2)
            clear h1 h2 HNO HYES
            go_wp2_with fail
            refine (C1.out _).mono ?_
            rintro e w1 ⟨rfl, rfl⟩
            go_wp2_with fail
            refine (C2.out _).mono ?_
            rintro e w2 ⟨rfl, rfl⟩
            go_wp2
            go_ret
            exact ⟨by rw [HE.out, HZ.out]; rfl, HB1.out⟩
          · have C2 := hid (specValOk_is cv _ h2)
            cases cb with
            | false =>
              have HZ := hid (HYES.out (by simp [eOk, h1, h2]))
              clear h1 h2 HNO HYES
              go_wp2_with fail
              refine (C1.out _).mono ?_
              rintro e w1 ⟨rfl, rfl⟩
              go_wp2_with fail
              refine (C2.out _).mono ?_
              rintro e w2 ⟨rfl, rfl⟩
              go_wp2
              go_roundw
              case rel => exact ⟨m + 1, by omega, by go_num, HB1.out, HZ.out⟩
              case measure => simp [intOf]; omega
            | true =>
              by_cases h3 : cv = ⟨#[]⟩
              · subst h3
                have HZ := hid (HYES.out (by simp [eOk, h1, h2]))
                clear h1 h2 HNO HYES
                go_wp2_with fail
                refine (C1.out _).mono ?_
                rintro e w1 ⟨rfl, rfl⟩
                go_wp2_with fail
                refine (C2.out _).mono ?_
                rintro e w2 ⟨rfl, rfl⟩
                go_wp2
                go_roundw
                case rel => exact ⟨m + 1, by omega, by go_num, HB1.out, HZ.out⟩
                case measure => simp [intOf]; omega
              · have HZ := hid (HNO.out (by simp [eOk, h3]))
                have t1 : ¬ (cv.toList = []) := fun e => h3 (bytes_empty.1 e)
                have t2 : cv.toList.isEmpty = false := by cases h : cv.toList with | nil => exact absurd h t1 | cons _ _ => rfl
                clear h1 h2 h3 HNO HYES
                go_wp2_with fail
                refine (C1.out _).mono ?_
                rintro e w1 ⟨rfl, rfl⟩
                go_wp2_with fail
                refine (C2.out _).mono ?_
                rintro e w2 ⟨rfl, rfl⟩
                go_wp2
                go_ret
                exact ⟨by rw [HE.out, HZ.out]; rfl, HB1.out⟩
      · have HA : Hid (l.all eOk = true) := by
          have := HT.out
          rwa [List.take_of_length_le (by rw [← HN.out]; omega)] at this
        go_wp2
        go_ret
        exact ⟨by rw [HE.out, HA.out]; rfl, HB.out⟩
  · have HE : Hid (bOk l = false) := bOk_no (by rw [← HN.out]; exact h40)
    have h40' : (40 : Int) < (n : Int) := by omega
    go_enter Tryz.func18, Tryz.ntmps18
    go_wp2
    go_ret
    exact ⟨by rw [HE.out]; rfl, Below.refl _ _⟩
end Go.Proofs.YtkfeefaokghibabGreat
/-
  TreeEdit on both sides.
-/
namespace Go.Proofs.YtkfeefaokghibabGreat
open Go.RowKit
set_option linter.unusedVariables false
/-- One edit, a list of edits, over a tree. -/
def edT (t : T) (e : ED) : Option T := if e.2.2 = true then some (rootD (dropF t.lv t e.1)) else if 200 < (rootT (putF t.lv t (e.1, e.2.1))).all.length then none else some (rootT (putF t.lv t (e.1, e.2.1)))
def edsT : List ED → T → Option T
  | [], t => some t
  | e :: l, t => match edT t e with
    | none => none
    | some t' => edsT l t'
def edV (ns : List NB) (l : List ED) : Option (List NB) := match okT ns with
  | none => none
  | some t => if bOk l = true then (edsT l t).map layT else none
theorem edrop_at (l : List ED) {k : Nat} (h : k < l.length) : l.drop k = eAt l k :: l.drop (k + 1) := by
  rw [List.drop_eq_getElem_cons h]
  simp [eAt, h]
theorem edsT_step (l : List ED) {k : Nat} (h : k < l.length) (t : T) : edsT (l.drop k) t = match edT t (eAt l k) with | none => none | some t' => edsT (l.drop (k + 1)) t' := by
  rw [edrop_at l h]
  rfl
theorem edsT_none (l : List ED) {k : Nat} (h : k < l.length) {t : T} (e : edT t (eAt l k) = none) : edsT (l.drop k) t = none := by rw [edsT_step l h, e]
theorem edsT_some (l : List ED) {k : Nat} (h : k < l.length) {t t' : T} (e : edT t (eAt l k) = some t') : edsT (l.drop k) t = edsT (l.drop (k + 1)) t' := by rw [edsT_step l h, e]
theorem bOk_at {l : List ED} (h : bOk l = true) {k : Nat} (hk : k < l.length) : eOk (eAt l k) = true := by
  simp only [bOk, Bool.and_eq_true] at h
  have e : eAt l k = l[k] := by simp [eAt, hk]
  rw [e]
  exact List.all_eq_true.1 h.2 _ (List.getElem_mem hk)
theorem eOk_key {e : ED} (h : eOk e = true) : kOk e.1 = true ∧ vOk e.2.1 = true := by
  simp only [eOk, Bool.and_eq_true] at h
  exact ⟨h.1, h.2.1⟩
theorem rootI_of {ns : List NB} {t : T} (h : okT ns = some t) : RootI t t.all := by
  have f := okT_facts h
  exact ⟨okT_putIn h, rfl, f.ok⟩
theorem edT_root {t t' : T} {l : List PB} (g : RootI t l) {e : ED} (he : eOk e = true) (h : edT t e = some t') : RootI t' t'.all := by
  have hk := eOk_key he
  unfold edT at h
  by_cases hg : e.2.2 = true
  · rw [if_pos hg] at h
    cases h
    have := g.del e.1
    rw [this.all]
    exact this
  · rw [if_neg hg] at h
    by_cases hl : 200 < (rootT (putF t.lv t (e.1, e.2.1))).all.length
    · rw [if_pos hl] at h; cases h
    · rw [if_neg hl] at h
      cases h
      have := g.ins (p := (e.1, e.2.1)) hk (by omega)
      rw [this.all]
      exact this
theorem dropV_lay {t : T} {l : List PB} (g : RootI t l) {k : ByteArray} (hk : kOk k = true) : dropV (layT t) k = some (layT (rootD (dropF t.lv t k))) := by
  rw [dropV, g.okT]
  simp only
  rw [if_pos hk]
theorem putV_lay {t : T} {l : List PB} (g : RootI t l) {k v : ByteArray} (hk : kOk k = true ∧ vOk v = true) : putV (layT t) k v = (if 200 < (rootT (putF t.lv t (k, v))).all.length then none else some (layT (rootT (putF t.lv t (k, v))))) := by
  rw [putV, g.okT]
  simp only
  rw [if_pos hk]
theorem small_smallE {ns : List NB} (h : smallK ns ∧ ns.length ≤ 100000) : smallN ns ∧ ns.length ≤ 1048576 := ⟨fun i hi => by have := h.1 i hi; omega, by have := h.2; omega⟩
theorem rootI_small {t : T} {l : List PB} (g : RootI t l) : smallN (layT t) ∧ (layT t).length ≤ 1048576 := small_smallE (layT_small g.good (by have := g.size.1; omega))
theorem edV_small (ns : List NB) (l : List ED) : smallK ((edV ns l).getD []) ∧ ((edV ns l).getD []).length ≤ 100000 := by
  unfold edV
  cases h : okT ns with
  | none => exact ⟨fun i hi => by simp at hi, by simp⟩
  | some t =>
    simp only
    by_cases hb : bOk l = true
    · rw [if_pos hb]
      have key : ∀ (k : Nat) (t : T), k ≤ l.length → RootI t t.all → smallK (((edsT (l.drop (l.length - k)) t).map layT).getD []) ∧ (((edsT (l.drop (l.length - k)) t).map layT).getD []).length ≤ 100000 := by
        intro k
        induction k with
        | zero =>
          intro t _ g
          rw [Nat.sub_zero, List.drop_length]
          exact layT_small g.good (by have := g.size.1; omega)
        | succ k ih =>
          intro t hk g
          have hlt : l.length - (k + 1) < l.length := by omega
          have hs := edsT_step l hlt t
          cases he : edT t (eAt l (l.length - (k + 1))) with
          | none =>
            rw [he] at hs
            rw [hs]
            exact ⟨fun i hi => by simp at hi, by simp⟩
          | some t' =>
            rw [he] at hs
            rw [hs, show l.length - (k + 1) + 1 = l.length - k by omega]
            exact ih t' (by omega) (edT_root g (bOk_at hb hlt) he)
      have := key l.length t (Nat.le_refl _) (rootI_of h)
      rwa [Nat.sub_self, List.drop_zero] at this
    · rw [if_neg hb]
      exact ⟨fun i hi => by simp at hi, by simp⟩
theorem edV_no {ns : List NB} {l : List ED} (h : okT ns = none) : edV ns l = none := by rw [edV, h]
theorem edV_bad {ns : List NB} {l : List ED} (h : bOk l = false) : edV ns l = none := by
  rw [edV]
  cases okT ns with
  | none => rfl
  | some t => simp only; rw [h]; rfl
theorem edV_yes {ns : List NB} {l : List ED} {t : T} (h : okT ns = some t) (hb : bOk l = true) : edV ns l = (edsT l t).map layT := by rw [edV, h]; simp only; rw [if_pos hb]
/-- What the program holds between two edits: the result's box, the tree at hand. -/
structure LE (w wr : World) (S : Nat → Prop) (b : Nat) (t : T) : Prop where
  bel : Below w.heap.size w wr
  k4 : Bk wr (w.heap.size + 1) 30 [.slice none 0 0]
  lb : Limb wr S b t
  hs : ∀ y, S y → w.heap.size + 2 ≤ y ∧ y < wr.heap.size
theorem LE.below {w wr v : World} {S : Nat → Prop} {b : Nat} {t : T} (h : LE w wr S b t) (hb : Below wr.heap.size wr v) : LE w v S b t :=
  ⟨h.bel.trans (hb.mono h.bel.size), h.k4.below hb, h.lb.kept hb, fun y hy => ⟨(h.hs y hy).1, Nat.lt_of_lt_of_le (h.hs y hy).2 hb.size⟩⟩
theorem LE.turn {w wr v : World} {S S3 : Nat → Prop} {b b3 : Nat} {t t3 : T} (h : LE w wr S b t) (k1 : Limb v S3 b3 t3) (k2 : ∀ y, S3 y → (S y ∨ wr.heap.size ≤ y) ∧ y < v.heap.size) (k3 : Only S wr v) : LE w v S3 b3 t3 := by
  have hk := h.k4.lt
  refine ⟨h.bel.trans (k3.below h.bel.size (fun y hy hS => by have := (h.hs y hS).1; omega)), h.k4.to k3 (fun hS => by have := (h.hs _ hS).1; omega), k1, fun y hy => ⟨?_, (k2 y hy).2⟩⟩
  rcases (k2 y hy).1 with e | e
  · exact (h.hs y e).1
  · omega
set_option maxHeartbeats 4000000 in
set_option maxRecDepth 20000 in
theorem implTreeEdit_any (S E : Nat → Prop) (an : Option Addr) (nn cn : Nat) (ns : List NB) (a : Option Addr) (n c : Nat) (l : List ED) (w : World) (hN : Nr w S (.slice an nn cn) ns) (hE : Er w E (.slice a n c) l) :
    Calls Tryz.prog 9 #[.agg #[.slice an nn cn], .slice a n c] w fun e w' => TreePost (edV ns l) w e w' := by
  have HN := hid hN
  have HEL := hid hE.len.1
  have hec := hE.len.2
  have h1 := hN.len.2.1
  have h2 := hN.len.2.2
  have HE := hid hE
  clear hN hE
  have HB0 : Hid (Below w.heap.size w ((w.alloc (.cells #[.slice an nn cn] 30)).alloc (.cells #[.slice none 0 0] 30))) := below_new (below_new (Below.refl _ _))
  have K0 : Hid (Bk ((w.alloc (.cells #[.slice an nn cn] 30)).alloc (.cells #[.slice none 0 0] 30)) (w.heap.size + 1) 30 [.slice none 0 0]) := by
    have := Bk.new (w.alloc (.cells #[.slice an nn cn] 30)) 30 [.slice none 0 0]
    show Bk _ _ _ _
    simpa using this
  have KA : Hid (Bk ((w.alloc (.cells #[.slice an nn cn] 30)).alloc (.cells #[.slice none 0 0] 30)) w.heap.size 30 [.slice an nn cn]) := (Bk.new w 30 [.slice an nn cn]).alloc _
  have HU0 : Hid (((w.alloc (.cells #[.slice an nn cn] 30)).alloc (.cells #[.slice none 0 0] 30)).heap.size = w.heap.size + 2) := by show _ = _; simp
  have a0 := KA.out.cell (j := 0) rfl
  have hnot : ∀ (x : Bool) (w : World), (Op.unary .not (.bool x)).run Tryz.prog w = .ok (.bool (!x)) w := fun _ _ => rfl
  go_enter Tryz.func9, Tryz.ntmps9
  go_wp2_with fail
  refine (rootOf_any S an nn cn ns _ (HN.out.below HB0.out)).mono ?_
  generalize (w.alloc (.cells #[.slice an nn cn] 30)).alloc (.cells #[.slice none 0 0] 30) = U at *
  clear a0 KA
  rintro e w1 ⟨hpost, hb1⟩
  have HB1 : Hid (Below w.heap.size w w1) := HB0.out.trans (hb1.mono HB0.out.size)
  have K1 := hid (K0.out.below hb1)
  have HU := hid hb1.size
  clear hb1
  have hno : ∀ (X : World) (u : Value), Below w.heap.size w X → Below w.heap.size w (X.setCell ⟨w.heap.size + 1, 0, none⟩ u) := fun X u hb => ⟨hb.os, hb.tape, hb.output, by simp [World.setCell]; exact hb.size, fun i hi => (Below.heap_setCell _ _ _ _ (show i ≠ w.heap.size + 1 by omega)).trans (hb.block i hi)⟩
  have HNO := hid hno
  clear hno
  have c0 := K1.out.cell (j := 0) rfl
  have f0 := K1.out.free 0
  have d0 := (K1.out.set 0 (.slice none 0 0)).cell (j := 0) rfl
  cases hr : okT ns with
  | none =>
    rw [hr] at hpost
    have he : e = .returned (.pointer none) := hpost
    subst he
    have HR := hid (edV_no (l := l) hr)
    clear hpost hr
    go_wp2
    refine bodyPost_ret (v := .tuple #[.agg #[.slice none 0 0], .bool false]) ?_ rfl ?_
    · refine results_tree2 rfl _ _ _ rfl rfl ?_
      exact d0
    · rw [HR.out]; exact ⟨_, rfl, TRow.nil _ _, HNO.out _ _ HB1.out⟩
  | some t =>
    rw [hr] at hpost
    obtain ⟨b, he, hL⟩ := hpost
    subst he
    have L1 : Hid (LE w w1 (fun y => U.heap.size ≤ y ∧ y < w1.heap.size) b t) := ⟨HB1.out, K1.out, hL, fun y hy => ⟨by have := HU0.out; omega, hy.2⟩⟩
    have G1 := hid (rootI_of hr)
    cases hbo : bOk l with
    | false =>
      have HR := hid (edV_bad (ns := ns) hbo)
      have HBO := hid (implBatchOk_any E a n c l _ (HE.out.below HB1.out))
      rw [hbo] at HBO
      clear hL hr hbo
      go_wp2_with fail
      refine HBO.out.mono ?_
      rintro e w2 ⟨rfl, hb⟩
      have L2 := hid (L1.out.below hb)
      clear hb L1 c0 f0 d0
      have c0 := L2.out.k4.cell (j := 0) rfl
      have f0 := L2.out.k4.free 0
      have d0 := (L2.out.k4.set 0 (.slice none 0 0)).cell (j := 0) rfl
      go_wp2
      refine bodyPost_ret (v := .tuple #[.agg #[.slice none 0 0], .bool false]) ?_ rfl ?_
      · refine results_tree2 rfl _ _ _ rfl rfl ?_
        exact d0
      · rw [HR.out]; exact ⟨_, rfl, TRow.nil _ _, HNO.out _ _ L2.out.bel⟩
    | true =>
      have HR := hid (edV_yes hr hbo)
      have HBO := hid (implBatchOk_any E a n c l _ (HE.out.below HB1.out))
      rw [hbo] at HBO
      have HBK := hid hbo
      clear hL hr hbo
      go_wp2_with fail
      refine HBO.out.mono ?_
      rintro e w2 ⟨rfl, hb⟩
      have L2 := hid (L1.out.below hb)
      clear hb L1 c0 f0 d0 K1 HB1 HBO
      go_wp2_with fail
      go_loopw [6, 21] (fun p i wr => ∃ (k b : Nat) (t' : T) (S' : Nat → Prop), k ≤ n ∧ p = .pointer (some ⟨b, 0, none⟩) ∧ i = .int .i64 k ∧ Hid (LE w wr S' b t') ∧ Hid (RootI t' t'.all) ∧ Hid (edsT l t = edsT (l.drop k) t')) (fun _ i _ => n - (intOf i).toNat)
      case atStart => exact ⟨0, b, t, _, Nat.zero_le _, rfl, rfl, L2.out, G1.out, rfl⟩
      case round =>
        clear L2 G1
        obtain ⟨k, b, t', S', hk, rfl, rfl, LL, GG, DD⟩ := hrel
        by_cases hlt : k < n
        · have hlt' : (k : Int) < (n : Int) := by omega
          have hkl : k < l.length := by rw [← HEL.out]; exact hlt
          have HEO := hid (bOk_at HBK.out hkl)
          obtain ⟨eb, eo, ha, -, -, hcell⟩ := (HE.out.below LL.out.bel).at (by omega)
          subst ha
          obtain ⟨m0, m1, m2⟩ := hcell k hlt
          clear hcell
          have HSN := hid (fun h => edsT_none l hkl (t := t') h)
          have HSS := hid (fun t'' h => edsT_some l hkl (t := t') (t' := t'') h)
          have HRT := hid (fun t'' h => edT_root GG.out HEO.out (t' := t'') h)
          have HET : Hid (edT t' (eAt l k) = if (eAt l k).2.2 = true then some (rootD (dropF t'.lv t' (eAt l k).1)) else if 200 < (rootT (putF t'.lv t' ((eAt l k).1, (eAt l k).2.1))).all.length then none else some (rootT (putF t'.lv t' ((eAt l k).1, (eAt l k).2.1)))) := rfl
          have HKV := hid (eOk_key HEO.out)
          clear hkl
          generalize eAt l k = cur at *
          obtain ⟨ck, cv, cb⟩ := cur
          have L3 := hid (LL.out.below (below_new (o := .cells #[.string ck, .string cv, .bool cb] 54) (Below.refl _ _)))
          have KE := hid (Bk.new wr 54 [.string ck, .string cv, .bool cb])
          have q0 := KE.out.cell (j := 0) rfl
          have q1 := KE.out.cell (j := 1) rfl
          have q2 := KE.out.cell (j := 2) rfl
          cases cb with
          | true =>
            have HT2 : Hid (edT t' (ck, cv, true) = some (rootD (dropF t'.lv t' ck))) := by show _ = _; rw [HET.out]; rfl
            have D4 : Hid (edsT l t = edsT (l.drop (k + 1)) (rootD (dropF t'.lv t' ck))) := DD.out.trans (HSS.out _ HT2.out)
            have G4 := hid (HRT.out _ HT2.out)
            clear LL HEO HSN HSS HRT HET
            go_wp2_with fail
            refine (rootDrop_any t'.lv S' b t' ck _ L3.out.lb (fun y hy => (L3.out.hs y hy).2) GG.out.inn).mono ?_
            rintro e w4 ⟨b4, rfl, S4, k1, k2, k3⟩
            have L4 := hid (L3.out.turn k1 k2 k3)
            clear k1 k2 k3 L3 KE q0 q1 q2
            go_wp2
            go_roundw
            case rel => exact ⟨k + 1, b4, _, S4, by omega, rfl, by go_num, L4.out, G4.out, D4.out⟩
            case measure => simp [intOf]; omega
          | false =>
            have HSZ : Hid ((rootT (putF t'.lv t' (ck, cv))).all.length ≤ 201) := by
              have := (putV_size GG.out.okT (ck, cv)).1
              exact this
            clear LL HEO
            go_wp2_with fail
            refine (rootPut_any t'.lv S' b t' ck cv _ L3.out.lb (fun y hy => (L3.out.hs y hy).2) GG.out.inn).mono ?_
            rintro e w4 ⟨b4, rfl, S4, k1, k2, k3⟩
            have L4 := hid (L3.out.turn k1 k2 k3)
            clear k1 k2 k3 L3 KE q0 q1 q2
            go_wp2_with fail
            refine (isOverfull_any S4 b4 _ w4 L4.out.lb (fun y hy => (L4.out.hs y hy).2) (by have := HSZ.out; omega)).mono ?_
            rintro e w5 ⟨he, hb⟩
            have L5 := hid (L4.out.below hb)
            clear hb L4
            by_cases hlen : 200 < (rootT (putF t'.lv t' (ck, cv))).all.length
            · rw [decide_eq_true hlen] at he
              subst he
              have HT2 : Hid (edT t' (ck, cv, false) = none) := by show _ = _; rw [HET.out]; simp only [Bool.false_eq_true, if_false]; rw [if_pos hlen]
              have HR2 : Hid (edV ns l = none) := by show _ = _; rw [HR.out, DD.out, HSN.out HT2.out]; rfl
              clear hlen HET HSN HSS HRT
              have c0 := L5.out.k4.cell (j := 0) rfl
              have f0 := L5.out.k4.free 0
              have d0 := (L5.out.k4.set 0 (.slice none 0 0)).cell (j := 0) rfl
              go_wp2
              refine bodyPost_ret (v := .tuple #[.agg #[.slice none 0 0], .bool false]) ?_ rfl ?_
              · refine results_tree2 rfl _ _ _ rfl rfl ?_
                exact d0
              · rw [HR2.out]; exact ⟨_, rfl, TRow.nil _ _, HNO.out _ _ L5.out.bel⟩
            · rw [decide_eq_false hlen] at he
              subst he
              have HT2 : Hid (edT t' (ck, cv, false) = some (rootT (putF t'.lv t' (ck, cv)))) := by show _ = _; rw [HET.out]; simp only [Bool.false_eq_true, if_false]; rw [if_neg hlen]
              have D4 : Hid (edsT l t = edsT (l.drop (k + 1)) (rootT (putF t'.lv t' (ck, cv)))) := DD.out.trans (HSS.out _ HT2.out)
              have G4 := hid (HRT.out _ HT2.out)
              clear hlen HET HSN HSS HRT
              go_wp2
              go_roundw
              case rel => exact ⟨k + 1, b4, _, S4, by omega, rfl, by go_num, L5.out, G4.out, D4.out⟩
              case measure => simp [intOf]; omega
        · have HR2 : Hid (edV ns l = some (layT t')) := by
            show _ = _
            rw [HR.out, DD.out, List.drop_eq_nil_of_le (by rw [← HEL.out]; omega)]
            rfl
          have HSZ := hid GG.out.size
          have HGD := hid GG.out.good
          clear HR DD
          go_wp2_with fail
          refine (treeFrom_any S' b t' wr LL.out.lb (fun y hy => (LL.out.hs y hy).2) HGD.out (by have := HSZ.out.2; omega) (by have := HSZ.out.1; omega)).mono ?_
          rintro e w5 ⟨v5, V, rfl, ⟨hN5, hv5, hb5⟩, hb⟩
          have K5 := hid (LL.out.k4.below hb)
          have HB5 := hid (LL.out.bel.trans (hb.mono LL.out.bel.size))
          obtain ⟨a5, n5, c5, e5, -⟩ := hN5.shape
          subst e5
          have c1 := K5.out.cell (j := 0) rfl
          have f1 := K5.out.free 0
          have d1 := (K5.out.set 0 (.slice a5 n5 c5)).cell (j := 0) rfl
          have hx1 : w.heap.size + 1 < wr.heap.size := LL.out.k4.lt
          have HFIN : Hid (TRow w (w5.setCell ⟨w.heap.size + 1, 0, none⟩ (.slice a5 n5 c5)) (.slice a5 n5 c5) (layT t')) := by
            refine ⟨V, hN5.to (only_set (R := fun y => y = w.heap.size + 1) rfl _) (fun y hy e => ?_) (fun i hi y hy e => ?_), fun y hy => ?_, fun i hi y hy => ?_⟩
            · have := hv5 y hy; omega
            · rcases hb5 i hi y hy with h | h
              · have := (LL.out.hs y h).1; omega
              · omega
            · have := hv5 y hy; omega
            · rcases hb5 i hi y hy with h | h
              · have := (LL.out.hs y h).1; omega
              · omega
          clear hN5 hv5 hb5 hb
          go_wp2
          refine bodyPost_ret (v := .tuple #[.agg #[.slice a5 n5 c5], .bool true]) ?_ rfl ?_
          · refine results_tree2 rfl _ _ _ rfl rfl ?_
            exact d1
          · rw [HR2.out]; exact ⟨_, rfl, HFIN.out, HNO.out _ _ HB5.out⟩
end Go.Proofs.YtkfeefaokghibabGreat
/-
  TreeEdit of the specification.
-/
namespace Go.Proofs.YtkfeefaokghibabGreat
open Go.RowKit
set_option linter.unusedVariables false
/-- What the specification holds between two edits: the result's box, the tree at hand in its box. -/
structure SE (w wr : World) (g : Nat) (a : Option Addr) (n c : Nat) (t : T) : Prop where
  bel : Below w.heap.size w wr
  k4 : Bk wr (w.heap.size + 1) 30 [.slice none 0 0]
  k8 : Bk wr g 30 [.slice a n c]
  nk : NrK wr (fun y => w.heap.size + 1 < y ∧ y ≠ g ∧ y < wr.heap.size) (.slice a n c) (layT t)
  gl : w.heap.size + 1 < g
theorem SE.below {w wr v : World} {g : Nat} {a : Option Addr} {n c : Nat} {t : T} (h : SE w wr g a n c t) (hb : Below wr.heap.size wr v) : SE w v g a n c t :=
  ⟨h.bel.trans (hb.mono h.bel.size), h.k4.below hb, h.k8.below hb, (h.nk.below hb).mono (fun y hy _ => ⟨hy.1, hy.2.1, Nat.lt_of_lt_of_le hy.2.2 hb.size⟩), h.gl⟩
theorem SE.put {w wr v : World} {g : Nat} {a : Option Addr} {n c : Nat} {t : T} (h : SE w wr g a n c t) {a' : Option Addr} {n' c' : Nat} {t' : T} (hb : Below wr.heap.size wr v) (hN : NewK wr v (.slice a' n' c') (layT t')) : SE w (v.setCell ⟨g, 0, none⟩ (.slice a' n' c')) g a' n' c' t' := by
  have hv := h.below hb
  have hg := h.k8.lt
  have hgl := h.gl
  have hsz := h.bel.size
  have o : Only (fun y => y = g) v (v.setCell ⟨g, 0, none⟩ (.slice a' n' c')) := only_set (R := fun y => y = g) rfl _
  refine ⟨hv.bel.setCell (p := ⟨g, 0, none⟩) (by show w.heap.size ≤ g; omega) _, hv.k4.setOther (by omega) _ _, hv.k8.set 0 _, (NrK.to hN o (fun y hy _ e => by have := hy.1; omega)).mono (fun y hy _ => ⟨by have := hy.1; omega, by have := hy.1; omega, by simp [World.setCell]; exact hy.2⟩), hgl⟩
theorem strip_same {t : T} (h : t.ks.length ≠ 1) : strip1 t = t := by rw [strip1_rootD, rootD, if_neg h]
theorem rootI_ks {t : T} {l : List PB} (g : RootI t l) : t.ks.length ≠ 1 := by
  rcases g.good with h | h
  · exact full_ks1 h
  · rw [h]; decide
set_option maxHeartbeats 4000000 in
set_option maxRecDepth 20000 in
theorem specTreeEdit_any (ns : List NB) (hlen : ns.length ≤ 1048576) (hsm : smallN ns) (S E : Nat → Prop) (an : Option Addr) (nn cn : Nat) (a : Option Addr) (n c : Nat) (l : List ED) (w : World) (hN : Nr w S (.slice an nn cn) ns) (hE : Er w E (.slice a n c) l) :
    Calls Tryz.prog 6 #[.agg #[.slice an nn cn], .slice a n c] w fun e w' => STPost (edV ns l) w e w' := by
  have h1 := hN.len.2.1
  have h2 := hN.len.2.2
  have HEL := hid hE.len.1
  have hec := hE.len.2
  have HE := hid hE
  have HB0 : Hid (Below w.heap.size w ((w.alloc (.cells #[.slice an nn cn] 30)).alloc (.cells #[.slice none 0 0] 30))) := below_new (below_new (Below.refl _ _))
  have K0 : Hid (Bk ((w.alloc (.cells #[.slice an nn cn] 30)).alloc (.cells #[.slice none 0 0] 30)) (w.heap.size + 1) 30 [.slice none 0 0]) := by
    have := Bk.new (w.alloc (.cells #[.slice an nn cn] 30)) 30 [.slice none 0 0]
    show Bk _ _ _ _
    simpa using this
  have KA : Hid (Bk ((w.alloc (.cells #[.slice an nn cn] 30)).alloc (.cells #[.slice none 0 0] 30)) w.heap.size 30 [.slice an nn cn]) := (Bk.new w 30 [.slice an nn cn]).alloc _
  have a0 := KA.out.cell (j := 0) rfl
  have H0 := hid (hN.below HB0.out)
  have HLS := hid (And.intro hlen hsm)
  clear hN hlen hsm hE
  have hnot : ∀ (x : Bool) (w : World), (Op.unary .not (.bool x)).run Tryz.prog w = .ok (.bool (!x)) w := fun _ _ => rfl
  have HNO : Hid (∀ (X : World) (u : Value), Below w.heap.size w X → Below w.heap.size w (X.setCell ⟨w.heap.size + 1, 0, none⟩ u)) := fun X u hb => ⟨hb.os, hb.tape, hb.output, by simp [World.setCell]; exact hb.size, fun i hi => (Below.heap_setCell _ _ _ _ (show i ≠ w.heap.size + 1 by omega)).trans (hb.block i hi)⟩
  go_enter Tryz.func6, Tryz.ntmps6
  go_wp2_with fail
  refine (specTreeOk_any ns HLS.out.1 HLS.out.2 S an nn cn _ H0.out).mono ?_
  generalize (w.alloc (.cells #[.slice an nn cn] 30)).alloc (.cells #[.slice none 0 0] 30) = U at *
  rintro e w1 ⟨rfl, hb⟩
  have HB1 := hid (HB0.out.trans (hb.mono HB0.out.size))
  have K1 := hid (K0.out.below hb)
  have KA1 := hid (KA.out.below hb)
  have H1 := hid (H0.out.below hb)
  clear hb HB0 K0 H0 KA a0
  rw [spOk_eq]
  have c0 := K1.out.cell (j := 0) rfl
  have f0 := K1.out.free 0
  have d0 := (K1.out.set 0 (.slice none 0 0)).cell (j := 0) rfl
  cases hr : okT ns with
  | none =>
    have HR := hid (edV_no (l := l) hr)
    clear hr
    go_wp2
    refine bodyPost_ret (v := .tuple #[.agg #[.slice none 0 0], .bool false]) ?_ rfl ?_
    · refine results_tree2 rfl _ _ _ rfl rfl ?_
      exact d0
    · rw [HR.out]; exact ⟨_, _, _, rfl, NewK.nil _ _, HNO.out _ _ HB1.out⟩
  | some t =>
    have HOK := hid (okT_facts hr)
    have G1 := hid (rootI_of hr)
    cases hbo : bOk l with
    | false =>
      have HR := hid (edV_bad (ns := ns) hbo)
      have HBO := hid (specBatchOk_any E a n c l _ (HE.out.below HB1.out))
      rw [hbo] at HBO
      clear hr hbo
      go_wp2_with fail
      refine HBO.out.mono ?_
      rintro e w2 ⟨rfl, hb⟩
      have K2 := hid (K1.out.below hb)
      have HB2 := hid (HB1.out.trans (hb.mono HB1.out.size))
      clear hb K1 HB1 c0 f0 d0
      have c0 := K2.out.cell (j := 0) rfl
      have f0 := K2.out.free 0
      have d0 := (K2.out.set 0 (.slice none 0 0)).cell (j := 0) rfl
      go_wp2
      refine bodyPost_ret (v := .tuple #[.agg #[.slice none 0 0], .bool false]) ?_ rfl ?_
      · refine results_tree2 rfl _ _ _ rfl rfl ?_
        exact d0
      · rw [HR.out]; exact ⟨_, _, _, rfl, NewK.nil _ _, HNO.out _ _ HB2.out⟩
    | true =>
      have HR := hid (edV_yes hr hbo)
      have HBO := hid (specBatchOk_any E a n c l _ (HE.out.below HB1.out))
      rw [hbo] at HBO
      have HBK := hid hbo
      clear hr hbo
      go_wp2_with fail
      refine HBO.out.mono ?_
      rintro e w2 ⟨rfl, hb⟩
      have K2 := hid (K1.out.below hb)
      have KA2 := hid (KA1.out.below hb)
      have HB2 := hid (HB1.out.trans (hb.mono HB1.out.size))
      have H2 := hid (H1.out.below hb)
      clear hb K1 HB1 c0 f0 d0 KA1 H1 HBO
      have g0 := KA2.out.cell (j := 0) rfl
      go_wp2_with fail
      refine (specRoot_any ns HLS.out.1 HLS.out.2 S an nn cn w2 H2.out).mono ?_
      rintro e w3 ⟨hpost, hb⟩
      rw [HOK.out.root] at hpost
      obtain ⟨lf, ap, np, cp, ak, nk, ck, rfl, hs⟩ := hpost
      have HS3 := hid hs
      have HB3 := hid (Below.then' HB2.out hb (Nat.le_refl _))
      have K3 := hid (K2.out.below hb)
      clear hs hb K2 KA2 g0 HB2 H2
      have HB4 := hid (below_new (o := .cells #[.bool lf, .slice ap np cp, .slice ak nk ck] 50) (w := w3) (Below.refl _ _))
      have KS := hid (Bk.new w3 50 [.bool lf, .slice ap np cp, .slice ak nk ck])
      have k0 := KS.out.cell (j := 0) rfl
      have k1 := KS.out.cell (j := 1) rfl
      have k2 := KS.out.cell (j := 2) rfl
      have HST : Hid (strip1 t = t) := strip_same (rootI_ks G1.out)
      have HS4 := hid (HS3.out.kept HB4.out)
      have K4 := hid (K3.out.below HB4.out)
      have HB5 := hid (Below.then' HB3.out HB4.out (Nat.le_refl _))
      have HTR := hid (specTree_any _ lf ap ak np cp nk ck t _ HS4.out (by rw [HST.out]; exact rootI_ks G1.out) (by rw [HST.out]; exact G1.out.good) (by rw [HST.out]; have := G1.out.size.1; omega))
      rw [HST.out] at HTR
      clear HS3 HB3 K3 HB4
      go_wp2_with fail
      refine HTR.out.mono ?_
      generalize w3.alloc (.cells #[.bool lf, .slice ap np cp, .slice ak nk ck] 50) = w4 at *
      rintro e w5 ⟨a5, n5, c5, rfl, hN5, hb⟩
      have E5 : Hid (SE w (w5.alloc (.cells #[.slice a5 n5 c5] 30)) w5.heap.size a5 n5 c5 t) := by
        have hbn := below_new (o := .cells #[.slice a5 n5 c5] 30) (w := w5) (Below.refl _ _)
        have q1 := K4.out.lt
        have q2 := hb.size
        refine ⟨Below.then' (Below.then' HB5.out hb (Nat.le_refl _)) hbn (Nat.le_refl _), (K4.out.below hb).below hbn, Bk.new w5 30 [.slice a5 n5 c5], (NrK.below hN5 hbn).mono (fun y hy _ => ⟨by have := hy.1; omega, by have := hy.2; omega, by have := hy.2; simp; omega⟩), by omega⟩
      clear hN5 hb K4 KS k0 k1 k2 HS4 HB5 HTR
      go_wp2_with fail
      generalize hg : w5.heap.size = g at *
      clear hg
      generalize w5.alloc (.cells #[.slice a5 n5 c5] 30) = w6 at *
      go_loopw [30] (fun i wr => ∃ (k : Nat) (a' : Option Addr) (n' c' : Nat) (t' : T), k ≤ n ∧ i = .int .i64 k ∧ Hid (SE w wr g a' n' c' t') ∧ Hid (RootI t' t'.all) ∧ Hid (edsT l t = edsT (l.drop k) t')) (fun i _ => n - (intOf i).toNat)
      case atStart => exact ⟨0, a5, n5, c5, t, Nat.zero_le _, rfl, E5.out, G1.out, rfl⟩
      case round =>
        clear E5 G1
        obtain ⟨k, a', n', c', t', hk, rfl, LL, GG, DD⟩ := hrel
        by_cases hlt : k < n
        · have hlt' : (k : Int) < (n : Int) := by omega
          have hkl : k < l.length := by rw [← HEL.out]; exact hlt
          have HEO := hid (bOk_at HBK.out hkl)
          obtain ⟨eb, eo, ha, -, -, hcell⟩ := (HE.out.below LL.out.bel).at (by omega)
          subst ha
          obtain ⟨m0, m1, m2⟩ := hcell k hlt
          clear hcell
          have HSN := hid (fun h => edsT_none l hkl (t := t') h)
          have HSS := hid (fun t'' h => edsT_some l hkl (t := t') (t' := t'') h)
          have HRT := hid (fun t'' h => edT_root GG.out HEO.out (t' := t'') h)
          have HET : Hid (edT t' (eAt l k) = if (eAt l k).2.2 = true then some (rootD (dropF t'.lv t' (eAt l k).1)) else if 200 < (rootT (putF t'.lv t' ((eAt l k).1, (eAt l k).2.1))).all.length then none else some (rootT (putF t'.lv t' ((eAt l k).1, (eAt l k).2.1)))) := rfl
          have HKV := hid (eOk_key HEO.out)
          clear hkl
          generalize eAt l k = cur at *
          obtain ⟨ck, cv, cb⟩ := cur
          have L3 := hid (LL.out.below (below_new (o := .cells #[.string ck, .string cv, .bool cb] 54) (Below.refl _ _)))
          have KE := hid (Bk.new wr 54 [.string ck, .string cv, .bool cb])
          have HGW : Hid (g < wr.heap.size) := LL.out.k8.lt
          have hgw := HGW.out
          have q0 := KE.out.cell (j := 0) rfl
          have q1 := KE.out.cell (j := 1) rfl
          have q2 := KE.out.cell (j := 2) rfl
          have r0 := L3.out.k8.cell (j := 0) rfl
          have HSM := hid (rootI_small GG.out)
          cases cb with
          | true =>
            have HT2 : Hid (edT t' (ck, cv, true) = some (rootD (dropF t'.lv t' ck))) := by show _ = _; rw [HET.out]; rfl
            have D4 : Hid (edsT l t = edsT (l.drop (k + 1)) (rootD (dropF t'.lv t' ck))) := DD.out.trans (HSS.out _ HT2.out)
            have G4 := hid (HRT.out _ HT2.out)
            have HDV := hid (dropV_lay GG.out HKV.out.1)
            have HCD := hid (specTreeDrop_any (layT t') HSM.out.2 HSM.out.1 _ a' n' c' ck _ L3.out.nk.nr)
            rw [HDV.out] at HCD
            clear LL HEO HSN HSS HRT HET
            go_wp2_with fail
            refine HCD.out.mono ?_
            rintro e w4 ⟨a4, n4, c4, rfl, hN4, hb⟩
            have L4 := hid (L3.out.put hb hN4)
            have L5 := hid (L3.out.below hb)
            clear hN4 hb L3 KE q0 q1 q2 r0 HCD hgw
            have s0 := L5.out.k8.cell (j := 0) rfl
            have s1 := L5.out.k8.free 0
            clear L5
            go_wp2
            go_roundw
            case rel => exact ⟨k + 1, a4, n4, c4, _, by omega, by go_num, L4.out, G4.out, D4.out⟩
            case measure => simp [intOf]; omega
          | false =>
            have HCD := hid (specTreePut_any (layT t') HSM.out.2 HSM.out.1 _ a' n' c' ck cv _ L3.out.nk.nr)
            rw [putV_lay GG.out HKV.out] at HCD
            clear LL HEO
            by_cases hlen : 200 < (rootT (putF t'.lv t' (ck, cv))).all.length
            · have HT2 : Hid (edT t' (ck, cv, false) = none) := by show _ = _; rw [HET.out]; simp only [Bool.false_eq_true, if_false]; rw [if_pos hlen]
              have HR2 : Hid (edV ns l = none) := by show _ = _; rw [HR.out, DD.out, HSN.out HT2.out]; rfl
              rw [if_pos hlen] at HCD
              clear hlen HET HSN HSS HRT
              go_wp2_with fail
              refine HCD.out.mono ?_
              rintro e w4 ⟨a4, n4, c4, rfl, hN4, hb⟩
              have L5 := hid (L3.out.below hb)
              clear hN4 hb L3 KE q0 q1 q2 r0 HCD hgw
              have s0 := L5.out.k8.cell (j := 0) rfl
              have s1 := L5.out.k8.free 0
              have HNG : Hid (w.heap.size + 1 < g) := L5.out.gl
              have hn1 : ¬ w.heap.size + 1 = g := by have := HNG.out; omega
              have hn2 : ¬ g = w.heap.size + 1 := fun e => hn1 e.symm
              have c0 := L5.out.k4.cell (j := 0) rfl
              have f0 := L5.out.k4.free 0
              go_wp2
              refine bodyPost_ret (v := .tuple #[.agg #[.slice none 0 0], .bool false]) ?_ rfl ?_
              · refine results_tree2 rfl _ _ _ rfl rfl ?_
                go_simp
              · rw [HR2.out]; exact ⟨_, _, _, rfl, NewK.nil _ _, HNO.out _ _ (L5.out.bel.setCell (p := ⟨g, 0, none⟩) (by show w.heap.size ≤ g; have := HNG.out; omega) _)⟩
            · have HT2 : Hid (edT t' (ck, cv, false) = some (rootT (putF t'.lv t' (ck, cv)))) := by show _ = _; rw [HET.out]; simp only [Bool.false_eq_true, if_false]; rw [if_neg hlen]
              have D4 : Hid (edsT l t = edsT (l.drop (k + 1)) (rootT (putF t'.lv t' (ck, cv)))) := DD.out.trans (HSS.out _ HT2.out)
              have G4 := hid (HRT.out _ HT2.out)
              rw [if_neg hlen] at HCD
              clear hlen HET HSN HSS HRT
              go_wp2_with fail
              refine HCD.out.mono ?_
              rintro e w4 ⟨a4, n4, c4, rfl, hN4, hb⟩
              have L4 := hid (L3.out.put hb hN4)
              have L5 := hid (L3.out.below hb)
              clear hN4 hb L3 KE q0 q1 q2 r0 HCD hgw
              have s0 := L5.out.k8.cell (j := 0) rfl
              have s1 := L5.out.k8.free 0
              clear L5
              go_wp2
              go_roundw
              case rel => exact ⟨k + 1, a4, n4, c4, _, by omega, by go_num, L4.out, G4.out, D4.out⟩
              case measure => simp [intOf]; omega
        · have HR2 : Hid (edV ns l = some (layT t')) := by
            show _ = _
            rw [HR.out, DD.out, List.drop_eq_nil_of_le (by rw [← HEL.out]; omega)]
            rfl
          clear HR DD
          have r0 := LL.out.k8.cell (j := 0) rfl
          have c0 := LL.out.k4.cell (j := 0) rfl
          have f0 := LL.out.k4.free 0
          have d1 := (LL.out.k4.set 0 (.slice a' n' c')).cell (j := 0) rfl
          have HFIN : Hid (NewK w (wr.setCell ⟨w.heap.size + 1, 0, none⟩ (.slice a' n' c')) (.slice a' n' c') (layT t')) := (NrK.to LL.out.nk (only_set (R := fun y => y = w.heap.size + 1) rfl _) (fun y hy _ e => by have := hy.1; omega)).mono (fun y hy _ => ⟨by have := hy.1; omega, by simp [World.setCell]; exact hy.2.2⟩)
          go_wp2
          refine bodyPost_ret (v := .tuple #[.agg #[.slice a' n' c'], .bool true]) ?_ rfl ?_
          · refine results_tree2 rfl _ _ _ rfl rfl ?_
            exact d1
          · rw [HR2.out]; exact ⟨_, _, _, rfl, HFIN.out, HNO.out _ _ LL.out.bel⟩
end Go.Proofs.YtkfeefaokghibabGreat
/-
  What the law's helpers do with edits and slices of edits: sizes summed, copied, held against each other.
-/
namespace Go.Proofs.YtkfeefaokghibabGreat
open Go.RowKit
set_option linter.unusedVariables false
theorem infoEditI : (Tryz.prog.info? 54).map (fun i => (i.zero, i.size, i.bytes)) = some (some (.agg #[.string ⟨#[]⟩, .string ⟨#[]⟩, .bool false]), 3, 40) := by kernel_rfl
theorem made_edits (n : Nat) : madeCells (Value.agg #[.string ⟨#[]⟩, .string ⟨#[]⟩, .bool false]).cells (n * 3) = (ecs (List.replicate n (⟨#[]⟩, ⟨#[]⟩, false))).toArray := by
  apply Array.ext
  · simp [madeCells, ecs_length]
  · intro i h1 h2
    simp [ecs_length] at h2
    simp only [madeCells, List.getElem_toArray]
    have hq : eAt (List.replicate n ((⟨#[]⟩, ⟨#[]⟩, false) : ED)) (i / 3) = (⟨#[]⟩, ⟨#[]⟩, false) := by simp [eAt, show i / 3 < n by omega]
    have h0 := ecs_at (List.replicate n ((⟨#[]⟩, ⟨#[]⟩, false) : ED)) (i / 3) (by simp; omega)
    rw [hq] at h0
    have h3 : i % 3 = 0 ∨ i % 3 = 1 ∨ i % 3 = 2 := by omega
    rcases h3 with e | e | e
    · have h4 := List.getElem?_eq_some_iff.1 (show (ecs (List.replicate n ((⟨#[]⟩, ⟨#[]⟩, false) : ED)))[i]? = some (.string ⟨#[]⟩) by rw [show i / 3 * 3 = i by omega] at h0; exact h0.1)
      rw [h4.2]
      simp [Value.cells, e]
    · have h4 := List.getElem?_eq_some_iff.1 (show (ecs (List.replicate n ((⟨#[]⟩, ⟨#[]⟩, false) : ED)))[i]? = some (.string ⟨#[]⟩) by rw [show i / 3 * 3 + 1 = i by omega] at h0; exact h0.2.1)
      rw [h4.2]
      simp [Value.cells, e]
    · have h4 := List.getElem?_eq_some_iff.1 (show (ecs (List.replicate n ((⟨#[]⟩, ⟨#[]⟩, false) : ED)))[i]? = some (.bool false) by rw [show i / 3 * 3 + 2 = i by omega] at h0; exact h0.2.2)
      rw [h4.2]
      simp [Value.cells, e]
/-- The edits as far as copied. -/
def ptE (l : List ED) (k : Nat) : List ED := l.take k ++ List.replicate (l.length - k) (⟨#[]⟩, ⟨#[]⟩, false)
theorem ptE_length (l : List ED) (k : Nat) (h : k ≤ l.length) : (ptE l k).length = l.length := by simp [ptE]; omega
theorem ptE_set (l : List ED) (k : Nat) (h : k < l.length) : (ptE l k).set k (eAt l k) = ptE l (k + 1) := by
  have e : eAt l k = l[k] := by simp [eAt, h]
  rw [e]
  have hl : (l.take k).length = k := by simp; omega
  simp only [ptE]
  rw [List.set_append_right _ _ (by omega), hl]
  have h2 : l.length - k = (l.length - (k + 1)) + 1 := by omega
  rw [List.take_succ_eq_append_getElem h, h2, List.replicate_succ, Nat.sub_self, List.set_cons_zero, List.append_assoc]
  rfl
theorem Bk.er {w : World} {g n : Nat} {T : TypeId} {l : List ED} (h : Bk w g T (ecs l)) (hn : n = l.length) (hc : n ≤ 9223372036854775807) (S : Nat → Prop) (hS : S g) : Er w S (.slice (some ⟨g, 0, none⟩) n n) l := by
  subst hn
  exact h.rw (Nat.le_refl _) hc (fun h0 => by rw [List.eq_nil_of_length_eq_zero h0]; rfl) S hS
theorem results_edit {fn : Func} {p : Tmp} (h : fn.results = #[.cell p 54]) (tmps : Array Value) (w : World) (g : Nat) {k v : ByteArray} {b : Bool} (hp : tmps.getD p undef = .pointer (some ⟨g, 0, none⟩))
    (c0 : w.cell? ⟨g, 0, none⟩ = some (.string k)) (c1 : w.cell? ⟨g, 1, none⟩ = some (.string v)) (c2 : w.cell? ⟨g, 2, none⟩ = some (.bool b)) : (results fn tmps).run Tryz.prog w = .ok (.agg #[.string k, .string v, .bool b]) w := by
  have hp' : tmps[p]?.getD undef = .pointer (some ⟨g, 0, none⟩) := by simpa using hp
  simp [results, h, hp', asAddr, load_edit c0 c1 c2]
theorem toEdit_any (k v : ByteArray) (b : Bool) (w : World) : Calls Tryz.prog 24 #[.agg #[.string k, .string v, .bool b]] w fun e w' => e = .returned (.agg #[.string k, .string v, .bool b]) ∧ Below w.heap.size w w' := by
  go_enter Tryz.func24, Tryz.ntmps24
  go_wp2
  try simp only [Exit.inBlock, Exit.then]
  refine bodyPost_ret (v := .agg #[.string k, .string v, .bool b]) ?_ rfl ?_
  · refine results_edit rfl _ _ _ rfl ?_ ?_ ?_
    · go_simp
    · go_simp
    · go_simp
  · exact ⟨rfl, below_new (below_new (below_new (Below.refl _ _)))⟩
set_option maxHeartbeats 2000000 in
theorem toEditS_at (S : Nat → Prop) (a : Option Addr) (n c : Nat) (l : List ED) (w : World) (h : Er w S (.slice a n c) l) (hnm : n ≤ 1048576) :
    Calls Tryz.prog 8 #[.slice a n c] w fun e w' => e = .returned (.slice (some ⟨w.heap.size, 0, none⟩) n n) ∧ Bk w' w.heap.size 54 (ecs l) ∧ Below w.heap.size w w' := by
  have HN := hid (Rw.len h).1
  have H0 := hid h
  clear h
  have hmk := run_make_n (P := Tryz.prog) 34 54 (.agg #[.string ⟨#[]⟩, .string ⟨#[]⟩, .bool false]) 3 40 Tryz.underlying34 infoEditI n (by omega) (by omega)
  rw [made_edits] at hmk
  have HM : Hid (ecs (List.replicate n (⟨#[]⟩, ⟨#[]⟩, false)) = ecs (ptE l 0)) := by
    show _ = _
    rw [HN.out]; simp [ptE]
  rw [HM.out] at hmk
  have h63 : n ≤ 9223372036854775807 := by omega
  go_enter Tryz.func8, Tryz.ntmps8
  go_wp2
  go_loopw [4] (fun i wr => ∃ k : Nat, k ≤ n ∧ i = .int .i64 k ∧ Hid (Bk wr w.heap.size 54 (ecs (ptE l k))) ∧ Hid (Below w.heap.size w wr)) (fun i _ => n - (intOf i).toNat)
  case atStart => exact ⟨0, Nat.zero_le _, rfl, Bk.new _ _ _, (Below.refl _ _).alloc (Nat.le_refl _) _⟩
  case round =>
    obtain ⟨k, hk, rfl, HK, HB⟩ := hrel
    by_cases hlt : k < n
    · have hlt' : (k : Int) < (n : Int) := by omega
      have HP := hid (H0.out.below HB.out)
      obtain ⟨b, off, rfl, _, hbw, hcell⟩ := HP.out.at (by omega)
      have hck := (hcell k hlt).1
      have hck1 := (hcell k hlt).2.1
      have hck2 := (hcell k hlt).2.2
      have HW : Hid (w.heap.size < wr.heap.size) := HK.out.lt
      have HSET : Hid ((ptE l k).set k (eAt l k) = ptE l (k + 1)) := ptE_set l k (by rw [← HN.out]; exact hlt)
      have HLE : Hid ((ptE l k).length = n) := by show _ = _; rw [ptE_length l k (by rw [← HN.out]; exact hk), ← HN.out]
      clear hcell hbw
      generalize hcur : eAt l k = cur at hck hck1 hck2 HSET
      obtain ⟨ck, cv, cb⟩ := cur
      clear hcur HP
      go_wp2_with fail
      refine (toEdit_any ck cv cb wr).mono ?_
      rintro e w1 ⟨rfl, hb1⟩
      have HK1 := hid (HK.out.below hb1)
      have HB1 := hid (HB.out.trans (hb1.mono HB.out.size))
      clear hb1
      have hc0 := HK1.out.cell (ecs_at (ptE l k) k (by rw [HLE.out]; exact hlt)).1
      have hc1 := HK1.out.cell (ecs_at (ptE l k) k (by rw [HLE.out]; exact hlt)).2.1
      have hc2 := HK1.out.cell (ecs_at (ptE l k) k (by rw [HLE.out]; exact hlt)).2.2
      have hf0 := HK1.out.free (k * 3)
      have hf1 := HK1.out.free (k * 3 + 1)
      have hf2 := HK1.out.free (k * 3 + 2)
      have HK2 : Hid (Bk (((w1.setCell ⟨w.heap.size, k * 3, none⟩ (.string ck)).setCell ⟨w.heap.size, k * 3 + 1, none⟩ (.string cv)).setCell ⟨w.heap.size, k * 3 + 2, none⟩ (.bool cb)) w.heap.size 54 (ecs (ptE l (k + 1)))) := by
        show Bk _ _ _ _
        rw [← HSET.out, ecs_set _ _ _ (by rw [HLE.out]; exact hlt)]
        exact ((HK1.out.set _ _).set _ _).set _ _
      have HB2 : Hid (Below w.heap.size w (((w1.setCell ⟨w.heap.size, k * 3, none⟩ (.string ck)).setCell ⟨w.heap.size, k * 3 + 1, none⟩ (.string cv)).setCell ⟨w.heap.size, k * 3 + 2, none⟩ (.bool cb))) := ((HB1.out.setCell (Nat.le_refl _) _).setCell (Nat.le_refl _) _).setCell (Nat.le_refl _) _
      generalize eAt (ptE l k) k = old at hc0 hc1 hc2
      obtain ⟨o1, o2, o3⟩ := old
      go_wp2
      go_roundw
      case rel => exact ⟨k + 1, by omega, by go_num, HK2.out, HB2.out⟩
      case measure => simp [intOf]; omega
    · have hk' : k = n := by omega
      have HA : Hid (ecs (ptE l k) = ecs l) := by show _ = _; rw [hk', HN.out]; simp [ptE]
      clear hk'
      go_wp2
      go_ret
      refine ⟨rfl, ?_, HB.out⟩
      rw [← HA.out]; exact HK.out
theorem szEdit_any (k v : ByteArray) (b : Bool) (left : Int) (w : World) (h0 : 0 ≤ left) (h1 : left ≤ 1048576) (hk : k.size ≤ 9223372036854775807) (hv : v.size ≤ 9223372036854775807) :
    Calls Tryz.prog 16 #[.agg #[.string k, .string v, .bool b], .int .i64 left] w fun e w' => (∃ x : Int, e = .returned (.int .i64 x) ∧ x ≤ left ∧ -1 ≤ x) ∧ Below w.heap.size w w' := by
  go_enter Tryz.func16, Tryz.ntmps16
  go_wp2
  all_goals (go_ret; exact ⟨⟨_, rfl, by omega, by omega⟩, below_new (Below.refl _ _)⟩)
def szOkE (l : List ED) : Prop := ∀ i, (eAt l i).1.size ≤ 9223372036854775807 ∧ (eAt l i).2.1.size ≤ 9223372036854775807
set_option maxHeartbeats 2000000 in
theorem szEditS_at (S : Nat → Prop) (a : Option Addr) (n c : Nat) (l : List ED) (left : Int) (w : World) (h : Er w S (.slice a n c) l) (hsz : szOkE l) (h0 : 0 ≤ left) (h1 : left ≤ 1048576) :
    Calls Tryz.prog 5 #[.slice a n c, .int .i64 left] w fun e w' => (∃ x : Int, e = .returned (.int .i64 x) ∧ x ≤ left ∧ -1 ≤ x ∧ (0 ≤ x → n ≤ 1048576)) ∧ Below w.heap.size w w' := by
  obtain ⟨hn, hnc, hcc⟩ := Rw.len h
  have HN := hid hn
  have H0 := hid h
  have HZ := hid hsz
  clear h hsz hn
  by_cases hbig : left - (n : Int) < 0
  · go_enter Tryz.func5, Tryz.ntmps5
    go_wp2
    go_ret
    exact ⟨⟨_, rfl, by omega, by omega, fun h => by omega⟩, Below.refl _ _⟩
  · have hn2 : n ≤ 1048576 := by omega
    go_enter Tryz.func5, Tryz.ntmps5
    go_wp2
    go_loopw [1, 5] (fun x i wr => ∃ (k : Nat) (y : Int), k ≤ n ∧ i = .int .i64 k ∧ x = .int .i64 y ∧ 0 ≤ y ∧ y ≤ left ∧ Hid (Below w.heap.size w wr)) (fun _ i _ => n - (intOf i).toNat)
    case atStart => exact ⟨0, _, Nat.zero_le _, rfl, rfl, by omega, by omega, Below.refl _ _⟩
    case round =>
      obtain ⟨k, y, hk, rfl, rfl, hy0, hy1, HB⟩ := hrel
      by_cases hlt : k < n
      · have hlt' : (k : Int) < (n : Int) := by omega
        have HP := hid (H0.out.below HB.out)
        obtain ⟨b, off, rfl, _, hbw, hcell⟩ := HP.out.at (by omega)
        have hck := (hcell k hlt).1
        have hck1 := (hcell k hlt).2.1
        have hck2 := (hcell k hlt).2.2
        have hs := HZ.out k
        clear hcell hbw HP
        generalize eAt l k = cur at hck hck1 hck2 hs
        obtain ⟨ck, cv, cb⟩ := cur
        obtain ⟨hs1, hs2⟩ := hs
        go_wp2_with fail
        refine (szEdit_any ck cv cb y wr hy0 (by omega) hs1 hs2).mono ?_
        rintro e w1 ⟨⟨x, rfl, hx1, hx2⟩, hb1⟩
        have HB1 := hid (HB.out.trans (hb1.mono HB.out.size))
        clear hb1 hs1 hs2 hck hck1 hck2
        by_cases hneg : x < 0
        · go_wp2
          go_ret
          exact ⟨⟨_, rfl, by omega, by omega, fun h => by omega⟩, HB1.out⟩
        · go_wp2
          go_roundw
          case rel => exact ⟨k + 1, x, by omega, by go_num, rfl, by omega, by omega, HB1.out⟩
          case measure => simp [intOf]; omega
      · go_wp2
        go_ret
        exact ⟨⟨_, rfl, by omega, by omega, fun _ => hn2⟩, HB.out⟩
set_option maxHeartbeats 2000000 in
theorem eqEdit_any (k v : ByteArray) (b : Bool) (k' v' : ByteArray) (b' : Bool) (w : World) : Calls Tryz.prog 32 #[.agg #[.string k, .string v, .bool b], .agg #[.string k', .string v', .bool b']] w fun e w' => e = .returned (.bool (decide (((k, v, b) : ED) = (k', v', b')))) ∧ Below w.heap.size w w' := by
  by_cases h1 : k = k'
  · subst h1
    by_cases h2 : v = v'
    · subst h2
      by_cases h3 : b = b'
      · subst h3
        have HE : Hid (decide (((k, v, b) : ED) = (k, v, b)) = true) := by show _ = _; simp
        have t3 : (b != b) = false := by simp
        go_enter Tryz.func32, Tryz.ntmps32
        go_wp2
        go_ret
        exact ⟨by first | rfl | (rw [HE.out]; rfl) | (rw [HE.out]), below_new (below_new (Below.refl _ _))⟩
      · have HE : Hid (decide (((k, v, b) : ED) = (k, v, b')) = false) := by show _ = _; simp [h3]
        cases b with
        | true =>
          cases b' with
          | true => exact absurd rfl h3
          | false =>
            clear h3
            go_enter Tryz.func32, Tryz.ntmps32
            go_wp2
            go_ret
            exact ⟨by rw [HE.out]; rfl, below_new (below_new (Below.refl _ _))⟩
        | false =>
          cases b' with
          | false => exact absurd rfl h3
          | true =>
            clear h3
            go_enter Tryz.func32, Tryz.ntmps32
            go_wp2
            go_ret
            exact ⟨by rw [HE.out]; rfl, below_new (below_new (Below.refl _ _))⟩
    · have HE : Hid (decide (((k, v, b) : ED) = (k, v', b')) = false) := by show _ = _; simp [h2]
      have t := str_beq h2
      clear h2
      go_enter Tryz.func32, Tryz.ntmps32
      go_wp2
      go_ret
      exact ⟨by rw [HE.out]; rfl, below_new (below_new (Below.refl _ _))⟩
  · have HE : Hid (decide (((k, v, b) : ED) = (k', v', b')) = false) := by show _ = _; simp [h1]
    have t := str_beq h1
    clear h1
    go_enter Tryz.func32, Tryz.ntmps32
    go_wp2
    go_ret
    exact ⟨by rw [HE.out]; rfl, below_new (below_new (Below.refl _ _))⟩
set_option maxHeartbeats 2000000 in
theorem eqEditS_at (S S' : Nat → Prop) (a a' : Option Addr) (n n' c c' : Nat) (l l' : List ED) (w : World) (h : Er w S (.slice a n c) l) (h' : Er w S' (.slice a' n' c') l') :
    Calls Tryz.prog 11 #[.slice a n c, .slice a' n' c'] w fun e w' => e = .returned (.bool (decide (l = l'))) ∧ Below w.heap.size w w' := by
  obtain ⟨hn, hnc, hcc⟩ := Rw.len h
  obtain ⟨hn', hnc', hcc'⟩ := Rw.len h'
  have HN := hid hn
  have HN' := hid hn'
  have H0 := hid h
  have H0' := hid h'
  clear h h' hn hn'
  by_cases hne : n = n'
  · subst hne
    have hz : ((n : Int) != (n : Int)) = false := by simp
    go_enter Tryz.func11, Tryz.ntmps11
    go_wp2
    go_loopw [5] (fun i wr => ∃ k : Nat, k ≤ n ∧ i = .int .i64 k ∧ Hid (Below w.heap.size w wr) ∧ Hid (l.take k = l'.take k)) (fun i _ => n - (intOf i).toNat)
    case atStart => exact ⟨0, Nat.zero_le _, rfl, Below.refl _ _, rfl⟩
    case round =>
      obtain ⟨k, hk, rfl, HB, HT⟩ := hrel
      by_cases hlt : k < n
      · have hlt' : (k : Int) < (n : Int) := by omega
        have HP := hid (H0.out.below HB.out)
        have HP' := hid (H0'.out.below HB.out)
        obtain ⟨b, off, rfl, _, hbw, hcell⟩ := HP.out.at (by omega)
        obtain ⟨b', off', rfl, _, hbw', hcell'⟩ := HP'.out.at (by omega)
        have hck := (hcell k hlt).1
        have hck1 := (hcell k hlt).2.1
        have hck2 := (hcell k hlt).2.2
        have hck' := (hcell' k hlt).1
        have hck1' := (hcell' k hlt).2.1
        have hck2' := (hcell' k hlt).2.2
        have HS : Hid (eAt l k = eAt l' k → l.take (k + 1) = l'.take (k + 1)) := by
          intro e
          have hl : k < l.length := by rw [← HN.out]; exact hlt
          have hl' : k < l'.length := by rw [← HN'.out]; exact hlt
          rw [List.take_succ_eq_append_getElem hl, List.take_succ_eq_append_getElem hl', HT.out]
          simp [eAt, hl, hl'] at e
          rw [e]
        have HF : Hid (eAt l k ≠ eAt l' k → decide (l = l') = false) := by
          intro e
          rw [decide_eq_false_iff_not]
          intro e'
          exact e (by rw [e'])
        clear hcell hcell' hbw hbw' HP HP' HT
        generalize eAt l k = cur at *
        generalize eAt l' k = cur' at *
        obtain ⟨ck, cv, cb⟩ := cur
        obtain ⟨ck', cv', cb'⟩ := cur'
        have T0 := hid (kc0_6 hck hck1 hck2 hck' hck1' hck2')
        by_cases he : ((ck, cv, cb) : ED) = (ck', cv', cb')
        · have HS1 := hid (HS.out he)
          have C1 : ∀ v, Calls Tryz.prog 32 #[.agg #[.string ck, .string cv, .bool cb], .agg #[.string ck', .string cv', .bool cb']] v fun e w' => e = .returned (.bool true) ∧ Below v.heap.size v w' := fun v => by
            have := eqEdit_any ck cv cb ck' cv' cb' v
            rwa [decide_eq_true he] at this
          clear he HS HF hck hck1 hck2 hck' hck1' hck2'
          go_wp2_with fail
          go_region_held3 (fun v => v.cell? ⟨b, off + k * 3, none⟩ = some (.string ck) ∧ v.cell? ⟨b, off + k * 3 + 1, none⟩ = some (.string cv) ∧ v.cell? ⟨b, off + k * 3 + 2, none⟩ = some (.bool cb) ∧ v.cell? ⟨b', off' + k * 3, none⟩ = some (.string ck') ∧ v.cell? ⟨b', off' + k * 3 + 1, none⟩ = some (.string cv') ∧ v.cell? ⟨b', off' + k * 3 + 2, none⟩ = some (.bool cb') ∧ KC wr v [(⟨b, off + k * 3, none⟩, .string ck), (⟨b, off + k * 3 + 1, none⟩, .string cv), (⟨b, off + k * 3 + 2, none⟩, .bool cb), (⟨b', off' + k * 3, none⟩, .string ck'), (⟨b', off' + k * 3 + 1, none⟩, .string cv'), (⟨b', off' + k * 3 + 2, none⟩, .bool cb')])
            (first | assumption | exact kc6 (T0.out.call (below_drew _)) | exact kc6c hbC (by assumption))
            (first | (go_at_call 32; refine (C1 _).mono ?_; rintro e w' ⟨rfl, hbC⟩))
          all_goals (rename_i hS; have HB1 := hid (Below.then' HB.out hS.2.2.2.2.2.2.bel (Nat.le_refl _)); clear hS; go_wp2)
          go_roundw
          case rel => exact ⟨k + 1, by omega, by go_num, HB1.out, HS1.out⟩
          case measure => simp [intOf]; omega
        · have HF1 := hid (HF.out he)
          have C1 : ∀ v, Calls Tryz.prog 32 #[.agg #[.string ck, .string cv, .bool cb], .agg #[.string ck', .string cv', .bool cb']] v fun e w' => e = .returned (.bool false) ∧ Below v.heap.size v w' := fun v => by
            have := eqEdit_any ck cv cb ck' cv' cb' v
            rwa [decide_eq_false he] at this
          clear he HS HF hck hck1 hck2 hck' hck1' hck2'
          go_wp2_with fail
          go_region_held3 (fun v => v.cell? ⟨b, off + k * 3, none⟩ = some (.string ck) ∧ v.cell? ⟨b, off + k * 3 + 1, none⟩ = some (.string cv) ∧ v.cell? ⟨b, off + k * 3 + 2, none⟩ = some (.bool cb) ∧ v.cell? ⟨b', off' + k * 3, none⟩ = some (.string ck') ∧ v.cell? ⟨b', off' + k * 3 + 1, none⟩ = some (.string cv') ∧ v.cell? ⟨b', off' + k * 3 + 2, none⟩ = some (.bool cb') ∧ KC wr v [(⟨b, off + k * 3, none⟩, .string ck), (⟨b, off + k * 3 + 1, none⟩, .string cv), (⟨b, off + k * 3 + 2, none⟩, .bool cb), (⟨b', off' + k * 3, none⟩, .string ck'), (⟨b', off' + k * 3 + 1, none⟩, .string cv'), (⟨b', off' + k * 3 + 2, none⟩, .bool cb')])
            (first | assumption | exact kc6 (T0.out.call (below_drew _)) | exact kc6c hbC (by assumption))
            (first | (go_at_call 32; refine (C1 _).mono ?_; rintro e w' ⟨rfl, hbC⟩))
          all_goals (rename_i hS; have HB1 := hid (Below.then' HB.out hS.2.2.2.2.2.2.bel (Nat.le_refl _)); clear hS; go_wp2)
          go_ret
          exact ⟨by rw [HF1.out]; rfl, HB1.out⟩
      · have HF : Hid (decide (l = l') = true) := by
          show decide (l = l') = true
          have hk' : k = n := by omega
          have e := HT.out
          have e1 : l.length ≤ k := by rw [← HN.out]; omega
          have e2 : l'.length ≤ k := by rw [← HN'.out]; omega
          rw [List.take_of_length_le e1, List.take_of_length_le e2] at e
          simp [e]
        clear HT
        go_wp2
        go_ret
        exact ⟨by rw [HF.out]; rfl, HB.out⟩
  · have hz : ((n : Int) != (n' : Int)) = true := by simp; omega
    have HF : Hid (decide (l = l') = false) := by
      show decide (l = l') = false
      rw [decide_eq_false_iff_not]
      intro e
      exact hne (by rw [HN.out, HN'.out, e])
    clear hne
    go_enter Tryz.func11, Tryz.ntmps11
    go_wp2
    go_ret
    exact ⟨by rw [HF.out]; rfl, Below.refl _ _⟩
end Go.Proofs.YtkfeefaokghibabGreat
/-
  markEditS: the row's cells turn, nothing else.
-/
namespace Go.Proofs.YtkfeefaokghibabGreat
open Go.RowKit
set_option linter.unusedVariables false
set_option maxHeartbeats 4000000 in
theorem markEditS_any (g n k : Nat) (xs : List Value) (w : World) (h : Bk w g 54 xs) (hl : xs.length = n * 3) (hn : n ≤ 1048576) (hk0 : 0 < k) (hk : k ≤ 576460752303423488) :
    Calls Tryz.prog 13 #[.slice (some ⟨g, 0, none⟩) n n, .int .i64 k] w fun e w' => e = .returned (.int .i64 ((k + n * 3 : Nat) : Int)) ∧ Only (fun y => y = g) w w' := by
  have HB := hid h
  have HL := hid hl
  clear h hl
  go_enter Tryz.func13, Tryz.ntmps13
  go_wp2_with fail
  go_loopw [1, 5] (fun x i wr => ∃ (j : Nat) (ys : List Value), x = .int .i64 ((k + j * 3 : Nat) : Int) ∧ i = .int .i64 j ∧ j ≤ n ∧ Hid (Bk wr g 54 ys) ∧ Hid (ys.length = n * 3) ∧ Hid (Only (fun y => y = g) w wr)) (fun _ i _ => n - (intOf i).toNat)
  case atStart => exact ⟨0, xs, rfl, rfl, Nat.zero_le _, HB.out, HL.out, Only.refl _ _⟩
  case round =>
    clear HB HL
    obtain ⟨j, ys, rfl, rfl, hj, KB, KL, KO⟩ := hrel
    by_cases hlt : j < n
    · have hlt' : (j : Int) < (n : Int) := by omega
      generalize hkz : k + j * 3 = kz
      have hkz0 : 0 < kz := by omega
      have hkz1 : kz ≤ 576460755400575488 := by omega
      have HK := hid hkz
      clear hkz
      have HAT : Hid (∀ i, i < n * 3 → ∃ u, ys[i]? = some u) := fun i hi => ⟨ys[i]'(by rw [KL.out]; exact hi), by simp [KL.out, hi]⟩
      go_wp2_with fail
      refine (markText_at kz (kz : Int) rfl wr hkz0 (by omega)).mono ?_
      rintro e w1 ⟨rfl, hb1⟩
      have B1 := hid (KB.out.below hb1)
      have O1 := hid (KO.out.trans (only_of_below hb1 _))
      clear hb1 KB KO
      obtain ⟨u0, hu0⟩ := HAT.out (j * 3) (by omega)
      have c0 := B1.out.cell hu0
      have f0 := B1.out.free (j * 3)
      have B2 := hid (B1.out.set (j * 3) (.string (mt kz)))
      have O2 : Hid (Only (fun y => y = g) w (w1.setCell ⟨g, j * 3, none⟩ (.string (mt kz)))) := O1.out.trans (only_set (R := fun y => y = g) rfl _)
      clear B1 O1 hu0
      generalize mt kz = m0 at *
      go_wp2_with fail
      refine (markText_at (kz + 1) ((kz : Int) + 1) (by omega) _ (by omega) (by omega)).mono ?_
      generalize w1.setCell ⟨g, j * 3, none⟩ (.string m0) = w2 at *
      rintro e w3 ⟨rfl, hb1⟩
      have B3 := hid (B2.out.below hb1)
      have O3 := hid (O2.out.trans (only_of_below hb1 _))
      clear hb1 B2 O2 c0 f0
      obtain ⟨u1, hu1⟩ := HAT.out (j * 3 + 1) (by omega)
      have c1 := B3.out.cell (j := j * 3 + 1) (u := u1) (by rw [List.getElem?_set_ne (by omega)]; exact hu1)
      have f1 := B3.out.free (j * 3 + 1)
      have B4 := hid (B3.out.set (j * 3 + 1) (.string (mt (kz + 1))))
      have O4 : Hid (Only (fun y => y = g) w (w3.setCell ⟨g, j * 3 + 1, none⟩ (.string (mt (kz + 1))))) := O3.out.trans (only_set (R := fun y => y = g) rfl _)
      obtain ⟨u2, hu2⟩ := HAT.out (j * 3 + 2) (by omega)
      have c2 := B3.out.cell (j := j * 3 + 2) (u := u2) (by rw [List.getElem?_set_ne (by omega)]; exact hu2)
      have f2 := B3.out.free (j * 3 + 2)
      have HF : Hid (∀ b : Bool, ∃ zs : List Value, Bk ((w3.setCell ⟨g, j * 3 + 1, none⟩ (.string (mt (kz + 1)))).setCell ⟨g, j * 3 + 2, none⟩ (.bool b)) g 54 zs ∧ zs.length = n * 3 ∧ Only (fun y => y = g) w ((w3.setCell ⟨g, j * 3 + 1, none⟩ (.string (mt (kz + 1)))).setCell ⟨g, j * 3 + 2, none⟩ (.bool b))) := fun b =>
        ⟨_, B4.out.set (j * 3 + 2) (.bool b), by simp [KL.out], O4.out.trans (only_set (R := fun y => y = g) rfl _)⟩
      clear B3 O3 B4 O4 hu1 hu2 HAT
      generalize mt (kz + 1) = m1 at *
      have hw1 : IntKind.i64.wrap ((kz : Int) + 1) = (kz : Int) + 1 := by simp [IntKind.wrap, IntKind.signed, IntKind.bits]; omega
      have hw2 : IntKind.i64.wrap ((kz : Int) + 1 + 1) = (kz : Int) + 1 + 1 := by simp [IntKind.wrap, IntKind.signed, IntKind.bits]; omega
      go_wp2
      go_roundw
      case rel =>
        obtain ⟨zs, z1, z2, z3⟩ := HF.out _
        exact ⟨j + 1, zs, by rw [← HK.out]; congr 1; omega, by go_num, by omega, z1, z2, z3⟩
      case measure => simp [intOf]; omega
    · have HE : Hid (j = n) := by show _ = _; omega
      go_wp2
      go_ret
      exact ⟨by rw [HE.out]; rfl, KO.out⟩
end Go.Proofs.YtkfeefaokghibabGreat
/-
  Nodes and trees held against each other.
-/
namespace Go.Proofs.YtkfeefaokghibabGreat
open Go.RowKit
set_option maxHeartbeats 2000000 in
theorem eqNode_any (S S' : Nat → Prop) (ap ax ai ap' ax' ai' : Option Addr) (np cp nx cx ni ci np' cp' nx' cx' ni' ci' : Nat) (x y : NB) (w : World)
    (hP : Pr w S (.slice ap np cp) x.ps) (hS : Sr w S (.slice ax nx cx) x.keys) (hI : Ir w S (.slice ai ni ci) x.kids) (hP' : Pr w S' (.slice ap' np' cp') y.ps) (hS' : Sr w S' (.slice ax' nx' cx') y.keys) (hI' : Ir w S' (.slice ai' ni' ci') y.kids) :
    Calls Tryz.prog 59 #[.agg #[.slice ap np cp, .slice ax nx cx, .slice ai ni ci], .agg #[.slice ap' np' cp', .slice ax' nx' cx', .slice ai' ni' ci']] w fun e w' => e = .returned (.bool (decide (x = y))) ∧ Below w.heap.size w w' := by
  have HP := hid hP
  have HS := hid hS
  have HI := hid hI
  have HP' := hid hP'
  have HS' := hid hS'
  have HI' := hid hI'
  clear hP hS hI hP' hS' hI'
  have HB0 : Hid (Below w.heap.size w ((w.alloc (.cells #[.slice ap np cp, .slice ax nx cx, .slice ai ni ci] 84)).alloc (.cells #[.slice ap' np' cp', .slice ax' nx' cx', .slice ai' ni' ci'] 84))) := below_new (below_new (Below.refl _ _))
  have KA : Hid (Bk ((w.alloc (.cells #[.slice ap np cp, .slice ax nx cx, .slice ai ni ci] 84)).alloc (.cells #[.slice ap' np' cp', .slice ax' nx' cx', .slice ai' ni' ci'] 84)) w.heap.size 84 [.slice ap np cp, .slice ax nx cx, .slice ai ni ci]) := (Bk.new w 84 [.slice ap np cp, .slice ax nx cx, .slice ai ni ci]).alloc _
  have KB : Hid (Bk ((w.alloc (.cells #[.slice ap np cp, .slice ax nx cx, .slice ai ni ci] 84)).alloc (.cells #[.slice ap' np' cp', .slice ax' nx' cx', .slice ai' ni' ci'] 84)) (w.heap.size + 1) 84 [.slice ap' np' cp', .slice ax' nx' cx', .slice ai' ni' ci']) := by
    have := Bk.new (w.alloc (.cells #[.slice ap np cp, .slice ax nx cx, .slice ai ni ci] 84)) 84 [.slice ap' np' cp', .slice ax' nx' cx', .slice ai' ni' ci']
    show Bk _ _ _ _
    simpa using this
  go_enter Tryz.func59, Tryz.ntmps59
  go_wp2_with fail
  refine (eqPairS_at S S' ap ap' np np' cp cp' x.ps y.ps _ (HP.out.below HB0.out) (HP'.out.below HB0.out)).mono ?_
  generalize (w.alloc (.cells #[.slice ap np cp, .slice ax nx cx, .slice ai ni ci] 84)).alloc (.cells #[.slice ap' np' cp', .slice ax' nx' cx', .slice ai' ni' ci'] 84) = W at *
  rintro e w1 ⟨rfl, hb1⟩
  have HB1 := hid (HB0.out.trans (hb1.mono HB0.out.size))
  have KA1 := hid (KA.out.below hb1)
  have KB1 := hid (KB.out.below hb1)
  clear hb1 HB0 KA KB
  by_cases h1 : x.ps = y.ps
  · rw [decide_eq_true h1]
    have HH1 := hid h1
    clear h1
    have c0 := KA1.out.cell (j := 1) rfl
    have d0 := KB1.out.cell (j := 1) rfl
    go_wp2_with fail
    refine (eqStringS_at S S' ax ax' nx nx' cx cx' x.keys y.keys _ (HS.out.below HB1.out) (HS'.out.below HB1.out)).mono ?_
    rintro e w2 ⟨rfl, hb2⟩
    have HB2 := hid (HB1.out.trans (hb2.mono HB1.out.size))
    have KA2 := hid (KA1.out.below hb2)
    have KB2 := hid (KB1.out.below hb2)
    clear hb2 HB1 KA1 KB1 c0 d0
    by_cases h2 : x.keys = y.keys
    · rw [decide_eq_true h2]
      have HH2 := hid h2
      clear h2
      have c0 := KA2.out.cell (j := 2) rfl
      have d0 := KB2.out.cell (j := 2) rfl
      go_wp2_with fail
      refine (eqIntS_at S S' ai ai' ni ni' ci ci' x.kids y.kids _ (HI.out.below HB2.out) (HI'.out.below HB2.out)).mono ?_
      rintro e w3 ⟨rfl, hb3⟩
      have HB3 := hid (HB2.out.trans (hb3.mono HB2.out.size))
      clear hb3 HB2 KA2 KB2 c0 d0
      by_cases h3 : x.kids = y.kids
      · rw [decide_eq_true h3]
        have HF : Hid (decide (x = y) = true) := by
          show _ = _
          rw [decide_eq_true_eq]
          have e1 := HH1.out
          have e2 := HH2.out
          cases x; cases y; simp_all
        clear h3
        go_wp2
        go_ret
        exact ⟨by rw [HF.out]; rfl, HB3.out⟩
      · rw [decide_eq_false h3]
        have HF : Hid (decide (x = y) = false) := by
          show _ = _
          rw [decide_eq_false_iff_not]
          rintro rfl
          exact h3 rfl
        clear h3
        go_wp2
        go_ret
        exact ⟨by rw [HF.out]; rfl, HB3.out⟩
    · rw [decide_eq_false h2]
      have HF : Hid (decide (x = y) = false) := by
        show _ = _
        rw [decide_eq_false_iff_not]
        rintro rfl
        exact h2 rfl
      clear h2
      go_wp2
      go_ret
      exact ⟨by rw [HF.out]; rfl, HB2.out⟩
  · rw [decide_eq_false h1]
    have HF : Hid (decide (x = y) = false) := by
      show _ = _
      rw [decide_eq_false_iff_not]
      rintro rfl
      exact h1 rfl
    clear h1
    go_wp2
    go_ret
    exact ⟨by rw [HF.out]; rfl, HB1.out⟩
set_option maxHeartbeats 4000000 in
theorem eqNodeS_at (S S' : Nat → Prop) (a a' : Option Addr) (n n' c c' : Nat) (l l' : List NB) (w : World) (h : Nr w S (.slice a n c) l) (h' : Nr w S' (.slice a' n' c') l') :
    Calls Tryz.prog 31 #[.slice a n c, .slice a' n' c'] w fun e w' => e = .returned (.bool (decide (l = l'))) ∧ Below w.heap.size w w' := by
  obtain ⟨hn, hnc, hcc⟩ := h.len
  obtain ⟨hn', hnc', hcc'⟩ := h'.len
  have HN := hid hn
  have HN' := hid hn'
  have H0 := hid h
  have H0' := hid h'
  clear h h' hn hn'
  by_cases hne : n = n'
  · subst hne
    have hz : ((n : Int) != (n : Int)) = false := by simp
    go_enter Tryz.func31, Tryz.ntmps31
    go_wp2
    go_loopw [5] (fun i wr => ∃ k : Nat, k ≤ n ∧ i = .int .i64 k ∧ Hid (Below w.heap.size w wr) ∧ Hid (l.take k = l'.take k)) (fun i _ => n - (intOf i).toNat)
    case atStart => exact ⟨0, Nat.zero_le _, rfl, Below.refl _ _, rfl⟩
    case round =>
      obtain ⟨k, hk, rfl, HB, HT⟩ := hrel
      by_cases hlt : k < n
      · have hlt' : (k : Int) < (n : Int) := by omega
        have HP := hid (H0.out.below HB.out)
        have HP' := hid (H0'.out.below HB.out)
        obtain ⟨b, off, rfl, _, hbw, hcell⟩ := HP.out.at (by omega)
        obtain ⟨b', off', rfl, _, hbw', hcell'⟩ := HP'.out.at (by omega)
        obtain ⟨ap, np, cp, ax, nx, cx, ai, ni, ci, c0, c1, c2, hp, hx, hi⟩ := hcell k hlt
        obtain ⟨ap', np', cp', ax', nx', cx', ai', ni', ci', d0, d1, d2, hp', hx', hi'⟩ := hcell' k hlt
        have HC : Hid (∀ v, Below wr.heap.size wr v → Calls Tryz.prog 59 #[.agg #[.slice ap np cp, .slice ax nx cx, .slice ai ni ci], .agg #[.slice ap' np' cp', .slice ax' nx' cx', .slice ai' ni' ci']] v fun e w' => e = .returned (.bool (decide (nAt l k = nAt l' k))) ∧ Below v.heap.size v w') := fun v hv =>
          eqNode_any S S' ap ax ai ap' ax' ai' np cp nx cx ni ci np' cp' nx' cx' ni' ci' (nAt l k) (nAt l' k) v (hp.below hv) (hx.below hv) (hi.below hv) (hp'.below hv) (hx'.below hv) (hi'.below hv)
        have HS : Hid (nAt l k = nAt l' k → l.take (k + 1) = l'.take (k + 1)) := by
          intro e
          have hl : k < l.length := by rw [← HN.out]; exact hlt
          have hl' : k < l'.length := by rw [← HN'.out]; exact hlt
          rw [List.take_succ_eq_append_getElem hl, List.take_succ_eq_append_getElem hl', HT.out]
          simp [nAt, hl, hl'] at e
          rw [e]
        have HF : Hid (nAt l k ≠ nAt l' k → decide (l = l') = false) := by
          intro e
          rw [decide_eq_false_iff_not]
          intro e'
          exact e (by rw [e'])
        have T0 := hid (kc0_6 c0 c1 c2 d0 d1 d2)
        clear hcell hcell' hbw hbw' HP HP' HT hp hx hi hp' hx' hi' c0 c1 c2 d0 d1 d2
        generalize nAt l k = cx1 at *
        generalize nAt l' k = cx2 at *
        by_cases he : cx1 = cx2
        · have HS1 := hid (HS.out he)
          rw [decide_eq_true he] at HC
          clear he HS HF
          go_wp2_with fail
          go_region_held3 (fun v => v.cell? ⟨b, off + k * 3, none⟩ = some (.slice ap np cp) ∧ v.cell? ⟨b, off + k * 3 + 1, none⟩ = some (.slice ax nx cx) ∧ v.cell? ⟨b, off + k * 3 + 2, none⟩ = some (.slice ai ni ci) ∧ v.cell? ⟨b', off' + k * 3, none⟩ = some (.slice ap' np' cp') ∧ v.cell? ⟨b', off' + k * 3 + 1, none⟩ = some (.slice ax' nx' cx') ∧ v.cell? ⟨b', off' + k * 3 + 2, none⟩ = some (.slice ai' ni' ci') ∧ KC wr v [(⟨b, off + k * 3, none⟩, .slice ap np cp), (⟨b, off + k * 3 + 1, none⟩, .slice ax nx cx), (⟨b, off + k * 3 + 2, none⟩, .slice ai ni ci), (⟨b', off' + k * 3, none⟩, .slice ap' np' cp'), (⟨b', off' + k * 3 + 1, none⟩, .slice ax' nx' cx'), (⟨b', off' + k * 3 + 2, none⟩, .slice ai' ni' ci')])
            (first | assumption | exact kc6 (T0.out.call (below_drew _)) | exact kc6c hbC (by assumption))
            (first | (go_at_call 59; refine (HC.out _ (KC.bel (by first | exact (by assumption : _ ∧ _ ∧ _ ∧ _ ∧ _ ∧ _ ∧ _).2.2.2.2.2.2))).mono ?_; rintro e w' ⟨rfl, hbC⟩))
          all_goals (rename_i hS; have HB1 := hid (Below.then' HB.out hS.2.2.2.2.2.2.bel (Nat.le_refl _)); clear hS; go_wp2)
          go_roundw
          case rel => exact ⟨k + 1, by omega, by go_num, HB1.out, HS1.out⟩
          case measure => simp [intOf]; omega
        · have HF1 := hid (HF.out he)
          rw [decide_eq_false he] at HC
          clear he HS HF
          go_wp2_with fail
          go_region_held3 (fun v => v.cell? ⟨b, off + k * 3, none⟩ = some (.slice ap np cp) ∧ v.cell? ⟨b, off + k * 3 + 1, none⟩ = some (.slice ax nx cx) ∧ v.cell? ⟨b, off + k * 3 + 2, none⟩ = some (.slice ai ni ci) ∧ v.cell? ⟨b', off' + k * 3, none⟩ = some (.slice ap' np' cp') ∧ v.cell? ⟨b', off' + k * 3 + 1, none⟩ = some (.slice ax' nx' cx') ∧ v.cell? ⟨b', off' + k * 3 + 2, none⟩ = some (.slice ai' ni' ci') ∧ KC wr v [(⟨b, off + k * 3, none⟩, .slice ap np cp), (⟨b, off + k * 3 + 1, none⟩, .slice ax nx cx), (⟨b, off + k * 3 + 2, none⟩, .slice ai ni ci), (⟨b', off' + k * 3, none⟩, .slice ap' np' cp'), (⟨b', off' + k * 3 + 1, none⟩, .slice ax' nx' cx'), (⟨b', off' + k * 3 + 2, none⟩, .slice ai' ni' ci')])
            (first | assumption | exact kc6 (T0.out.call (below_drew _)) | exact kc6c hbC (by assumption))
            (first | (go_at_call 59; refine (HC.out _ (KC.bel (by first | exact (by assumption : _ ∧ _ ∧ _ ∧ _ ∧ _ ∧ _ ∧ _).2.2.2.2.2.2))).mono ?_; rintro e w' ⟨rfl, hbC⟩))
          all_goals (rename_i hS; have HB1 := hid (Below.then' HB.out hS.2.2.2.2.2.2.bel (Nat.le_refl _)); clear hS; go_wp2)
          go_ret
          exact ⟨by rw [HF1.out]; rfl, HB1.out⟩
      · have HF : Hid (decide (l = l') = true) := by
          show decide (l = l') = true
          have hk' : k = n := by omega
          have e := HT.out
          have e1 : l.length ≤ k := by rw [← HN.out]; omega
          have e2 : l'.length ≤ k := by rw [← HN'.out]; omega
          rw [List.take_of_length_le e1, List.take_of_length_le e2] at e
          simp [e]
        clear HT
        go_wp2
        go_ret
        exact ⟨by rw [HF.out]; rfl, HB.out⟩
  · have hz : ((n : Int) != (n' : Int)) = true := by simp; omega
    have HF : Hid (decide (l = l') = false) := by
      show decide (l = l') = false
      rw [decide_eq_false_iff_not]
      intro e
      exact hne (by rw [HN.out, HN'.out, e])
    clear hne
    go_enter Tryz.func31, Tryz.ntmps31
    go_wp2
    go_ret
    exact ⟨by rw [HF.out]; rfl, Below.refl _ _⟩
set_option maxHeartbeats 2000000 in
theorem eqTree_at (S S' : Nat → Prop) (a a' : Option Addr) (n n' c c' : Nat) (l l' : List NB) (w : World) (h : Nr w S (.slice a n c) l) (h' : Nr w S' (.slice a' n' c') l') :
    Calls Tryz.prog 10 #[.agg #[.slice a n c], .agg #[.slice a' n' c']] w fun e w' => e = .returned (.bool (decide (l = l'))) ∧ Below w.heap.size w w' := by
  have H0 := hid h
  have H0' := hid h'
  clear h h'
  have HB0 : Hid (Below w.heap.size w ((w.alloc (.cells #[.slice a n c] 30)).alloc (.cells #[.slice a' n' c'] 30))) := below_new (below_new (Below.refl _ _))
  go_enter Tryz.func10, Tryz.ntmps10
  go_wp2_with fail
  refine (eqNodeS_at S S' a a' n n' c c' l l' _ (H0.out.below HB0.out) (H0'.out.below HB0.out)).mono ?_
  rintro e w1 ⟨rfl, hb1⟩
  have HB1 := hid (HB0.out.trans (hb1.mono HB0.out.size))
  clear hb1 HB0
  by_cases he : l = l'
  · have HE := hid (decide_eq_true he)
    rw [decide_eq_true he]
    clear he
    go_wp2
    go_ret
    exact ⟨by rw [HE.out]; rfl, HB1.out⟩
  · have HE := hid (decide_eq_false he)
    rw [decide_eq_false he]
    clear he
    go_wp2
    go_ret
    exact ⟨by rw [HE.out]; rfl, HB1.out⟩
end Go.Proofs.YtkfeefaokghibabGreat
/-
  Nodes and trees in the law's helpers: sizes summed, held against each other.
-/
namespace Go.Proofs.YtkfeefaokghibabGreat
open Go.RowKit

def szOkN (ns : List NB) : Prop := ∀ i, i < ns.length → szOkP (nAt ns i).ps ∧ szOkS (nAt ns i).keys
set_option maxHeartbeats 2000000 in
theorem szNode_any (S : Nat → Prop) (ap ax ai : Option Addr) (np cp nx cx ni ci : Nat) (x : NB) (left : Int) (w : World) (hP : Pr w S (.slice ap np cp) x.ps) (hS : Sr w S (.slice ax nx cx) x.keys) (hI : Ir w S (.slice ai ni ci) x.kids)
    (z0 : szOkP x.ps) (z1 : szOkS x.keys) (h0 : 0 ≤ left) (h1 : left ≤ 1048576) :
    Calls Tryz.prog 36 #[.agg #[.slice ap np cp, .slice ax nx cx, .slice ai ni ci], .int .i64 left] w fun e w' => (∃ y : Int, e = .returned (.int .i64 y) ∧ y ≤ left ∧ -1 ≤ y ∧ (0 ≤ y → np ≤ 1048576 ∧ nx ≤ 1048576 ∧ ni ≤ 1048576)) ∧ Below w.heap.size w w' := by
  have hnc := (Rw.len hI).2.1
  have hcc := (Rw.len hI).2.2
  have HP := hid hP
  have HS := hid hS
  have HZ0 := hid z0
  have HZ1 := hid z1
  clear hP hS hI z0 z1
  have HB0 : Hid (Below w.heap.size w (w.alloc (.cells #[.slice ap np cp, .slice ax nx cx, .slice ai ni ci] 76))) := below_new (Below.refl _ _)
  have KP : Hid (Bk (w.alloc (.cells #[.slice ap np cp, .slice ax nx cx, .slice ai ni ci] 76)) w.heap.size 76 [.slice ap np cp, .slice ax nx cx, .slice ai ni ci]) := Bk.new w 76 [.slice ap np cp, .slice ax nx cx, .slice ai ni ci]
  go_enter Tryz.func36, Tryz.ntmps36
  go_wp2_with fail
  refine (szPairS_at S ap np cp x.ps left _ (HP.out.below HB0.out) HZ0.out h0 h1).mono ?_
  generalize w.alloc (.cells #[.slice ap np cp, .slice ax nx cx, .slice ai ni ci] 76) = W at *
  rintro e w1 ⟨⟨y, rfl, hy1, hy2, hy3⟩, hb1⟩
  have HB1 := hid (HB0.out.trans (hb1.mono HB0.out.size))
  have KP1 := hid (KP.out.below hb1)
  have HY := hid hy3
  clear hb1 KP HB0 hy3
  by_cases hneg : y < 0
  · go_wp2
    go_ret
    exact ⟨⟨_, rfl, by omega, by omega, fun h => by omega⟩, HB1.out⟩
  · have c1 := KP1.out.cell (j := 1) rfl
    go_wp2_with fail
    refine (szStringS_at S ax nx cx x.keys y _ (HS.out.below HB1.out) HZ1.out (by omega) (by omega)).mono ?_
    rintro e w2 ⟨⟨z, rfl, hz1, hz2, hz3⟩, hb2⟩
    have HB2 := hid (HB1.out.trans (hb2.mono HB1.out.size))
    have KP2 := hid (KP1.out.below hb2)
    have HZ := hid hz3
    clear hb2 KP1 HB1 hz3 c1
    by_cases hneg2 : z < 0
    · go_wp2
      go_ret
      exact ⟨⟨_, rfl, by omega, by omega, fun h => by omega⟩, HB2.out⟩
    · have c2 := KP2.out.cell (j := 2) rfl
      go_wp2_with fail
      refine (szIntS_at ai ni ci z _ (by omega) (by omega) (by omega)).mono ?_
      rintro e w3 ⟨⟨v, rfl, hv1, hv2, hv3⟩, hb3⟩
      have HB3 := hid (HB2.out.trans (hb3.mono HB2.out.size))
      have HV := hid hv3
      clear hb3 KP2 HB2 hv3 c2
      by_cases hneg3 : v < 0
      · go_wp2
        go_ret
        exact ⟨⟨_, rfl, by omega, by omega, fun h => by omega⟩, HB3.out⟩
      · go_wp2
        go_ret
        exact ⟨⟨_, rfl, by omega, by omega, fun _ => ⟨HY.out (by omega), HZ.out (by omega), HV.out (by omega)⟩⟩, HB3.out⟩
set_option maxHeartbeats 2000000 in
theorem szNodeS_at (S : Nat → Prop) (a : Option Addr) (n c : Nat) (ns : List NB) (w : World) (h : Nr w S (.slice a n c) ns) (hsz : szOkN ns) :
    Calls Tryz.prog 15 #[.slice a n c, .int .i64 1048576] w fun e w' => (∃ x : Int, e = .returned (.int .i64 x) ∧ x ≤ 1048576 ∧ -1 ≤ x ∧ (0 ≤ x → n ≤ 1048576 ∧ smallN ns)) ∧ Below w.heap.size w w' := by
  obtain ⟨hn, hnc, hcc⟩ := h.len
  have HN := hid hn
  have H0 := hid h
  have HZ := hid hsz
  clear h hsz hn
  by_cases hbig : (1048576 : Int) - (n : Int) < 0
  · go_enter Tryz.func15, Tryz.ntmps15
    go_wp2
    go_ret
    exact ⟨⟨_, rfl, by omega, by omega, fun h => by omega⟩, Below.refl _ _⟩
  · have hn2 : n ≤ 1048576 := by omega
    go_enter Tryz.func15, Tryz.ntmps15
    go_wp2
    go_loopw [1, 5] (fun x i wr => ∃ (k : Nat) (y : Int), k ≤ n ∧ i = .int .i64 k ∧ x = .int .i64 y ∧ 0 ≤ y ∧ y ≤ 1048576 ∧ Hid (∀ i, i < k → (nAt ns i).ps.length ≤ 1048576 ∧ (nAt ns i).keys.length ≤ 1048576 ∧ (nAt ns i).kids.length ≤ 1048576) ∧ Hid (Below w.heap.size w wr)) (fun _ i _ => n - (intOf i).toNat)
    case atStart => exact ⟨0, _, Nat.zero_le _, rfl, rfl, by omega, by omega, fun i hi => absurd hi (Nat.not_lt_zero _), Below.refl _ _⟩
    case round =>
      obtain ⟨k, y, hk, rfl, rfl, hy0, hy1, HS, HB⟩ := hrel
      by_cases hlt : k < n
      · have hlt' : (k : Int) < (n : Int) := by omega
        have HP := hid (H0.out.below HB.out)
        obtain ⟨b, off, rfl, _, hbw, hcell⟩ := HP.out.at (by omega)
        obtain ⟨ap, np, cp, ax, nx, cx, ai, ni, ci, c0, c1, c2, hp, hx, hi⟩ := hcell k hlt
        have HPp := hid hp
        have HPx := hid hx
        have HPi := hid hi
        have l0 := hid (Rw.len hp).1
        have l1 := hid (Rw.len hx).1
        have l2 := hid (Rw.len hi).1
        clear hcell hbw HP hp hx hi
        go_wp2_with fail
        refine (szNode_any S ap ax ai np cp nx cx ni ci (nAt ns k) y wr HPp.out HPx.out HPi.out (HZ.out k (by rw [← HN.out]; exact hlt)).1 (HZ.out k (by rw [← HN.out]; exact hlt)).2 hy0 hy1).mono ?_
        rintro e w1 ⟨⟨z, rfl, hz1, hz2, hz3⟩, hb1⟩
        have HB1 := hid (HB.out.trans (hb1.mono HB.out.size))
        have HZ3 := hid hz3
        clear hb1 hz3 c0 c1 c2
        by_cases hneg : z < 0
        · go_wp2
          go_ret
          exact ⟨⟨_, rfl, by omega, by omega, fun h => by omega⟩, HB1.out⟩
        · have HS1 : Hid (∀ i, i < k + 1 → (nAt ns i).ps.length ≤ 1048576 ∧ (nAt ns i).keys.length ≤ 1048576 ∧ (nAt ns i).kids.length ≤ 1048576) := by
            intro i hi
            by_cases e : i = k
            · subst e
              rw [← l0.out, ← l1.out, ← l2.out]
              exact HZ3.out (by omega)
            · exact HS.out i (by omega)
          go_wp2
          go_roundw
          case rel => exact ⟨k + 1, z, by omega, by go_num, rfl, by omega, by omega, HS1.out, HB1.out⟩
          case measure => simp [intOf]; omega
      · have hk' : k = n := by omega
        have HS1 : Hid (smallN ns) := fun i hi => HS.out i (by rw [hk', HN.out]; exact hi)
        clear hk'
        go_wp2
        go_ret
        exact ⟨⟨_, rfl, by omega, by omega, fun _ => ⟨hn2, HS1.out⟩⟩, HB.out⟩
set_option maxHeartbeats 2000000 in
theorem szTree_at (S : Nat → Prop) (a : Option Addr) (n c : Nat) (ns : List NB) (w : World) (h : Nr w S (.slice a n c) ns) (hsz : szOkN ns) :
    Calls Tryz.prog 4 #[.agg #[.slice a n c], .int .i64 1048576] w fun e w' => (∃ x : Int, e = .returned (.int .i64 x) ∧ x ≤ 1048576 ∧ -1 ≤ x ∧ (0 ≤ x → n ≤ 1048576 ∧ smallN ns)) ∧ Below w.heap.size w w' := by
  have H0 := hid h
  have HZ := hid hsz
  clear h hsz
  have HB0 : Hid (Below w.heap.size w (w.alloc (.cells #[.slice a n c] 24))) := below_new (Below.refl _ _)
  go_enter Tryz.func4, Tryz.ntmps4
  go_wp2_with fail
  refine (szNodeS_at S a n c ns _ (H0.out.below HB0.out) HZ.out).mono ?_
  rintro e w1 ⟨⟨y, rfl, hy1, hy2, hy3⟩, hb1⟩
  have HB1 := hid (HB0.out.trans (hb1.mono HB0.out.size))
  have HY := hid hy3
  clear hb1 hy3 HB0
  by_cases hneg : y < 0
  · go_wp2
    go_ret
    exact ⟨⟨_, rfl, by omega, by omega, fun h => by omega⟩, HB1.out⟩
  · go_wp2
    go_ret
    exact ⟨⟨_, rfl, by omega, by omega, HY.out⟩, HB1.out⟩
end Go.Proofs.YtkfeefaokghibabGreat
/-
  What the laws of trees carry along: the argument as it was, and what lies behind the answers.
-/
namespace Go.Proofs.YtkfeefaokghibabGreat
open Go.RowKit
structure TB (w v : World) (a : Option Addr) (n c : Nat) (ns : List NB) : Prop where
  bel : Below w.heap.size w v
  kA : Bk v w.heap.size 24 [.slice a n c]
  hA : Nr v (fun b => b < w.heap.size) (.slice a n c) ns
theorem TB.below {w v v' : World} {a : Option Addr} {n c : Nat} {ns : List NB} (h : TB w v a n c ns) (hb : Below v.heap.size v v') : TB w v' a n c ns := ⟨Below.then' h.bel hb (Nat.le_refl _), h.kA.below hb, h.hA.below hb⟩
theorem TB.only {w v v' : World} {a : Option Addr} {n c : Nat} {ns : List NB} (h : TB w v a n c ns) {R : Nat → Prop} (ho : Only R v v') (hR : ∀ b, R b → w.heap.size < b) : TB w v' a n c ns :=
  ⟨h.bel.trans (ho.below h.bel.size (fun b hb hr => by have := hR b hr; omega)), h.kA.to ho (fun hr => by have := hR _ hr; omega), h.hA.to ho (fun b hb _ hr => by have := hR b hr; omega)⟩
theorem TB.start {w : World} {a : Option Addr} {n c : Nat} {ns : List NB} (h : Nr w (fun _ => True) (.slice a n c) ns) : TB w (w.alloc (.cells #[.slice a n c] 24)) a n c ns := by
  have hb := below_new (o := .cells #[.slice a n c] 24) (w := w) (Below.refl _ _)
  exact ⟨hb, Bk.new w _ [_], (h.mono (fun b _ hb => hb)).below hb⟩
theorem TB.cell {w v : World} {a : Option Addr} {n c : Nat} {ns : List NB} (h : TB w v a n c ns) : v.cell? ⟨w.heap.size, 0, none⟩ = some (.slice a n c) := h.kA.cell (j := 0) rfl
theorem TB.lt {w v : World} {a : Option Addr} {n c : Nat} {ns : List NB} (h : TB w v a n c ns) : w.heap.size < v.heap.size := h.kA.lt
/-- An owned row may be written. -/
theorem own_uf {w : World} {base : Nat} {e : TypeId} {size : Nat} {v : Value} {n : Nat} {xs : List Value} (h : w.ownsRow base e size v n xs) {k : Nat} (hk : v.ownBlock = some k) : Uf w k := by
  rcases h.2 with ⟨rfl, _⟩ | ⟨g, cap, cur, rfl, h3, h4, h5, h6, h7, h8⟩
  · cases hk
  · cases hk
    exact ⟨_, _, h4⟩
theorem Ow.kw {w : World} {base : Nat} {v : Value} {l : List PB} (h : Ow w base v l) : Kw w (fun b => base ≤ b) v l.length (l.length * 2) isStr := by
  have := kw_of (S' := fun b => base ≤ b) (K := isStr) (h.pr (S := fun b => base ≤ b ∧ Uf w b) (fun k hk hb _ => ⟨hb, own_uf h hk⟩)) (fun u hu => pcs_str _ u hu) (fun b hb _ => hb)
  rwa [pcs_length] at this
theorem kb_nr {u v : World} {p0 p1 : Addr} {x0 x1 : Value} {S : Nat → Prop} {y : Value} {ns : List NB} (h : v.cell? p0 = some x0 ∧ v.cell? p1 = some x1 ∧ KC u v [(p0, x0), (p1, x1)]) (hN : Nr u S y ns) : Nr v S y ns := hN.below h.2.2.bel
theorem kb_nr' {u v v' : World} {p0 p1 : Addr} {x0 x1 : Value} {S : Nat → Prop} {y : Value} {ns : List NB} (hb : Below v.heap.size v v') (h : v.cell? p0 = some x0 ∧ v.cell? p1 = some x1 ∧ KC u v [(p0, x0), (p1, x1)]) (hN : Nr u S y ns) : Nr v' S y ns := (kb_nr h hN).below hb
end Go.Proofs.YtkfeefaokghibabGreat
