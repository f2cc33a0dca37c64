/-
  The reader's branch.
-/
import Derived.Test.YtpgogpphobafoaaDoorMr4
namespace Go.Proofs.YtpgogpphobafoaaDoor
open Go.RowKit
set_option maxHeartbeats 8000000 in
set_option maxRecDepth 20000 in
theorem rbranch_any (R : Nat) (a : Option Addr) (n c : Nat) (zs : List Int) (w : World) (h : Rs w R a n c zs 1) (hl : zs.length = 512) :
    Calls Tryd.prog 71 #[.pointer (some ⟨R, 0, none⟩)] w fun e w' => LfP zs (fun p0 => ¬ p0.kids.length = 0) R a n c w e w' := by
  have L0 : Hid (Lf w ((w.alloc (.cells #[.slice none 0 0, .slice none 0 0, .slice none 0 0] 30)).alloc (.cells #[.slice none 0 0, .slice none 0 0, .slice none 0 0] 30)) R a n c zs 1 (.slice none 0 0) (.slice none 0 0) (.slice none 0 0) ⟨[], [], []⟩) := by
    have hb : Below w.heap.size w ((w.alloc (.cells #[.slice none 0 0, .slice none 0 0, .slice none 0 0] 30)).alloc (.cells #[.slice none 0 0, .slice none 0 0, .slice none 0 0] 30)) := below_new (below_new (Below.refl _ _))
    exact ⟨h.below hb, Pr2.start w, only_of_below hb _, h.bk.lt⟩
  have HBY := hid h.rd.2.2.2.2.1
  have HZL := hid hl
  have HGR : Hid (∀ q : Int, -1 ≤ (gt zs q).2 ∧ (gt zs q).2 ≤ 512) := fun q => by have := gt_range zs HBY.out q; rw [HZL.out] at this; exact this
  have HGW : Hid (∀ q : Int, -1 ≤ (gv zs q).2 ∧ (gv zs q).2 ≤ 512) := fun q => by have := gv_rng zs HBY.out q; rw [HZL.out] at this; exact ⟨this.1, this.2.1⟩
  have HGV := hid (gv_rng zs HBY.out 1)
  have HHD : Hid (∀ p0, pgBytes p0 = some zs → ¬ p0.kids.length = 0 → p0.keys.length ≤ 3 ∧ p0.vals = [] ∧ ∃ q : Int, 0 ≤ q ∧ gv zs 1 = ((p0.keys.length : Int), q) ∧ gv zs q = (iAt p0.kids 0, ((pgBody p0 0).length : Int))) := fun p0 hp h0 => (branch_head hp h0).2
  have HCT := hid (fun (w : World) (h : Rs w R a n c zs 1) => rcount_any R a n c zs 1 3 w h (by omega))
  rw [HZL.out] at HGV
  clear h hl HBY
  obtain ⟨o, hgo⟩ : ∃ o, gv zs 1 = o := ⟨_, rfl⟩
  rw [hgo] at HGV HCT
  have HHE : Hid (∀ p0, pgBytes p0 = some zs → ¬ p0.kids.length = 0 → p0.keys.length ≤ 3 ∧ p0.vals = [] ∧ ∃ q : Int, 0 ≤ q ∧ o = ((p0.keys.length : Int), q) ∧ gv zs q = (iAt p0.kids 0, ((pgBody p0 0).length : Int))) := by rw [← hgo]; exact HHD.out
  clear HHD hgo
  obtain ⟨N, q0⟩ := o
  dsimp only at HGV
  go_enter Tryd.func71, Tryd.ntmps71
  go_wp2_with fail
  refine (HCT.out _ L0.out.rs).mono ?_
  generalize (w.alloc (.cells #[.slice none 0 0, .slice none 0 0, .slice none 0 0] 30)).alloc (.cells #[.slice none 0 0, .slice none 0 0, .slice none 0 0] 30) = U at *
  rintro e w1 ⟨ho1, -, hcase⟩
  dsimp only at hcase
  rcases hcase with ⟨hn, t, x, rfl⟩ | ⟨hn, hm, rfl, hk1⟩
  · have HON : Hid (Only (fun y => y = R) w w1) := L0.out.on.trans ho1
    have HNO : Hid (∀ p0, pgBytes p0 = some zs → ¬ p0.kids.length = 0 → False) := by
      intro p0 hp h0
      obtain ⟨e1, -, q, e2, e3, -⟩ := HHE.out p0 hp h0
      obtain ⟨e4, e5⟩ := Prod.mk.inj e3
      omega
    clear hn ho1 HCT HHE
    go_wp2
    exact ⟨rfl, HON.out, .inl ⟨⟨t, x, rfl⟩, HNO.out⟩⟩
  · have L1 := hid (L0.out.went ho1 hk1)
    have hN0 := HGV.out.2.2.1
    have hq0 := HGV.out.2.1
    obtain ⟨N, rfl⟩ := Int.eq_ofNat_of_zero_le hN0
    clear L0 ho1 hk1 HCT HGV hN0
    have HNN : Hid (∀ p0, pgBytes p0 = some zs → ¬ p0.kids.length = 0 → N = p0.keys.length ∧ p0.vals = [] ∧ gv zs q0 = (iAt p0.kids 0, ((pgBody p0 0).length : Int))) := by
      intro p0 hp h0
      obtain ⟨-, e1, q, -, e2, e3⟩ := HHE.out p0 hp h0
      obtain ⟨e4, e5⟩ := Prod.mk.inj e2
      exact ⟨by omega, e1, by rw [e5]; exact e3⟩
    clear HHE
    have hr0 := HGW.out q0
    have HT0 := hid (fun (u : World) (h : Rs u R a n c zs q0) => rnum_any R a n c zs q0 u h (by omega))
    obtain ⟨o0, hgo⟩ : ∃ o, gv zs q0 = o := ⟨_, rfl⟩
    rw [hgo] at HT0 hr0
    have HN2 : Hid (∀ p0, pgBytes p0 = some zs → ¬ p0.kids.length = 0 → N = p0.keys.length ∧ p0.vals = [] ∧ o0 = (iAt p0.kids 0, ((pgBody p0 0).length : Int))) := by rw [← hgo]; exact HNN.out
    clear HNN hgo
    obtain ⟨kid0, q1⟩ := o0
    dsimp only at HT0 hr0
    obtain ⟨⟨c0, c1, c2⟩, f0, f1, f2⟩ := L1.out.cells
    by_cases h1 : q1 < 0
    · have HNO : Hid (∀ p0, pgBytes p0 = some zs → ¬ p0.kids.length = 0 → False) := by
        intro p0 hp h0
        have := (Prod.mk.inj (HN2.out p0 hp h0).2.2).2
        omega
      have RSD := hid (L1.out.rs.below (below_drew _))
      have HON := hid (L1.out.below (below_drew _)).on
      go_wp2_with fail
      go_region_dies
      all_goals
        refine (HT0.out _ RSD.out).mono ?_
        rintro e w3 ⟨ho3, -, ⟨-, t, x, rfl⟩ | ⟨hno, -⟩⟩
        · have HON3 := hid (HON.out.trans ho3)
          go_wp2
          exact ⟨rfl, HON3.out, .inl ⟨⟨t, x, rfl⟩, HNO.out⟩⟩
        · omega
    · have hq1' : 0 ≤ q1 := by omega
      have HTS : Hid (∀ u, Rs u R a n c zs q0 → Calls Tryd.prog 82 #[.pointer (some ⟨R, 0, none⟩)] u fun e w' => e = .returned (.int .i64 kid0) ∧ Only (fun y => y = R) u w' ∧ Bk w' R 70 [.slice a n c, .int .i64 q1]) := by
        intro u hu
        refine (HT0.out u hu).mono ?_
        rintro e w' ⟨ho, -, ⟨hno, -⟩ | ⟨-, he, hk⟩⟩
        · omega
        · exact ⟨he, ho, hk⟩
      clear HT0
      have LD := hid (L1.out.below (below_drew _))
      go_wp2_with fail
      go_cut [12] (fun x v => ∃ ia5 jn5 ic5, x = .slice ia5 jn5 ic5 ∧ Hid (Lf w v R a n c zs q1 (.slice none 0 0) (.slice none 0 0) (.slice ia5 jn5 ic5) ⟨[], [], [kid0]⟩))
      case first =>
        go_region_law (first
          | (go_simp; go_at_call 82; refine (HTS.out _ LD.out.rs).mono ?_; rintro e w3 ⟨rfl, ho3, hk3⟩; have L3 := LD.out.went ho3 hk3; have t0 := L3.cells.1.2.2; have L4 := L3.below (below_new (o := .cells #[.int .i64 kid0] 3) (Below.refl _ _)); have t4 := L4.cells.1.2.2)
          | (refine stepI1 rfl _ _ rfl (.slice none 0 0) _ _ rfl L4.own.2.2.1 w3.heap.size kid0 rfl ((Bk.new w3 3 [.int .i64 kid0]).cell (j := 0) rfl) (by simp) (w.heap.size + 1) 2 (.slice none 0 0) L4.cells.1.2.2 L4.cells.2.2.2 L4.ne.2.2 ?_; intro a5 n5 c5 w5 hO5 hg5 ha5 hc5 hf5))
        all_goals (go_wp2_with fail; go_meet)
        all_goals exact ⟨a5, n5, c5, rfl, L4.addI hO5 hg5 ha5⟩
      case rest =>
        obtain ⟨ia5, jn5, ic5, rfl, L2'⟩ := hcut
        clear LD HTS c0 c1 c2 f0 f1 f2 L1
        have HST : Hid (∀ p0, pgBytes p0 = some zs → ¬ p0.kids.length = 0 → q1 = ((pgBody p0 0).length : Int) ∧ (⟨[], [], [kid0]⟩ : PG) = ⟨p0.keys.take 0, [], p0.kids.take (0 + 1)⟩) := by
          intro p0 hp h0
          obtain ⟨e1, e2⟩ := Prod.mk.inj (HN2.out p0 hp h0).2.2
          refine ⟨e2, ?_⟩
          rw [← iAt_take (by omega), e1]
          rfl
        have HNL : Hid (∀ p0, pgBytes p0 = some zs → ¬ p0.kids.length = 0 → N = p0.keys.length ∧ p0.vals = []) := fun p0 hp h0 => ⟨(HN2.out p0 hp h0).1, (HN2.out p0 hp h0).2.1⟩
        clear HN2
        go_wp2_with fail
        go_loopw [15] (fun i wr => ∃ (j : Nat) (q : Int) (kv vv iv : Value) (p : PG), j ≤ N ∧ i = .int .i64 j ∧ 0 ≤ q ∧ q ≤ 512 ∧ p.keys.length = j ∧ p.kids.length = j + 1 ∧ Hid (Lf w wr R a n c zs q kv vv iv p) ∧ Hid (∀ p0, pgBytes p0 = some zs → ¬ p0.kids.length = 0 → q = ((pgBody p0 j).length : Int) ∧ p = ⟨p0.keys.take j, [], p0.kids.take (j + 1)⟩)) (fun i _ => N - (intOf i).toNat)
        case atStart => exact ⟨0, q1, _, _, _, ⟨[], [], [kid0]⟩, Nat.zero_le _, rfl, hq1', hr0.2, rfl, rfl, L2'.out, HST.out⟩
        case round =>
          obtain ⟨j, q, kv, vv, iv, p, hj, rfl, hqa, hqb, hkl, hil, L2, HIN⟩ := hrel
          clear L2' HST
          by_cases hlt : j < N
          · have hlt' : (j : Int) < (N : Int) := by omega
            have HSTP : Hid (∀ p0, pgBytes p0 = some zs → ¬ p0.kids.length = 0 → ∃ q1 : Int, 0 ≤ q1 ∧ gt zs q = (bytesOf (sAt p0.keys j), q1) ∧ gv zs q1 = (iAt p0.kids (j + 1), ((pgBody p0 (j + 1)).length : Int)) ∧ j < p0.keys.length ∧ j + 1 < p0.kids.length) := by
              intro p0 hp h0
              have h1 := (HNL.out p0 hp h0).1
              obtain ⟨q1, g1, g2, g3⟩ := branch_step hp h0 (show j < p0.keys.length by omega)
              rw [(HIN.out p0 hp h0).1]
              have := ((pgOk_facts (pg_of hp).1).br h0).1
              exact ⟨q1, g1, g2, g3, by omega, by omega⟩
            have hr1 := HGR.out q
            have HT1 := hid (fun (u : World) (h : Rs u R a n c zs q) => rtext_any R a n c zs q u h (by omega))
            generalize gt zs q = o1 at *
            obtain ⟨b1, q2⟩ := o1
            dsimp only at HT1 hr1
            obtain ⟨⟨c0, c1, c2⟩, f0, f1, f2⟩ := L2.out.cells
            by_cases h2 : q2 < 0
            · have HNO : Hid (∀ p0, pgBytes p0 = some zs → ¬ p0.kids.length = 0 → False) := by
                intro p0 hp h0
                obtain ⟨q1', g1, g2, -⟩ := HSTP.out p0 hp h0
                have := (Prod.mk.inj g2).2
                omega
              have RSD := hid (L2.out.rs.below (below_drew wr))
              have HON := hid (L2.out.below (below_drew wr)).on
              go_wp2_with fail
              go_region_dies
              all_goals
                refine (HT1.out _ RSD.out).mono ?_
                rintro e w3 ⟨ho3, -, ⟨-, t, x, rfl⟩ | ⟨hno, -⟩⟩
                · have HON3 := hid (HON.out.trans ho3)
                  go_wp2
                  exact ⟨rfl, HON3.out, .inl ⟨⟨t, x, rfl⟩, HNO.out⟩⟩
                · omega
            · have hq2' : 0 ≤ q2 := by omega
              have HTS : Hid (∀ u, Rs u R a n c zs q → Calls Tryd.prog 81 #[.pointer (some ⟨R, 0, none⟩)] u fun e w' => e = .returned (.string (strOf b1)) ∧ Only (fun y => y = R) u w' ∧ Bk w' R 70 [.slice a n c, .int .i64 q2]) := by
                intro u hu
                refine (HT1.out u hu).mono ?_
                rintro e w' ⟨ho, -, ⟨hno, -⟩ | ⟨-, he, hk⟩⟩
                · omega
                · exact ⟨he, ho, hk⟩
              clear HT1
              obtain ⟨s1, hs1⟩ : ∃ s1, strOf b1 = s1 := ⟨_, rfl⟩
              have HS1E := hid hs1
              rw [hs1] at HTS
              clear hs1
              have LD := hid (L2.out.below (below_drew wr))
              go_wp2_with fail
              go_cut [22] (fun x v => ∃ ka5 kn5 kc5, x = .slice ka5 kn5 kc5 ∧ Hid (Lf w v R a n c zs q2 (.slice ka5 kn5 kc5) vv iv ⟨p.keys ++ [s1], p.vals, p.kids⟩))
              case first =>
                go_region_law (first
                  | (go_simp; go_at_call 81; refine (HTS.out _ LD.out.rs).mono ?_; rintro e w3 ⟨rfl, ho3, hk3⟩; have L3 := LD.out.went ho3 hk3; have t0 := L3.cells.1.1; have L4 := L3.below (below_new (o := .cells #[.string s1] 9) (Below.refl _ _)); have t4 := L4.cells.1.1)
                  | (refine stepS1 rfl _ _ rfl kv _ _ rfl L4.own.1 w3.heap.size s1 rfl ((Bk.new w3 9 [.string s1]).cell (j := 0) rfl) (by omega) (w.heap.size + 1) 0 kv L4.cells.1.1 L4.cells.2.1 L4.ne.1 ?_; intro a5 n5 c5 w5 hO5 hg5 ha5 hc5 hf5))
                all_goals (go_wp2_with fail; go_meet)
                all_goals exact ⟨a5, n5, c5, rfl, L4.addK hO5 hg5 ha5⟩
              case rest =>
                obtain ⟨ka5, kn5, kc5, rfl, L5⟩ := hcut
                clear LD HTS c0 c1 c2 f0 f1 f2 L2
                have HP5 : Hid (∀ p0, pgBytes p0 = some zs → ¬ p0.kids.length = 0 → strOf b1 = sAt p0.keys j) := by
                  intro p0 hp h0
                  obtain ⟨q1', g1, g2, -⟩ := HSTP.out p0 hp h0
                  rw [(Prod.mk.inj g2).1, strOf_bytesOf]
                have hr2 := HGW.out q2
                have HT2 := hid (fun (u : World) (h : Rs u R a n c zs q2) => rnum_any R a n c zs q2 u h (by omega))
                have HS2 : Hid (∀ p0, pgBytes p0 = some zs → ¬ p0.kids.length = 0 → gv zs q2 = (iAt p0.kids (j + 1), ((pgBody p0 (j + 1)).length : Int))) := by
                  intro p0 hp h0
                  obtain ⟨q1', g1, g2, g3, -⟩ := HSTP.out p0 hp h0
                  rw [(Prod.mk.inj g2).2]
                  exact g3
                have HJ2 : Hid (∀ p0, pgBytes p0 = some zs → ¬ p0.kids.length = 0 → j < p0.keys.length ∧ j + 1 < p0.kids.length) := by
                  intro p0 hp h0
                  obtain ⟨q1', -, -, -, g4, g5⟩ := HSTP.out p0 hp h0
                  exact ⟨g4, g5⟩
                rw [HS1E.out] at HP5
                clear HSTP
                generalize gv zs q2 = o2 at *
                obtain ⟨kid, q3⟩ := o2
                dsimp only at HT2 hr2
                obtain ⟨⟨c0, c1, c2⟩, f0, f1, f2⟩ := L5.out.cells
                by_cases h3 : q3 < 0
                · have HNO : Hid (∀ p0, pgBytes p0 = some zs → ¬ p0.kids.length = 0 → False) := by
                    intro p0 hp h0
                    have := (Prod.mk.inj (HS2.out p0 hp h0)).2
                    omega
                  have RSD := hid (L5.out.rs.below (below_drew _))
                  have HON := hid (L5.out.below (below_drew _)).on
                  go_wp2_with fail
                  go_region_dies
                  all_goals
                    refine (HT2.out _ RSD.out).mono ?_
                    rintro e w3 ⟨ho3, -, ⟨-, t, x, rfl⟩ | ⟨hno, -⟩⟩
                    · have HON3 := hid (HON.out.trans ho3)
                      go_wp2
                      exact ⟨rfl, HON3.out, .inl ⟨⟨t, x, rfl⟩, HNO.out⟩⟩
                    · omega
                · have hq3' : 0 ≤ q3 := by omega
                  have HTS : Hid (∀ u, Rs u R a n c zs q2 → Calls Tryd.prog 82 #[.pointer (some ⟨R, 0, none⟩)] u fun e w' => e = .returned (.int .i64 kid) ∧ Only (fun y => y = R) u w' ∧ Bk w' R 70 [.slice a n c, .int .i64 q3]) := by
                    intro u hu
                    refine (HT2.out u hu).mono ?_
                    rintro e w' ⟨ho, -, ⟨hno, -⟩ | ⟨-, he, hk⟩⟩
                    · omega
                    · exact ⟨he, ho, hk⟩
                  have HIN2 : Hid (∀ p0, pgBytes p0 = some zs → ¬ p0.kids.length = 0 → q3 = ((pgBody p0 (j + 1)).length : Int) ∧ (⟨p.keys ++ [s1], p.vals, p.kids ++ [kid]⟩ : PG) = ⟨p0.keys.take (j + 1), [], p0.kids.take (j + 1 + 1)⟩) := by
                    intro p0 hp h0
                    obtain ⟨g1, g2⟩ := Prod.mk.inj (HS2.out p0 hp h0)
                    obtain ⟨j1, j2⟩ := HJ2.out p0 hp h0
                    refine ⟨g2, ?_⟩
                    rw [(HIN.out p0 hp h0).2, HP5.out p0 hp h0, g1]
                    show (⟨p0.keys.take j ++ [sAt p0.keys j], [], p0.kids.take (j + 1) ++ [iAt p0.kids (j + 1)]⟩ : PG) = _
                    rw [sAt_take j1, iAt_take j2]
                  clear HT2 HS2 HIN HP5 HJ2
                  have LD := hid (L5.out.below (below_drew _))
                  go_wp2_with fail
                  go_region_law (first
                    | (go_simp; go_at_call 82; refine (HTS.out _ LD.out.rs).mono ?_; rintro e w3 ⟨rfl, ho3, hk3⟩; have L3 := LD.out.went ho3 hk3; have t0 := L3.cells.1.2.2; have L4 := L3.below (below_new (o := .cells #[.int .i64 kid] 3) (Below.refl _ _)); have t4 := L4.cells.1.2.2)
                    | (refine stepI1 rfl _ _ rfl iv _ _ rfl L4.own.2.2.1 w3.heap.size kid rfl ((Bk.new w3 3 [.int .i64 kid]).cell (j := 0) rfl) (by show p.kids.length ≤ _; omega) (w.heap.size + 1) 2 iv L4.cells.1.2.2 L4.cells.2.2.2 L4.ne.2.2 ?_; intro a5 n5 c5 w5 hO5 hg5 ha5 hc5 hf5))
                  all_goals
                    have L6 := hid (L4.addI hO5 hg5 ha5)
                    clear L3 L4 LD HTS c0 c1 c2 f0 f1 f2 L5 t0 t4 hO5 hg5 ha5 ho3 hk3 hc5 hf5
                    go_wp2
                    go_roundw
                    case rel => exact ⟨j + 1, q3, _, _, _, _, by omega, by go_num, hq3', hr2.2, by show (p.keys ++ [s1]).length = _; simp [hkl], by show (p.kids ++ [kid]).length = _; simp [hil], L6.out, HIN2.out⟩
                    case measure => simp [intOf]; omega
          · have hjN : j = N := by omega
            have HPE : Hid (∀ p0, pgBytes p0 = some zs → ¬ p0.kids.length = 0 → p = p0) := by
              intro p0 hp h0
              obtain ⟨h1, hv⟩ := HNL.out p0 hp h0
              have h2 := ((pgOk_facts (pg_of hp).1).br h0).1
              rw [(HIN.out p0 hp h0).2, hjN]
              exact PG.ext' (List.take_of_length_le (by omega)) hv.symm (List.take_of_length_le (by omega))
            obtain ⟨ka, kc, rfl⟩ := own_shape L2.out.own.1
            obtain ⟨va, vc, rfl⟩ := own_shape L2.out.own.2.1
            obtain ⟨ia, ic, rfl⟩ := own_shape L2.out.own.2.2.1
            have HQ := hid (L2.out.done (.slice ka p.keys.length kc) (.slice va p.vals.length vc) (.slice ia p.kids.length ic) HPE.out)
            generalize p.keys.length = kn at *
            generalize p.vals.length = vn at *
            generalize p.kids.length = jn at *
            obtain ⟨⟨c0, c1, c2⟩, -⟩ := L2.out.cells
            obtain ⟨⟨r0, r1, r2⟩, f0, f1, f2⟩ := L2.out.rcells
            clear hjN HIN HNL L2 hkl hil
            go_wp2
            refine bodyPost_ret (results_pg (x := .slice ka kn kc) (y := .slice va vn vc) (z := .slice ia jn ic) rfl _ _ _ rfl (by go_simp) (by go_simp) (by go_simp)) rfl ?_
            exact HQ.out
end Go.Proofs.YtpgogpphobafoaaDoor
