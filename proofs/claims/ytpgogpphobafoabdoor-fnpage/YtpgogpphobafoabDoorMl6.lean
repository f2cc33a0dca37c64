/-
  l04Page: a page is drawn.
-/
import Derived.Test.YtpgogpphobafoabDoorMl5
import Derived.Test.YtpgogpphobafoabDoorMl4
import Derived.Test.YtpgogpphobafoabDoorMl3
import Derived.Test.YtpgogpphobafoabDoorMl1
namespace Go.Proofs.YtpgogpphobafoabDoor
open Go.RowKit
theorem wrap_small {x : Int} (h0 : 0 ≤ x) (h1 : x ≤ 1000000) : IntKind.i64.wrap x = x := by
  simp [IntKind.wrap, IntKind.signed, IntKind.bits]
  omega
theorem fw_bk {v : World} {b n : Nat} {T : TypeId} {xs : List Value} {K : Value → Prop} (h : Bk v b T xs) (hn : xs.length = n) (hb : n ≤ 1048576) (hK : ∀ u ∈ xs, K u) : Fw v T K (.slice (some ⟨b, 0, none⟩) n n) n := by
  refine .inr ⟨b, 0, n, xs.toArray, rfl, h, Nat.le_refl _, by simp; omega, by omega, fun j hj => ?_⟩
  have hj' : j < xs.length := by omega
  exact ⟨xs[j], by simp [hj'], hK _ (List.getElem_mem hj')⟩
theorem DP.start {w v : World} {g : Nat} (hc : Cu v g) (hg : w.grownBy v (some g)) (hr : Bk v w.heap.size 40 [.slice none 0 0, .slice none 0 0, .slice none 0 0]) (hb : Bk v (w.heap.size + 1) 40 [.slice none 0 0, .slice none 0 0, .slice none 0 0]) (hlt : g < w.heap.size) : DP w v g (.slice none 0 0) (.slice none 0 0) (.slice none 0 0) 0 0 0 :=
  ⟨hg, hc, hr, hb, .inl ⟨rfl, rfl⟩, .inl ⟨rfl, rfl⟩, .inl ⟨rfl, rfl⟩, fun y hy => (by rcases hy with e | e | e <;> cases e), fun y => ⟨fun e => (by cases e), fun e => (by cases e)⟩, hlt⟩
set_option maxHeartbeats 8000000 in
set_option maxRecDepth 20000 in
theorem page_any (g : Nat) (w : World) (h : Cu w g) : Calls Tryd.prog 48 #[.pointer (some ⟨g, 0, none⟩)] w fun e w' => DpP w g 1 e w' := by
  have hlt := h.lt
  have D0 : Hid (DP w ((w.alloc (.cells #[.slice none 0 0, .slice none 0 0, .slice none 0 0] 40)).alloc (.cells #[.slice none 0 0, .slice none 0 0, .slice none 0 0] 40)) g (.slice none 0 0) (.slice none 0 0) (.slice none 0 0) 0 0 0) := by
    have k1 := Bk.new (w.alloc (.cells #[.slice none 0 0, .slice none 0 0, .slice none 0 0] 40)) 40 [.slice none 0 0, .slice none 0 0, .slice none 0 0]
    have hb : Below w.heap.size w ((w.alloc (.cells #[.slice none 0 0, .slice none 0 0, .slice none 0 0] 40)).alloc (.cells #[.slice none 0 0, .slice none 0 0, .slice none 0 0] 40)) := below_new (below_new (Below.refl _ _))
    exact DP.start (h.below hb) (grown_of_below hb _) ((Bk.new w 40 [.slice none 0 0, .slice none 0 0, .slice none 0 0]).alloc _) (by simpa using k1) hlt
  have HLT := hid hlt
  clear h hlt
  go_enter Tryd.func48, Tryd.ntmps48
  go_wp2_with fail
  refine (drawT_any g 6 _ D0.out.cu (by omega)).mono ?_
  generalize (w.alloc (.cells #[.slice none 0 0, .slice none 0 0, .slice none 0 0] 40)).alloc (.cells #[.slice none 0 0, .slice none 0 0, .slice none 0 0] 40) = U at *
  rintro e w1 ⟨ta, tn, tc, ns, rfl, hg1, hc1, hN1, hsm, hnl⟩
  have D1 := hid (D0.out.draw hg1 hc1)
  have HN := hid hN1
  have HSM := hid hsm
  have HNL := hid hnl
  clear hg1 hc1 hN1 hsm hnl D0
  go_wp2_with fail
  refine (specTreeAll_any ns (by have := HNL.out; omega) (small_smallN ⟨HSM.out, HNL.out⟩).1 _ ta tn tc _ HN.out.nr).mono ?_
  rintro e w2 ⟨lv, rfl, hO2, hb2⟩
  have D2 := hid (D1.out.below hb2)
  have HLL := hid (alV_len ns)
  have O2 := hid hO2
  have W1 : Hid (w.heap.size + 1 < w1.heap.size) := D1.out.ltk
  clear hb2 hO2 D1 HN HSM HNL
  generalize alV ns = l at *
  obtain ⟨la, lc, rfl⟩ := O2.out.shape
  generalize hL : l.length = L at *
  have HL := hid hL
  clear hL
  have hll := HLL.out
  have HB2 : Hid (w.heap.size + 1 < w2.heap.size) := D2.out.ltk
  have HPR : Hid (∀ v, Only (fun y => y = w.heap.size + 1) w2 v → Pr v (fun _ => True) (.slice la L lc) l) := by
    intro v ho
    have := (O2.out.to ho (fun k e hr => by have h2 := (World.ownsRow.lt O2.out k e).1; have h3 := W1.out; omega)).pr (S := fun _ => True) (fun _ _ _ _ => trivial)
    exact this
  have HLO2 : Hid (Only (fun y => y = w.heap.size + 1) w2 w2) := Only.refl _ _
  go_wp2_with fail
  go_loopw [12] (fun i wr => ∃ (j : Nat) (kv vv : Value) (nk : Nat), j ≤ L ∧ i = .int .i64 j ∧ nk ≤ 4 ∧ Hid (DP w wr g kv vv (.slice none 0 0) nk nk 0) ∧ Hid (Only (fun y => y = w.heap.size + 1) w2 wr) ∧ Hid (∀ y, (kv.ownBlock = some y ∨ vv.ownBlock = some y) → w2.heap.size ≤ y)) (fun i _ => L - (intOf i).toNat)
  case atStart => exact ⟨0, _, _, 0, Nat.zero_le _, rfl, Nat.zero_le _, D2.out, HLO2.out, fun y hy => (by rcases hy with e | e <;> cases e)⟩
  case round =>
    obtain ⟨j, kv, vv, nk, hj, rfl, hnk, D3, N3, Y3⟩ := hrel
    clear D2 HLO2
    by_cases hlt : j < L
    · have hlt' : (j : Int) < (L : Int) := by omega
      obtain ⟨b, off, ha, -, -, hcell⟩ := (HPR.out _ N3.out).at (by omega)
      subst ha
      obtain ⟨m0, m1⟩ := hcell j hlt
      clear hcell
      generalize (pAtB l j).1 = ks at *
      generalize (pAtB l j).2 = vs at *
      obtain ⟨ka, kc, rfl, hk1, hk2⟩ := D3.out.hk.shape
      obtain ⟨va, vc, rfl, hv1, hv2⟩ := D3.out.hv.shape
      have D4 := hid (D3.out.below (below_new (o := .cells #[.string ks, .string vs] 87) (Below.refl _ _)))
      have N4 : Hid (Only (fun y => y = w.heap.size + 1) w2 (wr.alloc (.cells #[.string ks, .string vs] 87))) := N3.out.trans (only_of_below (below_new (Below.refl _ _)) _)
      have KB := hid (Bk.new wr 87 [.string ks, .string vs])
      have HBX : Hid (w2.heap.size ≤ wr.heap.size) := N3.out.size
      have HKL : Hid ((∀ y, (Value.slice ka nk kc).ownBlock = some y → y < wr.heap.size) ∧ (∀ y, (Value.slice va nk vc).ownBlock = some y → y < wr.heap.size)) := ⟨fun y e => D3.out.hk.lt e, fun y e => D3.out.hv.lt e⟩
      obtain ⟨⟨c0, c1, c2⟩, f0, f1, f2⟩ := D4.out.cells
      by_cases h4 : nk < 4
      · have h4' : (nk : Int) < 4 := by omega
        have b0 := KB.out.cell (j := 0) rfl
        have D5 := hid (D4.out.below (below_new (o := .cells #[.string ks] 9) (Below.refl _ _)))
        have N5 : Hid (Only (fun y => y = w.heap.size + 1) w2 ((wr.alloc (.cells #[.string ks, .string vs] 87)).alloc (.cells #[.string ks] 9))) := N4.out.trans (only_of_below (below_new (Below.refl _ _)) _)
        have e5 : ((wr.alloc (.cells #[.string ks, .string vs] 87)).alloc (.cells #[.string ks] 9)).cell? ⟨wr.heap.size + 1, 0, none⟩ = some (.string ks) := by
          have := (Bk.new (wr.alloc (.cells #[.string ks, .string vs] 87)) 9 [.string ks]).cell (j := 0) rfl
          simp at this ⊢
        have KB5 := hid (KB.out.alloc (.cells #[.string ks] 9))
        clear D3 N3 D4 N4 KB
        go_wp2_with (at_builtin; refine wpList_append_fw rfl _ _ 37 9 rfl _ 16 Tryd.underlying37 infoStr' rfl (by omega) (K := isStr) _ nk rfl D5.out.hk (by omega) _ (.string ks) rfl ⟨ks, rfl⟩ rfl e5 ?_)
        intro a6 n6 c6 w6 hg6
        have hgo : Only (fun y => (Value.slice ka nk kc).ownBlock = some y) _ w6 := only_of_grown hg6.2.1 (fun k e => e)
        have D6 := hid (D5.out.addK hg6)
        have N6 : Hid (Only (fun y => y = w.heap.size + 1) w2 (w6.setCell ⟨w.heap.size + 1, 0, none⟩ (.slice a6 n6 c6))) := (N5.out.then hgo (fun i hi e => by have := Y3.out i (.inl e); omega)).trans (only_set (R := fun y => y = w.heap.size + 1) rfl _)
        have Y6 : Hid (∀ y, ((Value.slice a6 n6 c6).ownBlock = some y ∨ (Value.slice va nk vc).ownBlock = some y) → w2.heap.size ≤ y) := by
          rintro y (e | e)
          · rcases hg6.2.2 with e2 | ⟨k, e2, hk⟩
            · exact Y3.out y (.inl (e2 ▸ e))
            · rw [e2] at e
              cases e
              have := N5.out.size
              omega
          · exact Y3.out y (.inr e)
        have HKX : Hid (∀ y, ((Value.slice ka nk kc).ownBlock = some y ∨ (Value.slice va nk vc).ownBlock = some y) → y < wr.heap.size) := by
          rintro y (e | e)
          · exact HKL.out.1 y e
          · exact HKL.out.2 y e
        have KB6 : Hid (Bk (w6.setCell ⟨w.heap.size + 1, 0, none⟩ (.slice a6 n6 c6)) wr.heap.size 87 [.string ks, .string vs]) := (KB5.out.to hgo (fun e => by have := HKX.out _ (.inl e); omega)).setOther (by have := HBX.out; have := HB2.out; omega) _ _
        have KP6 := hid (D5.out.bk.to hgo (fun e => D5.out.ne.1 e))
        have KB7 := hid (KB5.out.to hgo (fun e => by have := HKX.out _ (.inl e); omega))
        have hn1 : ¬ w.heap.size + 1 = wr.heap.size := by have := HBX.out; have := HB2.out; omega
        have hn2 : ¬ wr.heap.size = w.heap.size + 1 := fun e => hn1 e.symm
        have bp1 := KB7.out.cell (j := 1) rfl
        clear hg6 hgo D5 N5 KB5 e5 c0 c1 c2 f0 f1 f2 b0 HKX
        have p0 := KP6.out.cell (j := 0) rfl
        have pf0 := KP6.out.free 0
        have p1 := KP6.out.cell (j := 1) rfl
        have pf1 := KP6.out.free 1
        have D7 := hid (D6.out.below (below_new (o := .cells #[.string vs] 9) (Below.refl _ _)))
        have N7 : Hid (Only (fun y => y = w.heap.size + 1) w2 ((w6.setCell ⟨w.heap.size + 1, 0, none⟩ (.slice a6 n6 c6)).alloc (.cells #[.string vs] 9))) := N6.out.trans (only_of_below (below_new (Below.refl _ _)) _)
        have e7 := (Bk.new (w6.setCell ⟨w.heap.size + 1, 0, none⟩ (.slice a6 n6 c6)) 9 [.string vs]).cell (j := 0) rfl
        rw [show (w6.setCell ⟨w.heap.size + 1, 0, none⟩ (.slice a6 n6 c6)).heap.size = w6.heap.size by simp [World.setCell]] at e7
        go_wp2_with (at_builtin; refine wpList_append_fw rfl _ _ 37 9 rfl _ 16 Tryd.underlying37 infoStr' rfl (by omega) (K := isStr) _ nk rfl D7.out.hv (by omega) _ (.string vs) rfl ⟨vs, rfl⟩ rfl e7 ?_)
        intro a8 n8 c8 w8 hg8
        have hgo : Only (fun y => (Value.slice va nk vc).ownBlock = some y) _ w8 := only_of_grown hg8.2.1 (fun k e => e)
        have D8 := hid (D7.out.addV hg8)
        have N8 : Hid (Only (fun y => y = w.heap.size + 1) w2 (w8.setCell ⟨w.heap.size + 1, 1, none⟩ (.slice a8 n8 c8))) := (N7.out.then hgo (fun i hi e => by have := Y6.out i (.inr e); omega)).trans (only_set (R := fun y => y = w.heap.size + 1) rfl _)
        have Y8 : Hid (∀ y, ((Value.slice a6 n6 c6).ownBlock = some y ∨ (Value.slice a8 n8 c8).ownBlock = some y) → w2.heap.size ≤ y) := by
          rintro y (e | e)
          · exact Y6.out y (.inl e)
          · rcases hg8.2.2 with e2 | ⟨k, e2, hk⟩
            · exact Y6.out y (.inr (e2 ▸ e))
            · rw [e2] at e
              cases e
              have := N7.out.size
              omega
        have KP8 := hid (D7.out.bk.to hgo (fun e => D7.out.ne.2.1 e))
        clear hg8 hgo D7 N7 e7 p0 pf0 p1 pf1 bp1 KP6 KB6 KB7 D6 N6 Y6
        have p1 := KP8.out.cell (j := 1) rfl
        have pf1 := KP8.out.free 1
        go_wp2
        go_roundw
        case rel => exact ⟨j + 1, _, _, nk + 1, by omega, by go_num, by omega, D8.out, N8.out, Y8.out⟩
        case measure => simp [intOf]; omega
      · have h4' : ¬ (nk : Int) < 4 := by omega
        clear D3 N3
        go_wp2
        go_roundw
        case rel => exact ⟨j + 1, _, _, nk, by omega, by go_num, hnk, D4.out, N4.out, Y3.out⟩
        case measure => simp [intOf]; omega
    · have D4 := hid D3.out
      clear N3 Y3 HPR O2 D3
      obtain ⟨ka, kc, rfl, hk1, hk2⟩ := D4.out.hk.shape
      obtain ⟨va, vc, rfl, hv1, hv2⟩ := D4.out.hv.shape
      go_wp2_with fail
      refine (below_any g 2 _ D4.out.cu (by omega) (by omega)).mono ?_
      rintro e w5 ⟨⟨x, rfl, hx0, hx1⟩, hg5, hc5⟩
      have D5 := hid (D4.out.draw hg5 hc5)
      clear hg5 hc5 D4
      obtain ⟨⟨c0, c1, c2⟩, f0, f1, f2⟩ := D5.out.cells
      by_cases h0 : nk = 0
      · subst h0
        by_cases hx : x = 0
        · subst hx
          have DA := hid (D5.out.below (below_new (o := .cells #[.string ⟨#[99]⟩] 9) (Below.refl _ _)))
          obtain ⟨⟨a0, a1, a2⟩, af0, af1, af2⟩ := DA.out.cells
          have hfb := fw_bk (K := isStr) (Bk.new w5 9 [.string ⟨#[99]⟩]) (n := 1) rfl (by omega) (fun u hu => by simp at hu; subst hu; exact ⟨_, rfl⟩)
          have hs5 := D5.out.ltk
          have D8 := hid (DA.out.key (R := fun _ => False) (Only.refl _ _) (fun _ e => e.elim) DA.out.cu hfb (fun y e => by cases e; exact ⟨hs5, fun e2 => by have h9 : w5.heap.size < w5.heap.size := D5.out.hv.lt e2; exact absurd h9 (Nat.lt_irrefl _), fun e2 => by cases e2⟩))
          have D9 := hid (D8.out.val (nw := .slice none 0 0) (nv' := 0) (R := fun _ => False) (Only.refl _ _) (fun _ e => e.elim) D8.out.cu (.inl ⟨rfl, rfl⟩) (fun y e => by cases e))
          clear hfb hs5 DA D8 D5
          go_wp2_with fail
          go_loopw [6] (fun i wr => ∃ (j : Nat) (ia : Option Addr) (ic : Nat), j ≤ 1 + 1 ∧ i = .int .i64 j ∧ Hid (DP w wr g (.slice (some ⟨w5.heap.size, 0, none⟩) 1 1) (.slice none 0 0) (.slice ia j ic) 1 0 j)) (fun i _ => 1 + 1 - (intOf i).toNat)
          case atStart => exact ⟨0, none, 0, Nat.zero_le _, rfl, D9.out⟩
          case round =>
            obtain ⟨j, ia, ic, hj, rfl, E1⟩ := hrel
            obtain ⟨⟨c0, c1, c2⟩, f0, f1, f2⟩ := E1.out.cells
            by_cases hle : j ≤ 1
            · have hle' : (j : Int) ≤ ((1 : Nat) : Int) := by omega
              have LD := hid (E1.out.below (below_drew _))
              go_wp2_with fail
              go_region_law (first
                | (go_simp; go_at_call 23; refine (below_any g 398 _ LD.out.cu (by omega) (by omega)).mono ?_; rintro e w3 ⟨⟨x3, rfl, hx30, hx31⟩, hg3, hc3⟩; have D3 := LD.out.draw hg3 hc3; have t0 := D3.cells.1.2.2; have D4 := D3.below (below_new (o := .cells #[.int .i64 (2 + x3)] 3) (Below.refl _ _)); have t4 := D4.cells.1.2.2; have hwx : IntKind.i64.wrap (2 + x3) = 2 + x3 := wrap_small (by omega) (by omega))
                | (refine step_append_fw rfl _ _ 38 3 rfl _ 8 Tryd.underlying38 infoInt' rfl (by omega) (K := isInt) _ j rfl D4.hi (by omega) w3.heap.size (.int .i64 (2 + x3)) rfl ⟨_, rfl⟩ rfl ((Bk.new w3 3 [.int .i64 (2 + x3)]).cell (j := 0) rfl) (w.heap.size + 1) 2 (.slice ia j ic) D4.cells.1.2.2 D4.cells.2.2.2 D4.ne.2.2 ?_; intro a5 n5 c5 w5 hg5 hcc5 hff5))
              all_goals
                have hn5 : n5 = j + 1 := by obtain ⟨aa, cc, e, -⟩ := hg5.1.shape; cases e; rfl
                subst hn5
                have E2 := hid (D4.addI hg5)
                clear D3 D4 LD E1 t0 t4 hg5 hg3 hc3 c0 c1 c2 f0 f1 f2
                go_wp2
                go_roundw
                case rel => exact ⟨j + 1, a5, c5, by omega, by go_num, E2.out⟩
                case measure => simp [intOf]; omega
            · have hle' : ¬ (j : Int) ≤ ((1 : Nat) : Int) := by omega
              obtain ⟨⟨r0, r1, r2⟩, rf0, rf1, rf2⟩ := E1.out.rcells
              have HQ := hid (E1.out.done (m := 1) ⟨by omega, by omega, by omega, by omega⟩ (.slice (some ⟨w5.heap.size, 0, none⟩) 1 1) (.slice none 0 0) (.slice ia j ic))
              clear E1
              go_wp2
              refine bodyPost_ret (results_pg (x := .slice (some ⟨w5.heap.size, 0, none⟩) 1 1) (y := .slice none 0 0) (z := .slice ia j ic) rfl _ _ _ rfl (by go_simp) (by go_simp) (by go_simp)) rfl ?_
              exact HQ.out
        · have hx' : (x == 0) = false := by simp [hx]
          have DA := hid (D5.out.below (below_new (o := .cells #[.string ⟨#[99]⟩] 9) (Below.refl _ _)))
          obtain ⟨⟨a0, a1, a2⟩, af0, af1, af2⟩ := DA.out.cells
          have hfb := fw_bk (K := isStr) (Bk.new w5 9 [.string ⟨#[99]⟩]) (n := 1) rfl (by omega) (fun u hu => by simp at hu; subst hu; exact ⟨_, rfl⟩)
          have hs5 := D5.out.ltk
          have D8 := hid (DA.out.key (R := fun _ => False) (Only.refl _ _) (fun _ e => e.elim) DA.out.cu hfb (fun y e => by cases e; exact ⟨hs5, fun e2 => by have h9 : w5.heap.size < w5.heap.size := D5.out.hv.lt e2; exact absurd h9 (Nat.lt_irrefl _), fun e2 => by cases e2⟩))
          have D9 := hid (D8.out.val (nw := .slice none 0 0) (nv' := 0) (R := fun _ => False) (Only.refl _ _) (fun _ e => e.elim) D8.out.cu (.inl ⟨rfl, rfl⟩) (fun y e => by cases e))
          clear hfb hs5 DA D8 D5
          go_wp2_with fail
          go_loopw [6] (fun i wr => ∃ (j : Nat) (ia : Option Addr) (ic : Nat), j ≤ 1 + 1 ∧ i = .int .i64 j ∧ Hid (DP w wr g (.slice (some ⟨w5.heap.size, 0, none⟩) 1 1) (.slice none 0 0) (.slice ia j ic) 1 0 j)) (fun i _ => 1 + 1 - (intOf i).toNat)
          case atStart => exact ⟨0, none, 0, Nat.zero_le _, rfl, D9.out⟩
          case round =>
            obtain ⟨j, ia, ic, hj, rfl, E1⟩ := hrel
            obtain ⟨⟨c0, c1, c2⟩, f0, f1, f2⟩ := E1.out.cells
            by_cases hle : j ≤ 1
            · have hle' : (j : Int) ≤ ((1 : Nat) : Int) := by omega
              have LD := hid (E1.out.below (below_drew _))
              go_wp2_with fail
              go_region_law (first
                | (go_simp; go_at_call 23; refine (below_any g 398 _ LD.out.cu (by omega) (by omega)).mono ?_; rintro e w3 ⟨⟨x3, rfl, hx30, hx31⟩, hg3, hc3⟩; have D3 := LD.out.draw hg3 hc3; have t0 := D3.cells.1.2.2; have D4 := D3.below (below_new (o := .cells #[.int .i64 (2 + x3)] 3) (Below.refl _ _)); have t4 := D4.cells.1.2.2; have hwx : IntKind.i64.wrap (2 + x3) = 2 + x3 := wrap_small (by omega) (by omega))
                | (refine step_append_fw rfl _ _ 38 3 rfl _ 8 Tryd.underlying38 infoInt' rfl (by omega) (K := isInt) _ j rfl D4.hi (by omega) w3.heap.size (.int .i64 (2 + x3)) rfl ⟨_, rfl⟩ rfl ((Bk.new w3 3 [.int .i64 (2 + x3)]).cell (j := 0) rfl) (w.heap.size + 1) 2 (.slice ia j ic) D4.cells.1.2.2 D4.cells.2.2.2 D4.ne.2.2 ?_; intro a5 n5 c5 w5 hg5 hcc5 hff5))
              all_goals
                have hn5 : n5 = j + 1 := by obtain ⟨aa, cc, e, -⟩ := hg5.1.shape; cases e; rfl
                subst hn5
                have E2 := hid (D4.addI hg5)
                clear D3 D4 LD E1 t0 t4 hg5 hg3 hc3 c0 c1 c2 f0 f1 f2
                go_wp2
                go_roundw
                case rel => exact ⟨j + 1, a5, c5, by omega, by go_num, E2.out⟩
                case measure => simp [intOf]; omega
            · have hle' : ¬ (j : Int) ≤ ((1 : Nat) : Int) := by omega
              obtain ⟨⟨r0, r1, r2⟩, rf0, rf1, rf2⟩ := E1.out.rcells
              have HQ := hid (E1.out.done (m := 1) ⟨by omega, by omega, by omega, by omega⟩ (.slice (some ⟨w5.heap.size, 0, none⟩) 1 1) (.slice none 0 0) (.slice ia j ic))
              clear E1
              go_wp2
              refine bodyPost_ret (results_pg (x := .slice (some ⟨w5.heap.size, 0, none⟩) 1 1) (y := .slice none 0 0) (z := .slice ia j ic) rfl _ _ _ rfl (by go_simp) (by go_simp) (by go_simp)) rfl ?_
              exact HQ.out
      · have h0' : ((nk : Int) == 0) = false := by simp; omega
        have h0'' : ¬ (nk : Int) = 0 := by omega
        by_cases hx : x = 0
        · subst hx
          by_cases h4 : nk = 4
          · subst h4
            have HFK := hid D5.out.hk
            obtain ⟨kb, ko, rfl⟩ : ∃ kb ko, ka = some ⟨kb, ko, none⟩ := by
              rcases HFK.out with ⟨e, _⟩ | ⟨kb, ko, c', cur, e, _⟩
              · cases e
              · cases e; exact ⟨kb, ko, rfl⟩
            have hkc : ¬ kc = 1 := by omega
            have hft := HFK.out.tail (n := 3)
            have D8 := hid (D5.out.key (nw := .slice (some ⟨kb, ko + 1, none⟩) 3 (kc - 1)) (R := fun _ => False) (Only.refl _ _) (fun _ e => e.elim) D5.out.cu hft (fun y e => ⟨D5.out.lo y (.inl e), (D5.out.ap y).1 e⟩))
            have D9 := hid (D8.out.val (nw := .slice none 0 0) (nv' := 0) (R := fun _ => False) (Only.refl _ _) (fun _ e => e.elim) D8.out.cu (.inl ⟨rfl, rfl⟩) (fun y e => by cases e))
            clear hft D8 D5 HFK
            go_wp2_with fail
            go_loopw [6] (fun i wr => ∃ (j : Nat) (ia : Option Addr) (ic : Nat), j ≤ 3 + 1 ∧ i = .int .i64 j ∧ Hid (DP w wr g (.slice (some ⟨kb, ko + 1, none⟩) 3 (kc - 1)) (.slice none 0 0) (.slice ia j ic) 3 0 j)) (fun i _ => 3 + 1 - (intOf i).toNat)
            case atStart => exact ⟨0, none, 0, Nat.zero_le _, rfl, D9.out⟩
            case round =>
              obtain ⟨j, ia, ic, hj, rfl, E1⟩ := hrel
              obtain ⟨⟨c0, c1, c2⟩, f0, f1, f2⟩ := E1.out.cells
              by_cases hle : j ≤ 3
              · have hle' : (j : Int) ≤ ((3 : Nat) : Int) := by omega
                have LD := hid (E1.out.below (below_drew _))
                go_wp2_with fail
                go_region_law (first
                  | (go_simp; go_at_call 23; refine (below_any g 398 _ LD.out.cu (by omega) (by omega)).mono ?_; rintro e w3 ⟨⟨x3, rfl, hx30, hx31⟩, hg3, hc3⟩; have D3 := LD.out.draw hg3 hc3; have t0 := D3.cells.1.2.2; have D4 := D3.below (below_new (o := .cells #[.int .i64 (2 + x3)] 3) (Below.refl _ _)); have t4 := D4.cells.1.2.2; have hwx : IntKind.i64.wrap (2 + x3) = 2 + x3 := wrap_small (by omega) (by omega))
                  | (refine step_append_fw rfl _ _ 38 3 rfl _ 8 Tryd.underlying38 infoInt' rfl (by omega) (K := isInt) _ j rfl D4.hi (by omega) w3.heap.size (.int .i64 (2 + x3)) rfl ⟨_, rfl⟩ rfl ((Bk.new w3 3 [.int .i64 (2 + x3)]).cell (j := 0) rfl) (w.heap.size + 1) 2 (.slice ia j ic) D4.cells.1.2.2 D4.cells.2.2.2 D4.ne.2.2 ?_; intro a5 n5 c5 w5 hg5 hcc5 hff5))
                all_goals
                  have hn5 : n5 = j + 1 := by obtain ⟨aa, cc, e, -⟩ := hg5.1.shape; cases e; rfl
                  subst hn5
                  have E2 := hid (D4.addI hg5)
                  clear D3 D4 LD E1 t0 t4 hg5 hg3 hc3 c0 c1 c2 f0 f1 f2
                  go_wp2
                  go_roundw
                  case rel => exact ⟨j + 1, a5, c5, by omega, by go_num, E2.out⟩
                  case measure => simp [intOf]; omega
              · have hle' : ¬ (j : Int) ≤ ((3 : Nat) : Int) := by omega
                obtain ⟨⟨r0, r1, r2⟩, rf0, rf1, rf2⟩ := E1.out.rcells
                have HQ := hid (E1.out.done (m := 1) ⟨by omega, by omega, by omega, by omega⟩ (.slice (some ⟨kb, ko + 1, none⟩) 3 (kc - 1)) (.slice none 0 0) (.slice ia j ic))
                clear E1
                go_wp2
                refine bodyPost_ret (results_pg (x := .slice (some ⟨kb, ko + 1, none⟩) 3 (kc - 1)) (y := .slice none 0 0) (z := .slice ia j ic) rfl _ _ _ rfl (by go_simp) (by go_simp) (by go_simp)) rfl ?_
                exact HQ.out
          · have h4' : ((nk : Int) == 4) = false := by simp; omega
            have h4'' : ¬ (nk : Int) = 4 := by omega
            have D9 := hid (D5.out.val (nw := .slice none 0 0) (nv' := 0) (R := fun _ => False) (Only.refl _ _) (fun _ e => e.elim) D5.out.cu (.inl ⟨rfl, rfl⟩) (fun y e => by cases e))
            clear D5
            go_wp2_with fail
            go_loopw [6] (fun i wr => ∃ (j : Nat) (ia : Option Addr) (ic : Nat), j ≤ nk + 1 ∧ i = .int .i64 j ∧ Hid (DP w wr g (.slice ka nk kc) (.slice none 0 0) (.slice ia j ic) nk 0 j)) (fun i _ => nk + 1 - (intOf i).toNat)
            case atStart => exact ⟨0, none, 0, Nat.zero_le _, rfl, D9.out⟩
            case round =>
              obtain ⟨j, ia, ic, hj, rfl, E1⟩ := hrel
              obtain ⟨⟨c0, c1, c2⟩, f0, f1, f2⟩ := E1.out.cells
              by_cases hle : j ≤ nk
              · have hle' : (j : Int) ≤ ((nk : Nat) : Int) := by omega
                have LD := hid (E1.out.below (below_drew _))
                go_wp2_with fail
                go_region_law (first
                  | (go_simp; go_at_call 23; refine (below_any g 398 _ LD.out.cu (by omega) (by omega)).mono ?_; rintro e w3 ⟨⟨x3, rfl, hx30, hx31⟩, hg3, hc3⟩; have D3 := LD.out.draw hg3 hc3; have t0 := D3.cells.1.2.2; have D4 := D3.below (below_new (o := .cells #[.int .i64 (2 + x3)] 3) (Below.refl _ _)); have t4 := D4.cells.1.2.2; have hwx : IntKind.i64.wrap (2 + x3) = 2 + x3 := wrap_small (by omega) (by omega))
                  | (refine step_append_fw rfl _ _ 38 3 rfl _ 8 Tryd.underlying38 infoInt' rfl (by omega) (K := isInt) _ j rfl D4.hi (by omega) w3.heap.size (.int .i64 (2 + x3)) rfl ⟨_, rfl⟩ rfl ((Bk.new w3 3 [.int .i64 (2 + x3)]).cell (j := 0) rfl) (w.heap.size + 1) 2 (.slice ia j ic) D4.cells.1.2.2 D4.cells.2.2.2 D4.ne.2.2 ?_; intro a5 n5 c5 w5 hg5 hcc5 hff5))
                all_goals
                  have hn5 : n5 = j + 1 := by obtain ⟨aa, cc, e, -⟩ := hg5.1.shape; cases e; rfl
                  subst hn5
                  have E2 := hid (D4.addI hg5)
                  clear D3 D4 LD E1 t0 t4 hg5 hg3 hc3 c0 c1 c2 f0 f1 f2
                  go_wp2
                  go_roundw
                  case rel => exact ⟨j + 1, a5, c5, by omega, by go_num, E2.out⟩
                  case measure => simp [intOf]; omega
              · have hle' : ¬ (j : Int) ≤ ((nk : Nat) : Int) := by omega
                obtain ⟨⟨r0, r1, r2⟩, rf0, rf1, rf2⟩ := E1.out.rcells
                have HQ := hid (E1.out.done (m := 1) ⟨by omega, by omega, by omega, by omega⟩ (.slice ka nk kc) (.slice none 0 0) (.slice ia j ic))
                clear E1
                go_wp2
                refine bodyPost_ret (results_pg (x := .slice ka nk kc) (y := .slice none 0 0) (z := .slice ia j ic) rfl _ _ _ rfl (by go_simp) (by go_simp) (by go_simp)) rfl ?_
                exact HQ.out
        · have hx' : (x == 0) = false := by simp [hx]
          obtain ⟨⟨r0, r1, r2⟩, rf0, rf1, rf2⟩ := D5.out.rcells
          have HQ := hid (D5.out.done (m := 1) ⟨by omega, by omega, by omega, by omega⟩ (.slice ka nk kc) (.slice va nk vc) (.slice none 0 0))
          clear D5
          go_wp2
          refine bodyPost_ret (results_pg (x := .slice ka nk kc) (y := .slice va nk vc) (z := .slice none 0 0) rfl _ _ _ rfl (by go_simp) (by go_simp) (by go_simp)) rfl ?_
          exact HQ.out
end Go.Proofs.YtpgogpphobafoabDoor
/-
  l04Any: a page is drawn, and one place of it may be turned.
-/
namespace Go.Proofs.YtpgogpphobafoabDoor
open Go.RowKit
/-- The page lies in the box p behind its rows. -/
structure DQ (w v : World) (g p : Nat) (kv vv iv : Value) (nk nv ni : Nat) : Prop where
  gr : w.grownBy v (some g)
  cu : Cu v g
  rb : Bk v w.heap.size 40 [.slice none 0 0, .slice none 0 0, .slice none 0 0]
  bk : Bk v p 40 [kv, vv, iv]
  hk : Fw v 9 isStr kv nk
  hv : Fw v 9 isStr vv nv
  hi : Fw v 3 isInt iv ni
  lo : ∀ y, (kv.ownBlock = some y ∨ vv.ownBlock = some y ∨ iv.ownBlock = some y) → w.heap.size + 1 < y ∧ y ≠ p
  ap : ∀ y, (kv.ownBlock = some y → vv.ownBlock ≠ some y ∧ iv.ownBlock ≠ some y) ∧ (vv.ownBlock = some y → iv.ownBlock ≠ some y)
  lt : g < w.heap.size
  hp : w.heap.size < p
theorem DQ.turn {w v v' : World} {g p : Nat} {kv vv iv kv' vv' iv' : Value} {nk nv ni nk' nv' ni' : Nat} (h : DQ w v g p kv vv iv nk nv ni) {R : Nat → Prop} (ho : Only R v v') (hR : ∀ y, R y → y = g ∨ w.heap.size < y) (hc : Cu v' g) (hb : Bk v' p 40 [kv', vv', iv'])
    (h1 : Fw v' 9 isStr kv' nk') (h2 : Fw v' 9 isStr vv' nv') (h3 : Fw v' 3 isInt iv' ni')
    (hlo : ∀ y, (kv'.ownBlock = some y ∨ vv'.ownBlock = some y ∨ iv'.ownBlock = some y) → w.heap.size + 1 < y ∧ y ≠ p)
    (hap : ∀ y, (kv'.ownBlock = some y → vv'.ownBlock ≠ some y ∧ iv'.ownBlock ≠ some y) ∧ (vv'.ownBlock = some y → iv'.ownBlock ≠ some y)) : DQ w v' g p kv' vv' iv' nk' nv' ni' := by
  have hlt := h.lt
  have hs := h.gr.size
  refine ⟨⟨ho.os.trans h.gr.os, ho.tape.trans h.gr.tape, ho.output.trans h.gr.output, Nat.le_trans hs ho.size, fun k hk1 hne => ?_⟩, hc, h.rb.to ho (fun hr => by rcases hR _ hr with e | e <;> omega), hb, h1, h2, h3, hlo, hap, hlt, h.hp⟩
  rw [ho.block k (by omega) (fun hr => by
    rcases hR k hr with e | e
    · exact hne (by rw [e])
    · omega)]
  exact h.gr.block k hk1 hne
theorem DQ.to {w v v' : World} {g p : Nat} {kv vv iv : Value} {nk nv ni : Nat} (h : DQ w v g p kv vv iv nk nv ni) {R : Nat → Prop} (ho : Only R v v') (hc : Cu v' g) (hR : ∀ y, R y → y = g) : DQ w v' g p kv vv iv nk nv ni := by
  have hlt := h.lt
  have hp := h.hp
  have hz : ∀ y, (kv.ownBlock = some y ∨ vv.ownBlock = some y ∨ iv.ownBlock = some y) → ¬ R y := fun y e hr => by have := (h.lo y e).1; have := hR y hr; omega
  exact h.turn ho (fun y hr => .inl (hR y hr)) hc (h.bk.to ho (fun hr => by have := hR _ hr; omega)) (h.hk.to ho (fun y e => hz y (.inl e))) (h.hv.to ho (fun y e => hz y (.inr (.inl e)))) (h.hi.to ho (fun y e => hz y (.inr (.inr e)))) h.lo h.ap
theorem DQ.draw {w v v' : World} {g p : Nat} {kv vv iv : Value} {nk nv ni : Nat} (h : DQ w v g p kv vv iv nk nv ni) (hg : v.grownBy v' (some g)) (hc : Cu v' g) : DQ w v' g p kv vv iv nk nv ni :=
  h.to (R := fun y => y = g) (only_of_grown hg (fun k e => by cases e; rfl)) hc (fun y e => e)
theorem DQ.below {w v v' : World} {g p : Nat} {kv vv iv : Value} {nk nv ni : Nat} (h : DQ w v g p kv vv iv nk nv ni) (hb : Below v.heap.size v v') : DQ w v' g p kv vv iv nk nv ni :=
  h.to (R := fun _ => False) (only_of_below hb _) (h.cu.below hb) (fun _ e => e.elim)
theorem DQ.cells {w v : World} {g p : Nat} {kv vv iv : Value} {nk nv ni : Nat} (h : DQ w v g p kv vv iv nk nv ni) :
    (v.cell? ⟨p, 0, none⟩ = some kv ∧ v.cell? ⟨p, 1, none⟩ = some vv ∧ v.cell? ⟨p, 2, none⟩ = some iv) ∧ (v.frozen? ⟨p, 0, none⟩ = false ∧ v.frozen? ⟨p, 1, none⟩ = false ∧ v.frozen? ⟨p, 2, none⟩ = false) :=
  ⟨⟨h.bk.cell (j := 0) rfl, h.bk.cell (j := 1) rfl, h.bk.cell (j := 2) rfl⟩, h.bk.free 0, h.bk.free 1, h.bk.free 2⟩
theorem DQ.rcells {w v : World} {g p : Nat} {kv vv iv : Value} {nk nv ni : Nat} (h : DQ w v g p kv vv iv nk nv ni) :
    (v.cell? ⟨w.heap.size, 0, none⟩ = some (.slice none 0 0) ∧ v.cell? ⟨w.heap.size, 1, none⟩ = some (.slice none 0 0) ∧ v.cell? ⟨w.heap.size, 2, none⟩ = some (.slice none 0 0)) ∧ (v.frozen? ⟨w.heap.size, 0, none⟩ = false ∧ v.frozen? ⟨w.heap.size, 1, none⟩ = false ∧ v.frozen? ⟨w.heap.size, 2, none⟩ = false) :=
  ⟨⟨h.rb.cell (j := 0) rfl, h.rb.cell (j := 1) rfl, h.rb.cell (j := 2) rfl⟩, h.rb.free 0, h.rb.free 1, h.rb.free 2⟩
theorem DQ.ltk {w v : World} {g p : Nat} {kv vv iv : Value} {nk nv ni : Nat} (h : DQ w v g p kv vv iv nk nv ni) : w.heap.size + 1 < v.heap.size := by have := h.bk.lt; have := h.hp; omega
theorem DQ.addK {w v v1 : World} {g p : Nat} {kv vv iv nw : Value} {nk nv ni : Nat} (h : DQ w v g p kv vv iv nk nv ni) (hg : FwGot v 9 isStr kv nk nw v1) : DQ w (v1.setCell ⟨p, 0, none⟩ nw) g p nw vv iv (nk + 1) nv ni := by
  have hlk := h.ltk
  have hpl := h.bk.lt
  have hp := h.hp
  have hlt := h.lt
  have hgo : Only (fun y => kv.ownBlock = some y) v v1 := only_of_grown hg.2.1 (fun k e => e)
  have ho2 : Only (fun y => y = p) v1 (v1.setCell ⟨p, 0, none⟩ nw) := only_set (R := fun y => y = p) rfl _
  have hn : ∀ y, nw.ownBlock = some y → (w.heap.size + 1 < y ∧ y ≠ p) ∧ vv.ownBlock ≠ some y ∧ iv.ownBlock ≠ some y := by
    intro y e
    rcases hg.2.2 with e2 | ⟨k, e2, hk⟩
    · rw [e2] at e
      exact ⟨h.lo y (.inl e), fun e3 => (fun (e : vv.ownBlock = some y) (hr : kv.ownBlock = some y) => ((h.ap y).1 hr).1 e) e3 e, fun e3 => (fun (e : iv.ownBlock = some y) (hr : kv.ownBlock = some y) => ((h.ap y).1 hr).2 e) e3 e⟩
    · rw [e2] at e
      cases e
      exact ⟨⟨by omega, by omega⟩, fun e3 => by have := h.hv.lt e3; omega, fun e3 => by have := h.hi.lt e3; omega⟩
  refine h.turn (R := fun y => kv.ownBlock = some y ∨ y = p) ((hgo.mono (fun y _ e => .inl e)).trans (ho2.mono (fun y _ e => .inr e))) (fun y hr => .inr (hr.elim (fun e => by have := (h.lo y (.inl e)).1; omega) (fun e => by omega))) ((h.cu.kept hg.2.1 (fun k e => by have := (h.lo k (.inl e)).1; omega)).setP _ _ _ (by omega)) ((h.bk.to hgo (fun hr => (h.lo _ (.inl hr)).2 rfl)).set 0 nw) (hg.1.to ho2 (fun y e hr => (hn y e).1.2 hr)) ((h.hv.to hgo (fun y e hr => ((h.ap y).1 hr).1 e)).to ho2 (fun y e hr => (h.lo y (.inr (.inl e))).2 hr)) ((h.hi.to hgo (fun y e hr => ((h.ap y).1 hr).2 e)).to ho2 (fun y e hr => (h.lo y (.inr (.inr e))).2 hr)) ?_ (fun y => ⟨fun e => ⟨(hn y e).2.1, (hn y e).2.2⟩, (h.ap y).2⟩)
  rintro y (e | e | e)
  · exact (hn y e).1
  · exact h.lo y (.inr (.inl e))
  · exact h.lo y (.inr (.inr e))
theorem DQ.addV {w v v1 : World} {g p : Nat} {kv vv iv nw : Value} {nk nv ni : Nat} (h : DQ w v g p kv vv iv nk nv ni) (hg : FwGot v 9 isStr vv nv nw v1) : DQ w (v1.setCell ⟨p, 1, none⟩ nw) g p kv nw iv nk (nv + 1) ni := by
  have hlk := h.ltk
  have hpl := h.bk.lt
  have hp := h.hp
  have hlt := h.lt
  have hgo : Only (fun y => vv.ownBlock = some y) v v1 := only_of_grown hg.2.1 (fun k e => e)
  have ho2 : Only (fun y => y = p) v1 (v1.setCell ⟨p, 1, none⟩ nw) := only_set (R := fun y => y = p) rfl _
  have hn : ∀ y, nw.ownBlock = some y → (w.heap.size + 1 < y ∧ y ≠ p) ∧ kv.ownBlock ≠ some y ∧ iv.ownBlock ≠ some y := by
    intro y e
    rcases hg.2.2 with e2 | ⟨k, e2, hk⟩
    · rw [e2] at e
      exact ⟨h.lo y (.inr (.inl e)), fun e3 => (fun (e : kv.ownBlock = some y) (hr : vv.ownBlock = some y) => ((h.ap y).1 e).1 hr) e3 e, fun e3 => (fun (e : iv.ownBlock = some y) (hr : vv.ownBlock = some y) => (h.ap y).2 hr e) e3 e⟩
    · rw [e2] at e
      cases e
      exact ⟨⟨by omega, by omega⟩, fun e3 => by have := h.hk.lt e3; omega, fun e3 => by have := h.hi.lt e3; omega⟩
  refine h.turn (R := fun y => vv.ownBlock = some y ∨ y = p) ((hgo.mono (fun y _ e => .inl e)).trans (ho2.mono (fun y _ e => .inr e))) (fun y hr => .inr (hr.elim (fun e => by have := (h.lo y (.inr (.inl e))).1; omega) (fun e => by omega))) ((h.cu.kept hg.2.1 (fun k e => by have := (h.lo k (.inr (.inl e))).1; omega)).setP _ _ _ (by omega)) ((h.bk.to hgo (fun hr => (h.lo _ (.inr (.inl hr))).2 rfl)).set 1 nw) ((h.hk.to hgo (fun y e hr => ((h.ap y).1 e).1 hr)).to ho2 (fun y e hr => (h.lo y (.inl e)).2 hr)) (hg.1.to ho2 (fun y e hr => (hn y e).1.2 hr)) ((h.hi.to hgo (fun y e hr => (h.ap y).2 hr e)).to ho2 (fun y e hr => (h.lo y (.inr (.inr e))).2 hr)) ?_ (fun y => ⟨fun e => ⟨fun e2 => (hn y e2).2.1 e, ((h.ap y).1 e).2⟩, fun e => (hn y e).2.2⟩)
  rintro y (e | e | e)
  · exact h.lo y (.inl e)
  · exact (hn y e).1
  · exact h.lo y (.inr (.inr e))
theorem DQ.addI {w v v1 : World} {g p : Nat} {kv vv iv nw : Value} {nk nv ni : Nat} (h : DQ w v g p kv vv iv nk nv ni) (hg : FwGot v 3 isInt iv ni nw v1) : DQ w (v1.setCell ⟨p, 2, none⟩ nw) g p kv vv nw nk nv (ni + 1) := by
  have hlk := h.ltk
  have hpl := h.bk.lt
  have hp := h.hp
  have hlt := h.lt
  have hgo : Only (fun y => iv.ownBlock = some y) v v1 := only_of_grown hg.2.1 (fun k e => e)
  have ho2 : Only (fun y => y = p) v1 (v1.setCell ⟨p, 2, none⟩ nw) := only_set (R := fun y => y = p) rfl _
  have hn : ∀ y, nw.ownBlock = some y → (w.heap.size + 1 < y ∧ y ≠ p) ∧ kv.ownBlock ≠ some y ∧ vv.ownBlock ≠ some y := by
    intro y e
    rcases hg.2.2 with e2 | ⟨k, e2, hk⟩
    · rw [e2] at e
      exact ⟨h.lo y (.inr (.inr e)), fun e3 => (fun (e : kv.ownBlock = some y) (hr : iv.ownBlock = some y) => ((h.ap y).1 e).2 hr) e3 e, fun e3 => (fun (e : vv.ownBlock = some y) (hr : iv.ownBlock = some y) => (h.ap y).2 e hr) e3 e⟩
    · rw [e2] at e
      cases e
      exact ⟨⟨by omega, by omega⟩, fun e3 => by have := h.hk.lt e3; omega, fun e3 => by have := h.hv.lt e3; omega⟩
  refine h.turn (R := fun y => iv.ownBlock = some y ∨ y = p) ((hgo.mono (fun y _ e => .inl e)).trans (ho2.mono (fun y _ e => .inr e))) (fun y hr => .inr (hr.elim (fun e => by have := (h.lo y (.inr (.inr e))).1; omega) (fun e => by omega))) ((h.cu.kept hg.2.1 (fun k e => by have := (h.lo k (.inr (.inr e))).1; omega)).setP _ _ _ (by omega)) ((h.bk.to hgo (fun hr => (h.lo _ (.inr (.inr hr))).2 rfl)).set 2 nw) ((h.hk.to hgo (fun y e hr => ((h.ap y).1 e).2 hr)).to ho2 (fun y e hr => (h.lo y (.inl e)).2 hr)) ((h.hv.to hgo (fun y e hr => (h.ap y).2 e hr)).to ho2 (fun y e hr => (h.lo y (.inr (.inl e))).2 hr)) (hg.1.to ho2 (fun y e hr => (hn y e).1.2 hr)) ?_ (fun y => ⟨fun e => ⟨((h.ap y).1 e).1, fun e2 => (hn y e2).2.1 e⟩, fun e e2 => (hn y e2).2.2 e⟩)
  rintro y (e | e | e)
  · exact h.lo y (.inl e)
  · exact h.lo y (.inr (.inl e))
  · exact (hn y e).1
theorem DQ.poke {w v : World} {g p : Nat} {kv vv iv : Value} {nk nv ni : Nat} (h : DQ w v g p kv vv iv nk nv ni) {b o : Nat} {x : Value} (hb : kv.ownBlock = some b ∨ vv.ownBlock = some b ∨ iv.ownBlock = some b) (h1 : Fw (v.setCell ⟨b, o, none⟩ x) 9 isStr kv nk) (h2 : Fw (v.setCell ⟨b, o, none⟩ x) 9 isStr vv nv) (h3 : Fw (v.setCell ⟨b, o, none⟩ x) 3 isInt iv ni) : DQ w (v.setCell ⟨b, o, none⟩ x) g p kv vv iv nk nv ni := by
  have hl := h.lo b hb
  have hlt := h.lt
  exact h.turn (R := fun y => y = b) (only_set (R := fun y => y = b) rfl _) (fun y e => .inr (by omega)) (h.cu.setP _ _ _ (by omega)) (h.bk.setOther (fun e => hl.2 e.symm) _ _) h1 h2 h3 h.lo h.ap
/-- What l04Any answers: a page whose rows may be read. -/
def DpQ (w : World) (g m : Nat) (e : Ending) (w' : World) : Prop := ∃ (ka : Option Addr) (kn kc : Nat) (va : Option Addr) (vn vc : Nat) (ia : Option Addr) (jn ic : Nat), e = .returned (.agg #[.slice ka kn kc, .slice va vn vc, .slice ia jn ic]) ∧ (m ≤ kn ∧ kn ≤ 101 ∧ vn ≤ 101 ∧ jn ≤ 101) ∧
  w.grownBy w' (some g) ∧ Cu w' g ∧ Fw w' 9 isStr (.slice ka kn kc) kn ∧ Fw w' 9 isStr (.slice va vn vc) vn ∧ Fw w' 3 isInt (.slice ia jn ic) jn ∧ (∀ y, ((Value.slice ka kn kc).ownBlock = some y ∨ (Value.slice va vn vc).ownBlock = some y ∨ (Value.slice ia jn ic).ownBlock = some y) → w.heap.size + 1 < y)
theorem DQ.done {w v : World} {g p : Nat} {ka : Option Addr} {kn kc : Nat} {va : Option Addr} {vn vc : Nat} {ia : Option Addr} {jn ic m : Nat} (h : DQ w v g p (.slice ka kn kc) (.slice va vn vc) (.slice ia jn ic) kn vn jn) (hm : m ≤ kn ∧ kn ≤ 101 ∧ vn ≤ 101 ∧ jn ≤ 101) (x y z : Value) :
    DpQ w g m (.returned (.agg #[.slice ka kn kc, .slice va vn vc, .slice ia jn ic])) (((v.setCell ⟨w.heap.size, 0, none⟩ x).setCell ⟨w.heap.size, 1, none⟩ y).setCell ⟨w.heap.size, 2, none⟩ z) := by
  have hlt := h.lt
  have hs := h.gr.size
  have ho : Only (fun y => y = w.heap.size) v (((v.setCell ⟨w.heap.size, 0, none⟩ x).setCell ⟨w.heap.size, 1, none⟩ y).setCell ⟨w.heap.size, 2, none⟩ z) :=
    ((only_set (R := fun y => y = w.heap.size) rfl _).trans (only_set (R := fun y => y = w.heap.size) rfl _)).trans (only_set (R := fun y => y = w.heap.size) rfl _)
  refine ⟨ka, kn, kc, va, vn, vc, ia, jn, ic, rfl, hm, ⟨ho.os.trans h.gr.os, ho.tape.trans h.gr.tape, ho.output.trans h.gr.output, Nat.le_trans hs ho.size, fun k hk1 hne => ?_⟩, ((h.cu.setP _ _ _ hlt).setP _ _ _ hlt).setP _ _ _ hlt, h.hk.to ho (fun y e hr => by have := (h.lo y (.inl e)).1; omega), h.hv.to ho (fun y e hr => by have := (h.lo y (.inr (.inl e))).1; omega), h.hi.to ho (fun y e hr => by have := (h.lo y (.inr (.inr e))).1; omega), fun y e => (h.lo y e).1⟩
  rw [ho.block k (by omega) (by omega)]
  exact h.gr.block k hk1 hne
theorem four_new (w6 : World) (s : Int) {z : Int} (h0 : 0 ≤ z) (h1 : z < 4) : ∃ i : Int, (w6.alloc (.cells #[.int .i64 1, .int .i64 2, .int .i64 400, .int .i64 s] 3)).cell? ⟨w6.heap.size, z.toNat, none⟩ = some (.int .i64 i) := by
  have hb := Bk.new w6 3 [.int .i64 1, .int .i64 2, .int .i64 400, .int .i64 s]
  have hz : z = 0 ∨ z = 1 ∨ z = 2 ∨ z = 3 := by omega
  rcases hz with rfl | rfl | rfl | rfl
  · exact ⟨_, hb.cell (j := 0) rfl⟩
  · exact ⟨_, hb.cell (j := 1) rfl⟩
  · exact ⟨_, hb.cell (j := 2) rfl⟩
  · exact ⟨_, hb.cell (j := 3) rfl⟩
theorem four_at {w4 w6 : World} {g : Nat} {s z : Int} (hg : (w4.alloc (.cells #[.int .i64 1, .int .i64 2, .int .i64 400, .int .i64 s] 3)).grownBy w6 (some g)) (hlt : g < w4.heap.size) (h0 : 0 ≤ z) (h1 : z < 4) : ∃ i : Int, w6.cell? ⟨w4.heap.size, z.toNat, none⟩ = some (.int .i64 i) := by
  have hb := (Bk.new w4 3 [.int .i64 1, .int .i64 2, .int .i64 400, .int .i64 s]).to (only_of_grown (R := fun y => y = g) hg (fun k e => by cases e; rfl)) (by omega)
  have hz : z = 0 ∨ z = 1 ∨ z = 2 ∨ z = 3 := by omega
  rcases hz with rfl | rfl | rfl | rfl
  · exact ⟨_, hb.cell (j := 0) rfl⟩
  · exact ⟨_, hb.cell (j := 1) rfl⟩
  · exact ⟨_, hb.cell (j := 2) rfl⟩
  · exact ⟨_, hb.cell (j := 3) rfl⟩
set_option maxHeartbeats 8000000 in
set_option maxRecDepth 20000 in
theorem anyPage_any (g : Nat) (w : World) (h : Cu w g) : Calls Tryd.prog 33 #[.pointer (some ⟨g, 0, none⟩)] w fun e w' => DpQ w g 0 e w' := by
  have hlt := h.lt
  have HC0 := hid (h.below (below_new (o := .cells #[.slice none 0 0, .slice none 0 0, .slice none 0 0] 40) (Below.refl _ _)))
  have HR0 := hid (Bk.new w 40 [.slice none 0 0, .slice none 0 0, .slice none 0 0])
  have HG0 : Hid (w.grownBy (w.alloc (.cells #[.slice none 0 0, .slice none 0 0, .slice none 0 0] 40)) (some g)) := grown_of_below (below_new (Below.refl _ _)) _
  have HLT := hid hlt
  clear h hlt
  go_enter Tryd.func33, Tryd.ntmps33
  go_wp2_with fail
  refine (page_any g _ HC0.out).mono ?_
  rintro e w1 ⟨ka, kn, kc, va, vn, vc, ia, jn, ic, rfl, ⟨hm0, hm1, hm2, hm3⟩, hg1, hc1, hk1, hv1, hi1, hlo1, hap1⟩
  have hsz : (w.alloc (.cells #[.slice none 0 0, .slice none 0 0, .slice none 0 0] 40)).heap.size = w.heap.size + 1 := by simp
  have D1 : Hid (DQ w (w1.alloc (.cells #[.slice ka kn kc, .slice va vn vc, .slice ia jn ic] 40)) g w1.heap.size (.slice ka kn kc) (.slice va vn vc) (.slice ia jn ic) kn vn jn) := by
    have hb : Below w1.heap.size w1 (w1.alloc (.cells #[.slice ka kn kc, .slice va vn vc, .slice ia jn ic] 40)) := below_new (Below.refl _ _)
    have hlt := HLT.out
    have hs1 := hg1.size
    rw [hsz] at hs1 hlo1
    have ho : Only (fun y => y = g) _ w1 := only_of_grown hg1 (fun k e => by cases e; rfl)
    have hob : Only (fun _ => False) w1 (w1.alloc (.cells #[.slice ka kn kc, .slice va vn vc, .slice ia jn ic] 40)) := only_of_below hb _
    exact ⟨grownBy_trans (grownBy_trans HG0.out hg1) (grown_of_below hb _), hc1.below hb, (HR0.out.to ho (by omega)).to hob id, Bk.new _ _ _, hk1.to hob (fun _ _ e => e), hv1.to hob (fun _ _ e => e), hi1.to hob (fun _ _ e => e),
      fun y hy => ⟨by have := hlo1 y hy; omega, by
        have : y < w1.heap.size := by
          rcases hy with e | e | e
          · exact hk1.lt e
          · exact hv1.lt e
          · exact hi1.lt e
        omega⟩, hap1, hlt, by omega⟩
  have HP : Hid (w.heap.size < w1.heap.size) := D1.out.hp
  clear hsz hg1 hc1 hk1 hv1 hi1 hlo1 hap1 HC0 HR0 HG0
  generalize hpp : w1.heap.size = p at *
  go_wp2_with fail
  refine (below_any g 14 _ D1.out.cu (by omega) (by omega)).mono ?_
  rintro e w3 ⟨⟨x, rfl, hx0, hx1⟩, hg3, hc3⟩
  have D3 := hid (D1.out.draw hg3 hc3)
  have hpn : ¬ w.heap.size = p := by have := HP.out; omega
  have hpn' : ¬ p = w.heap.size := by have := HP.out; omega
  clear D1 hg3 hc3 hpp
  by_cases x0 : x = 0
  case pos =>
    subst x0
    obtain ⟨b, off, rfl⟩ : ∃ b off, ka = some ⟨b, off, none⟩ := by
      rcases D3.out.hk with ⟨e, e2⟩ | ⟨b, off, c, cur, e, -⟩
      · omega
      · cases e
        exact ⟨b, off, rfl⟩
    have HC : Hid (∀ v, DQ w v g p (.slice (some ⟨b, off, none⟩) kn kc) (.slice va vn vc) (.slice ia jn ic) kn vn jn → v.cell? ⟨p, 0, none⟩ = some (.slice (some ⟨b, off, none⟩) kn kc) ∧ (∃ u, v.cell? ⟨b, off, none⟩ = some u) ∧ v.frozen? ⟨b, off, none⟩ = false ∧ ∀ s : ByteArray, DQ w (v.setCell ⟨b, off, none⟩ (.string s)) g p (.slice (some ⟨b, off, none⟩) kn kc) (.slice va vn vc) (.slice ia jn ic) kn vn jn) := by
      intro v hv
      obtain ⟨u, hu, -⟩ := hv.hk.cell (j := 0) (by omega)
      exact ⟨hv.bk.cell (j := 0) rfl, ⟨u, by simpa using hu⟩, hv.hk.free _, fun s => hv.poke (.inl rfl) (by have := hv.hk.set 0 (u := .string s) ⟨_, rfl⟩; simpa using this) (hv.hv.to (only_set (R := fun y => y = b) rfl _) (fun y e hr => by subst hr; have hr0 : (Value.slice (some ⟨y, off, none⟩) kn kc).ownBlock = some y := rfl; exact ((hv.ap y).1 hr0).1 e)) (hv.hi.to (only_set (R := fun y => y = b) rfl _) (fun y e hr => by subst hr; have hr0 : (Value.slice (some ⟨y, off, none⟩) kn kc).ownBlock = some y := rfl; exact ((hv.ap y).1 hr0).2 e))⟩
    obtain ⟨⟨c0, c1, c2⟩, f0, f1, f2⟩ := D3.out.cells
    go_wp2_with fail
    go_cut [4] (fun x v => x = .int .i64 0 ∧ Hid (DQ w v g p (.slice (some ⟨b, off, none⟩) kn kc) (.slice va vn vc) (.slice ia jn ic) kn vn jn))
    case first =>
      go_region_with (go_at_call 49; refine (anyKey_any g _ (D3.out.below (below_drew _)).cu).mono ?_; rintro e w4 ⟨⟨s, rfl, -⟩, hg4, hc4⟩; have T4 := (D3.out.below (below_drew _)).draw hg4 hc4; have t4 := (HC.out _ T4).1; obtain ⟨u4, m4⟩ := (HC.out _ T4).2.1; have f4 := (HC.out _ T4).2.2.1)
      all_goals (go_wp2_with fail; go_meet)
      all_goals exact ⟨rfl, (HC.out _ T4).2.2.2 _⟩
    case rest =>
      obtain ⟨rfl, HT⟩ := hcut
      clear HC D3 c0 c1 c2 f0 f1 f2
      obtain ⟨⟨c0, c1, c2⟩, f0, f1, f2⟩ := HT.out.cells
      obtain ⟨⟨r0, r1, r2⟩, rf0, rf1, rf2⟩ := HT.out.rcells
      have HQ := hid (HT.out.done (m := 0) ⟨by omega, by omega, by omega, by omega⟩ (.slice (some ⟨b, off, none⟩) kn kc) (.slice va vn vc) (.slice ia jn ic))
      clear HT
      go_wp2
      refine bodyPost_ret (results_pg (x := .slice (some ⟨b, off, none⟩) kn kc) (y := .slice va vn vc) (z := .slice ia jn ic) rfl _ _ _ rfl (by go_simp) (by go_simp) (by go_simp)) rfl ?_
      exact HQ.out
  case neg =>
    by_cases x1 : x = 1
    case pos =>
      subst x1
      have D5 := hid (D3.out.below (below_new (o := .cells #[.string ⟨#[122, 122]⟩] 9) (Below.refl _ _)))
      have e5 := (Bk.new w3 9 [.string ⟨#[122, 122]⟩]).cell (j := 0) rfl
      obtain ⟨⟨c0, c1, c2⟩, f0, f1, f2⟩ := D3.out.cells
      go_wp2_with (at_builtin; refine wpList_append_fw rfl _ _ 37 9 rfl _ 16 Tryd.underlying37 infoStr' rfl (by omega) (K := isStr) _ kn rfl D5.out.hk (by omega) _ (.string ⟨#[122, 122]⟩) rfl ⟨_, rfl⟩ rfl e5 ?_)
      intro a6 n6 c6 w6 hg6
      have hn6 : n6 = kn + 1 := by obtain ⟨aa, cc, e, -⟩ := hg6.1.shape; cases e; rfl
      subst hn6
      have D6 := hid (D5.out.addK hg6)
      have hgo : Only (fun y => (Value.slice ka kn kc).ownBlock = some y) _ w6 := only_of_grown hg6.2.1 (fun k e => e)
      have KP := D5.out.bk.to hgo (fun e => (D5.out.lo _ (.inl e)).2 rfl)
      have RP := D5.out.rb.to hgo (fun e => by have := (D5.out.lo _ (.inl e)).1; omega)
      clear c0 c1 c2 f0 f1 f2 e5 hgo hg6
      have c0 := KP.cell (j := 0) rfl
      have c1 := KP.cell (j := 1) rfl
      have c2 := KP.cell (j := 2) rfl
      have f0 := KP.free 0
      have f1 := KP.free 1
      have f2 := KP.free 2
      have r0 := RP.cell (j := 0) rfl
      have r1 := RP.cell (j := 1) rfl
      have r2 := RP.cell (j := 2) rfl
      have rf0 := RP.free 0
      have rf1 := RP.free 1
      have rf2 := RP.free 2
      have HQ := hid (D6.out.done (m := 0) ⟨by omega, by omega, by omega, by omega⟩ (.slice a6 (kn + 1) c6) (.slice va vn vc) (.slice ia jn ic))
      clear D3 D5 D6 KP RP
      go_wp2
      refine bodyPost_ret (results_pg (x := .slice a6 (kn + 1) c6) (y := .slice va vn vc) (z := .slice ia jn ic) rfl _ _ _ rfl (by go_simp) (by go_simp) (by go_simp)) rfl ?_
      exact HQ.out
    case neg =>
      by_cases x2 : x = 2
      case pos =>
        subst x2
        by_cases hz : 0 < vn
        · have hz' : (0 : Int) < (vn : Int) := by omega
          obtain ⟨b, off, rfl⟩ : ∃ b off, va = some ⟨b, off, none⟩ := by
            rcases D3.out.hv with ⟨e, e2⟩ | ⟨b, off, c, cur, e, -⟩
            · omega
            · cases e
              exact ⟨b, off, rfl⟩
          have HC : Hid (∀ v, DQ w v g p (.slice ka kn kc) (.slice (some ⟨b, off, none⟩) vn vc) (.slice ia jn ic) kn vn jn → v.cell? ⟨p, 1, none⟩ = some (.slice (some ⟨b, off, none⟩) vn vc) ∧ (∃ u, v.cell? ⟨b, off, none⟩ = some u) ∧ v.frozen? ⟨b, off, none⟩ = false ∧ ∀ s : ByteArray, DQ w (v.setCell ⟨b, off, none⟩ (.string s)) g p (.slice ka kn kc) (.slice (some ⟨b, off, none⟩) vn vc) (.slice ia jn ic) kn vn jn) := by
            intro v hv
            obtain ⟨u, hu, -⟩ := hv.hv.cell (j := 0) (by omega)
            exact ⟨hv.bk.cell (j := 1) rfl, ⟨u, by simpa using hu⟩, hv.hv.free _, fun s => hv.poke (.inr (.inl rfl)) (hv.hk.to (only_set (R := fun y => y = b) rfl _) (fun y e hr => by subst hr; have hr0 : (Value.slice (some ⟨y, off, none⟩) vn vc).ownBlock = some y := rfl; exact ((hv.ap y).1 e).1 hr0)) (by have := hv.hv.set 0 (u := .string s) ⟨_, rfl⟩; simpa using this) (hv.hi.to (only_set (R := fun y => y = b) rfl _) (fun y e hr => by subst hr; have hr0 : (Value.slice (some ⟨y, off, none⟩) vn vc).ownBlock = some y := rfl; exact (hv.ap y).2 hr0 e))⟩
          obtain ⟨⟨c0, c1, c2⟩, f0, f1, f2⟩ := D3.out.cells
          go_wp2_with fail
          go_cut [4] (fun x v => x = .int .i64 2 ∧ Hid (DQ w v g p (.slice ka kn kc) (.slice (some ⟨b, off, none⟩) vn vc) (.slice ia jn ic) kn vn jn))
          case first =>
            go_region_with (go_at_call 50; refine (anyValP_any g _ (D3.out.below (below_drew _)).cu).mono ?_; rintro e w4 ⟨⟨s, rfl⟩, hg4, hc4⟩; have T4 := (D3.out.below (below_drew _)).draw hg4 hc4; have t4 := (HC.out _ T4).1; obtain ⟨u4, m4⟩ := (HC.out _ T4).2.1; have f4 := (HC.out _ T4).2.2.1)
            all_goals (go_wp2_with fail; go_meet)
            all_goals exact ⟨rfl, (HC.out _ T4).2.2.2 _⟩
          case rest =>
            obtain ⟨rfl, HT⟩ := hcut
            clear HC D3 c0 c1 c2 f0 f1 f2
            obtain ⟨⟨c0, c1, c2⟩, f0, f1, f2⟩ := HT.out.cells
            obtain ⟨⟨r0, r1, r2⟩, rf0, rf1, rf2⟩ := HT.out.rcells
            have HQ := hid (HT.out.done (m := 0) ⟨by omega, by omega, by omega, by omega⟩ (.slice ka kn kc) (.slice (some ⟨b, off, none⟩) vn vc) (.slice ia jn ic))
            clear HT
            go_wp2
            refine bodyPost_ret (results_pg (x := .slice ka kn kc) (y := .slice (some ⟨b, off, none⟩) vn vc) (z := .slice ia jn ic) rfl _ _ _ rfl (by go_simp) (by go_simp) (by go_simp)) rfl ?_
            exact HQ.out
        · have hz' : ¬ (0 : Int) < (vn : Int) := by omega
          obtain ⟨⟨c0, c1, c2⟩, f0, f1, f2⟩ := D3.out.cells
          obtain ⟨⟨r0, r1, r2⟩, rf0, rf1, rf2⟩ := D3.out.rcells
          have HQ := hid (D3.out.done (m := 0) ⟨by omega, by omega, by omega, by omega⟩ (.slice ka kn kc) (.slice va vn vc) (.slice ia jn ic))
          clear D3
          go_wp2
          refine bodyPost_ret (results_pg (x := .slice ka kn kc) (y := .slice va vn vc) (z := .slice ia jn ic) rfl _ _ _ rfl (by go_simp) (by go_simp) (by go_simp)) rfl ?_
          exact HQ.out
      case neg =>
        by_cases x3 : x = 3
        case pos =>
          subst x3
          by_cases hz : 0 < jn
          · have hz' : (0 : Int) < (jn : Int) := by omega
            obtain ⟨b, off, rfl⟩ : ∃ b off, ia = some ⟨b, off, none⟩ := by
              rcases D3.out.hi with ⟨e, e2⟩ | ⟨b, off, c, cur, e, -⟩
              · omega
              · cases e
                exact ⟨b, off, rfl⟩
            have HC : Hid (∀ v, DQ w v g p (.slice ka kn kc) (.slice va vn vc) (.slice (some ⟨b, off, none⟩) jn ic) kn vn jn → v.cell? ⟨p, 2, none⟩ = some (.slice (some ⟨b, off, none⟩) jn ic) ∧ (∃ u, v.cell? ⟨b, off, none⟩ = some u) ∧ v.frozen? ⟨b, off, none⟩ = false ∧ ∀ s : Int, DQ w (v.setCell ⟨b, off, none⟩ (.int .i64 s)) g p (.slice ka kn kc) (.slice va vn vc) (.slice (some ⟨b, off, none⟩) jn ic) kn vn jn) := by
              intro v hv
              obtain ⟨u, hu, -⟩ := hv.hi.cell (j := 0) (by omega)
              exact ⟨hv.bk.cell (j := 2) rfl, ⟨u, by simpa using hu⟩, hv.hi.free _, fun s => hv.poke (.inr (.inr rfl)) (hv.hk.to (only_set (R := fun y => y = b) rfl _) (fun y e hr => by subst hr; have hr0 : (Value.slice (some ⟨y, off, none⟩) jn ic).ownBlock = some y := rfl; exact ((hv.ap y).1 e).2 hr0)) (hv.hv.to (only_set (R := fun y => y = b) rfl _) (fun y e hr => by subst hr; have hr0 : (Value.slice (some ⟨y, off, none⟩) jn ic).ownBlock = some y := rfl; exact (hv.ap y).2 e hr0)) (by have := hv.hi.set 0 (u := .int .i64 s) ⟨_, rfl⟩; simpa using this)⟩
            obtain ⟨⟨c0, c1, c2⟩, f0, f1, f2⟩ := D3.out.cells
            go_wp2_with fail
            go_cut [4] (fun x v => x = .int .i64 3 ∧ Hid (DQ w v g p (.slice ka kn kc) (.slice va vn vc) (.slice (some ⟨b, off, none⟩) jn ic) kn vn jn))
            case first =>
              go_region_law (first
                | (go_simp; go_at_call 51; refine (raw_cu g _ (D3.out.below (below_drew _)).cu).mono ?_; rintro e w4 ⟨⟨s, rfl, hs0, hs1⟩, hg4, hc4⟩; have T4 := (D3.out.below (below_drew _)).draw hg4 hc4; have T5 := T4.below (below_new (o := .cells #[.int .i64 1, .int .i64 2, .int .i64 400, .int .i64 s] 3) (Below.refl _ _)); have t4 := (HC.out _ T4).1; have t5 := (HC.out _ T5).1)
                | (go_simp; go_at_call 23; first
                    | (refine (below_any g 4 _ T5.cu (by omega) (by omega)).mono ?_; rintro e w6 ⟨⟨z, rfl, hz0, hz1⟩, hg6, hc6⟩; have T6 := T5.draw hg6 hc6; have t6 := (HC.out _ T6).1; obtain ⟨u6, m6⟩ := (HC.out _ T6).2.1; have f6 := (HC.out _ T6).2.2.1; obtain ⟨i6, n6⟩ := four_at hg6 T4.cu.lt hz0 hz1)
                    | (refine (below_any g 4 _ T4.cu (by omega) (by omega)).mono ?_; rintro e w6 ⟨⟨z, rfl, hz0, hz1⟩, hg6, hc6⟩; have T60 := T4.draw hg6 hc6; have T6 := T60.below (below_new (o := .cells #[.int .i64 1, .int .i64 2, .int .i64 400, .int .i64 s] 3) (Below.refl _ _)); have t60 := (HC.out _ T60).1; have t6 := (HC.out _ T6).1; obtain ⟨u6, m6⟩ := (HC.out _ T6).2.1; have f6 := (HC.out _ T6).2.2.1; obtain ⟨i6, n6⟩ := four_new w6 s hz0 hz1)))
              all_goals (go_wp2_with fail; go_meet)
              all_goals exact ⟨rfl, (HC.out _ T6).2.2.2 _⟩
            case rest =>
              obtain ⟨rfl, HT⟩ := hcut
              clear HC D3 c0 c1 c2 f0 f1 f2
              obtain ⟨⟨c0, c1, c2⟩, f0, f1, f2⟩ := HT.out.cells
              obtain ⟨⟨r0, r1, r2⟩, rf0, rf1, rf2⟩ := HT.out.rcells
              have HQ := hid (HT.out.done (m := 0) ⟨by omega, by omega, by omega, by omega⟩ (.slice ka kn kc) (.slice va vn vc) (.slice (some ⟨b, off, none⟩) jn ic))
              clear HT
              go_wp2
              refine bodyPost_ret (results_pg (x := .slice ka kn kc) (y := .slice va vn vc) (z := .slice (some ⟨b, off, none⟩) jn ic) rfl _ _ _ rfl (by go_simp) (by go_simp) (by go_simp)) rfl ?_
              exact HQ.out
          · have hz' : ¬ (0 : Int) < (jn : Int) := by omega
            obtain ⟨⟨c0, c1, c2⟩, f0, f1, f2⟩ := D3.out.cells
            obtain ⟨⟨r0, r1, r2⟩, rf0, rf1, rf2⟩ := D3.out.rcells
            have HQ := hid (D3.out.done (m := 0) ⟨by omega, by omega, by omega, by omega⟩ (.slice ka kn kc) (.slice va vn vc) (.slice ia jn ic))
            clear D3
            go_wp2
            refine bodyPost_ret (results_pg (x := .slice ka kn kc) (y := .slice va vn vc) (z := .slice ia jn ic) rfl _ _ _ rfl (by go_simp) (by go_simp) (by go_simp)) rfl ?_
            exact HQ.out
        case neg =>
          by_cases x4 : x = 4
          case pos =>
            subst x4
            have D5 := hid (D3.out.below (below_new (o := .cells #[.string ⟨#[]⟩] 9) (Below.refl _ _)))
            have e5 := (Bk.new w3 9 [.string ⟨#[]⟩]).cell (j := 0) rfl
            obtain ⟨⟨c0, c1, c2⟩, f0, f1, f2⟩ := D3.out.cells
            go_wp2_with (at_builtin; refine wpList_append_fw rfl _ _ 37 9 rfl _ 16 Tryd.underlying37 infoStr' rfl (by omega) (K := isStr) _ vn rfl D5.out.hv (by omega) _ (.string ⟨#[]⟩) rfl ⟨_, rfl⟩ rfl e5 ?_)
            intro a6 n6 c6 w6 hg6
            have hn6 : n6 = vn + 1 := by obtain ⟨aa, cc, e, -⟩ := hg6.1.shape; cases e; rfl
            subst hn6
            have D6 := hid (D5.out.addV hg6)
            have hgo : Only (fun y => (Value.slice va vn vc).ownBlock = some y) _ w6 := only_of_grown hg6.2.1 (fun k e => e)
            have KP := D5.out.bk.to hgo (fun e => (D5.out.lo _ (.inr (.inl e))).2 rfl)
            have RP := D5.out.rb.to hgo (fun e => by have := (D5.out.lo _ (.inr (.inl e))).1; omega)
            clear c0 c1 c2 f0 f1 f2 e5 hgo hg6
            have c0 := KP.cell (j := 0) rfl
            have c1 := KP.cell (j := 1) rfl
            have c2 := KP.cell (j := 2) rfl
            have f0 := KP.free 0
            have f1 := KP.free 1
            have f2 := KP.free 2
            have r0 := RP.cell (j := 0) rfl
            have r1 := RP.cell (j := 1) rfl
            have r2 := RP.cell (j := 2) rfl
            have rf0 := RP.free 0
            have rf1 := RP.free 1
            have rf2 := RP.free 2
            have HQ := hid (D6.out.done (m := 0) ⟨by omega, by omega, by omega, by omega⟩ (.slice ka kn kc) (.slice a6 (vn + 1) c6) (.slice ia jn ic))
            clear D3 D5 D6 KP RP
            go_wp2
            refine bodyPost_ret (results_pg (x := .slice ka kn kc) (y := .slice a6 (vn + 1) c6) (z := .slice ia jn ic) rfl _ _ _ rfl (by go_simp) (by go_simp) (by go_simp)) rfl ?_
            exact HQ.out
          case neg =>
            by_cases x5 : x = 5
            case pos =>
              subst x5
              have D5 := hid (D3.out.below (below_new (o := .cells #[.int .i64 9] 3) (Below.refl _ _)))
              have e5 := (Bk.new w3 3 [.int .i64 9]).cell (j := 0) rfl
              obtain ⟨⟨c0, c1, c2⟩, f0, f1, f2⟩ := D3.out.cells
              go_wp2_with (at_builtin; refine wpList_append_fw rfl _ _ 38 3 rfl _ 8 Tryd.underlying38 infoInt' rfl (by omega) (K := isInt) _ jn rfl D5.out.hi (by omega) _ (.int .i64 9) rfl ⟨_, rfl⟩ rfl e5 ?_)
              intro a6 n6 c6 w6 hg6
              have hn6 : n6 = jn + 1 := by obtain ⟨aa, cc, e, -⟩ := hg6.1.shape; cases e; rfl
              subst hn6
              have D6 := hid (D5.out.addI hg6)
              have hgo : Only (fun y => (Value.slice ia jn ic).ownBlock = some y) _ w6 := only_of_grown hg6.2.1 (fun k e => e)
              have KP := D5.out.bk.to hgo (fun e => (D5.out.lo _ (.inr (.inr e))).2 rfl)
              have RP := D5.out.rb.to hgo (fun e => by have := (D5.out.lo _ (.inr (.inr e))).1; omega)
              clear c0 c1 c2 f0 f1 f2 e5 hgo hg6
              have c0 := KP.cell (j := 0) rfl
              have c1 := KP.cell (j := 1) rfl
              have c2 := KP.cell (j := 2) rfl
              have f0 := KP.free 0
              have f1 := KP.free 1
              have f2 := KP.free 2
              have r0 := RP.cell (j := 0) rfl
              have r1 := RP.cell (j := 1) rfl
              have r2 := RP.cell (j := 2) rfl
              have rf0 := RP.free 0
              have rf1 := RP.free 1
              have rf2 := RP.free 2
              have HQ := hid (D6.out.done (m := 0) ⟨by omega, by omega, by omega, by omega⟩ (.slice ka kn kc) (.slice va vn vc) (.slice a6 (jn + 1) c6))
              clear D3 D5 D6 KP RP
              go_wp2
              refine bodyPost_ret (results_pg (x := .slice ka kn kc) (y := .slice va vn vc) (z := .slice a6 (jn + 1) c6) rfl _ _ _ rfl (by go_simp) (by go_simp) (by go_simp)) rfl ?_
              exact HQ.out
            case neg =>
              obtain ⟨⟨c0, c1, c2⟩, f0, f1, f2⟩ := D3.out.cells
              obtain ⟨⟨r0, r1, r2⟩, rf0, rf1, rf2⟩ := D3.out.rcells
              have HQ := hid (D3.out.done (m := 0) ⟨by omega, by omega, by omega, by omega⟩ (.slice ka kn kc) (.slice va vn vc) (.slice ia jn ic))
              clear D3
              go_wp2
              refine bodyPost_ret (results_pg (x := .slice ka kn kc) (y := .slice va vn vc) (z := .slice ia jn ic) rfl _ _ _ rfl (by go_simp) (by go_simp) (by go_simp)) rfl ?_
              exact HQ.out
end Go.Proofs.YtpgogpphobafoabDoor
/-
  DrawPageBytes: a page for the law FnPage.
-/
namespace Go.Proofs.YtpgogpphobafoabDoor
open Go.RowKit
theorem strs_of : ∀ (xs : List Value), (∀ u ∈ xs, isStr u) → ∃ l : List ByteArray, xs = l.map Value.string
  | [], _ => ⟨[], rfl⟩
  | x :: xs, h => by
    obtain ⟨s, rfl⟩ := h x (List.mem_cons_self ..)
    obtain ⟨l, rfl⟩ := strs_of xs (fun u hu => h u (List.mem_cons_of_mem _ hu))
    exact ⟨s :: l, rfl⟩
theorem ints_of : ∀ (xs : List Value), (∀ u ∈ xs, isInt u) → ∃ l : List Int, xs = l.map (Value.int .i64)
  | [], _ => ⟨[], rfl⟩
  | x :: xs, h => by
    obtain ⟨s, rfl⟩ := h x (List.mem_cons_self ..)
    obtain ⟨l, rfl⟩ := ints_of xs (fun u hu => h u (List.mem_cons_of_mem _ hu))
    exact ⟨s :: l, rfl⟩
theorem fw_sr {v : World} {T : TypeId} {x : Value} {n : Nat} {S : Nat → Prop} (h : Fw v T isStr x n) (hS : ∀ y, x.ownBlock = some y → S y) : ∃ l, Sr v S x l := by
  obtain ⟨xs, hl, hx, hr⟩ := h.rw
  obtain ⟨l, rfl⟩ := strs_of xs hx
  obtain rfl : l.length = n := by simpa using hl
  exact ⟨l, hr.mono (fun b hb _ => hS b hb)⟩
theorem fw_ir {v : World} {T : TypeId} {x : Value} {n : Nat} {S : Nat → Prop} (h : Fw v T isInt x n) (hS : ∀ y, x.ownBlock = some y → S y) : ∃ l, Ir v S x l := by
  obtain ⟨xs, hl, hx, hr⟩ := h.rw
  obtain ⟨l, rfl⟩ := ints_of xs hx
  obtain rfl : l.length = n := by simpa using hl
  exact ⟨l, hr.mono (fun b hb _ => hS b hb)⟩
set_option maxHeartbeats 8000000 in
set_option maxRecDepth 20000 in
theorem drawPageB_any (a : Option Addr) (n c : Nat) (zs : List Int) (w : World) (h : Rd w a n c zs) (hl : n ≤ 1048576) :
    Calls Tryd.prog 15 #[.slice a n c] w fun e w' => (∃ (ka : Option Addr) (kn kc : Nat) (va : Option Addr) (vn vc : Nat) (ia : Option Addr) (jn ic : Nat) (p : PG), e = .returned (.agg #[.slice ka kn kc, .slice va vn vc, .slice ia jn ic]) ∧ Pgr w' (fun y => w.heap.size < y) ka kn kc va vn vc ia jn ic p) ∧ Below w.heap.size w w' := by
  have hb0 : Below w.heap.size w (w.alloc (.cells #[.slice none 0 0, .slice none 0 0, .slice none 0 0] 40)) := below_new (Below.refl _ _)
  have HR := hid (h.kept hb0)
  have RB := hid (Bk.new w 40 [.slice none 0 0, .slice none 0 0, .slice none 0 0])
  have B0 := hid hb0
  have HS : Hid ((w.alloc (.cells #[.slice none 0 0, .slice none 0 0, .slice none 0 0] 40)).heap.size = w.heap.size + 1) := by show _ = _; simp
  clear h hb0
  go_enter Tryd.func15, Tryd.ntmps15
  go_wp2_with fail
  refine (new_any a n c zs _ HR.out hl).mono ?_
  rintro e w1 ⟨rfl, hb1, hc1⟩
  have C1 := hid hc1
  have R1 := hid (RB.out.to (only_of_below hb1 (fun _ => False)) id)
  have B1 := hid (Below.then' B0.out hb1 (Nat.le_refl _))
  have H1 : Hid (w.heap.size + 1 ≤ w1.heap.size) := by have h1 := hb1.size; have h2 := HS.out; show _ ≤ _; omega
  have HG : Hid (∃ g : Nat, g = (w.alloc (.cells #[.slice none 0 0, .slice none 0 0, .slice none 0 0] 40)).heap.size ∧ g = w.heap.size + 1) := ⟨_, rfl, HS.out⟩
  clear hb1 hc1 HR RB B0
  generalize (w.alloc (.cells #[.slice none 0 0, .slice none 0 0, .slice none 0 0] 40)).heap.size = g at *
  go_wp2_with fail
  refine (anyPage_any g w1 C1.out).mono ?_
  rintro e w2 ⟨ka, kn, kc, va, vn, vc, ia, jn, ic, rfl, -, hg2, -, hk2, hv2, hi2, hlo2⟩
  have hgs := HS.out
  have hs1 := H1.out
  have hs2 := hg2.size
  have R2 := hid ((R1.out.to (only_of_grown (R := fun y => y = g) hg2 (fun k e => by cases e; rfl)) (by omega)).alloc (.cells #[.slice ka kn kc, .slice va vn vc, .slice ia jn ic] 40))
  have B2 := hid (B1.out.grown hg2 (by omega) (fun k e => by cases e; omega))
  obtain ⟨lk, hlk⟩ := fw_sr (S := fun y => w.heap.size < y) hk2 (fun y e => by have := hlo2 y (.inl e); omega)
  obtain ⟨lv, hlv⟩ := fw_sr (S := fun y => w.heap.size < y) hv2 (fun y e => by have := hlo2 y (.inr (.inl e)); omega)
  obtain ⟨li, hli⟩ := fw_ir (S := fun y => w.heap.size < y) hi2 (fun y e => by have := hlo2 y (.inr (.inr e)); omega)
  have hpg : Pgr w2 (fun y => w.heap.size < y) ka kn kc va vn vc ia jn ic ⟨lk, lv, li⟩ := ⟨hlk, hlv, hli⟩
  have HF : Hid (∀ x y z : Value, Pgr ((((w2.alloc (.cells #[.slice ka kn kc, .slice va vn vc, .slice ia jn ic] 40)).setCell ⟨w.heap.size, 0, none⟩ x).setCell ⟨w.heap.size, 1, none⟩ y).setCell ⟨w.heap.size, 2, none⟩ z) (fun y => w.heap.size < y) ka kn kc va vn vc ia jn ic ⟨lk, lv, li⟩ ∧ Below w.heap.size w ((((w2.alloc (.cells #[.slice ka kn kc, .slice va vn vc, .slice ia jn ic] 40)).setCell ⟨w.heap.size, 0, none⟩ x).setCell ⟨w.heap.size, 1, none⟩ y).setCell ⟨w.heap.size, 2, none⟩ z)) := by
    intro x y z
    have ho : Only (fun y => y = w.heap.size) (w2.alloc (.cells #[.slice ka kn kc, .slice va vn vc, .slice ia jn ic] 40)) ((((w2.alloc (.cells #[.slice ka kn kc, .slice va vn vc, .slice ia jn ic] 40)).setCell ⟨w.heap.size, 0, none⟩ x).setCell ⟨w.heap.size, 1, none⟩ y).setCell ⟨w.heap.size, 2, none⟩ z) :=
      ((only_set (R := fun y => y = w.heap.size) rfl _).trans (only_set (R := fun y => y = w.heap.size) rfl _)).trans (only_set (R := fun y => y = w.heap.size) rfl _)
    have hbn : Below w2.heap.size w2 (w2.alloc (.cells #[.slice ka kn kc, .slice va vn vc, .slice ia jn ic] 40)) := below_new (Below.refl _ _)
    have hz := hbn.size
    exact ⟨(hpg.below hbn).to ho (fun b hb _ e => by omega), (Below.then' B2.out hbn (Nat.le_refl _)).trans (ho.below (by omega) (fun b hb e => by omega))⟩
  have K2 := Bk.new w2 40 [.slice ka kn kc, .slice va vn vc, .slice ia jn ic]
  have c0 := K2.cell (j := 0) rfl
  have c1 := K2.cell (j := 1) rfl
  have c2 := K2.cell (j := 2) rfl
  have r0 := R2.out.cell (j := 0) rfl
  have r1 := R2.out.cell (j := 1) rfl
  have r2 := R2.out.cell (j := 2) rfl
  have rf0 := R2.out.free 0
  have rf1 := R2.out.free 1
  have rf2 := R2.out.free 2
  have hpn : ¬ w.heap.size = w2.heap.size := by omega
  have hpn' : ¬ w2.heap.size = w.heap.size := by omega
  clear hlk hlv hli hpg hk2 hv2 hi2 hlo2 hg2 R2 K2 R1 B1 B2 C1 hgs hs1 hs2 HG HS H1
  go_wp2
  refine bodyPost_ret (results_pg (x := .slice ka kn kc) (y := .slice va vn vc) (z := .slice ia jn ic) rfl _ _ _ rfl (by go_simp) (by go_simp) (by go_simp)) rfl ?_
  exact ⟨⟨_, _, _, _, _, _, _, _, _, _, rfl, (HF.out _ _ _).1⟩, (HF.out _ _ _).2⟩
end Go.Proofs.YtpgogpphobafoabDoor
/-
  The law FnPage answers true at every code.
-/
namespace Go.Proofs.YtpgogpphobafoabDoor
open Go.RowKit
theorem prd_nil : prd [] = none := by
  cases h : prd [] with
  | none => rfl
  | some p =>
    have h1 := (prd_iff _ _).1 h
    have h2 := (pgBytes_some h1).2
    simp at h2
theorem pgOk_of_none {p : PG} (h : pgBytes p = none) : pgOk p = false := by
  unfold pgBytes at h
  split at h
  · cases h
  · rename_i h1
    simpa using h1
theorem pg_outs {p : PG} {out : List Int} (h : pgBytes p = some out) : pgOk p = true ∧ out.length = 512 ∧ ∀ z ∈ out, 0 ≤ z ∧ z ≤ 255 := by
  unfold pgBytes at h
  split at h
  · rename_i h1
    cases h
    have hF := pgOk_facts h1
    refine ⟨h1, pgFull_len h1, ?_⟩
    rw [pgFull]
    exact byte_append (pgBody_byte hF _ (Nat.le_refl _)) (fun z hz => by have := List.eq_of_mem_replicate hz; omega)
  · cases h
set_option maxHeartbeats 8000000 in
set_option maxRecDepth 20000 in
theorem lawFPage_road (a : Option Addr) (n c : Nat) (zs : List Int) (w : World) (h : Rd w a n c zs) (hn : n ≤ 1048576) (he : Err w 0) (he2 : Err w 1) (he3 : Err w 3) :
    Calls Tryd.prog 5 #[.slice a n c] w fun e w' => e = .returned (.bool true) ∧ Below w.heap.size w w' := by
  have HR := hid h
  have HE := hid he
  have HE2 := hid he2
  have HE3 := hid he3
  clear h he he2 he3
  have hns : ¬ (1048576 : Int) < (n : Int) := by omega
  go_enter Tryd.func5, Tryd.ntmps5
  go_wp2_with fail
  refine (drawPageB_any a n c zs _ HR.out hn).mono ?_
  rintro e w1 ⟨⟨ka, kn, kc, va, vn, vc, ia, jn, ic, p, rfl, hP⟩, hb1⟩
  have hbn : Below w1.heap.size w1 (w1.alloc (.cells #[.slice ka kn kc, .slice va vn vc, .slice ia jn ic] 40)) := below_new (Below.refl _ _)
  have P1 := hid (hP.below hbn)
  have B1 := hid (Below.then' hb1 hbn (Nat.le_refl _))
  have K1 := hid (Bk.new w1 40 [.slice ka kn kc, .slice va vn vc, .slice ia jn ic])
  have c0 := K1.out.cell (j := 0) rfl
  have c1 := K1.out.cell (j := 1) rfl
  have c2 := K1.out.cell (j := 2) rfl
  clear hP hb1 hbn HR
  go_wp2_with fail
  refine (implPageBytes_any _ ka kn kc va vn vc ia jn ic p _ P1.out (HE.out.below B1.out HE.out.lt) (HE2.out.below B1.out HE2.out.lt)).mono ?_
  generalize w1.alloc (.cells #[.slice ka kn kc, .slice va vn vc, .slice ia jn ic] 40) = U at *
  intro e w2 hput
  obtain ⟨hb2, hcase⟩ := hput
  have P2 := hid (P1.out.below hb2)
  have B2 := hid (Below.then' B1.out hb2 (Nat.le_refl _))
  have K2 := hid (K1.out.below hb2)
  clear c0 c1 c2 P1 B1 K1 hb2
  have c0 := K2.out.cell (j := 0) rfl
  have c1 := K2.out.cell (j := 1) rfl
  have c2 := K2.out.cell (j := 2) rfl
  generalize w1.heap.size = q at *
  rcases hcase with ⟨hno, rfl⟩ | ⟨v2, out, hso, rfl, hO2⟩
  · have HOK := hid (pgOk_of_none hno)
    clear hno
    go_wp2_with fail
    refine (specPageOk_any _ ka kn kc va vn vc ia jn ic p _ P2.out).mono ?_
    rintro e w3 ⟨rfl, hb3⟩
    rw [HOK.out]
    have B3 := hid (Below.then' B2.out hb3 (Nat.le_refl _))
    clear hb3 c0 c1 c2 P2 K2 B2
    go_wp2_with fail
    refine (implPageRead_any none 0 0 [] w3 (rd_nilM w3) (HE.out.below B3.out HE.out.lt) (HE2.out.below B3.out HE2.out.lt) (HE3.out.below B3.out HE3.out.lt)).mono ?_
    rintro e w4 ⟨hb4, hcase⟩
    have B4 := hid (Below.then' B3.out hb4 (Nat.le_refl _))
    have BN : Hid (∀ o : Obj, Below w.heap.size w (w4.alloc o)) := fun o => Below.then' B4.out (below_new (Below.refl _ _)) (Nat.le_refl _)
    rcases hcase with ⟨-, rfl⟩ | ⟨p', ka', kn', kc', va', vn', vc', ia', jn', ic', hs, -⟩
    · clear hb4 B3 B4
      go_wp2
      go_ret
      exact ⟨rfl, BN.out _⟩
    · rw [prd_nil] at hs
      cases hs
  · obtain ⟨hok, hlen, hby⟩ := pg_outs hso
    obtain ⟨a2, cc2, rfl, hR2, -⟩ := hO2.rd (byte_at hby) (by omega)
    rw [hlen] at hR2 ⊢
    have R2 := hid hR2
    have HOK := hid hok
    have HSO := hid hso
    have HLEN := hid hlen
    have HBY := hid hby
    clear hok hso hlen hby hR2 hO2
    go_wp2_with fail
    refine (specPageOk_any _ ka kn kc va vn vc ia jn ic p _ P2.out).mono ?_
    rintro e w3 ⟨rfl, hb3⟩
    rw [HOK.out]
    have B3 := hid (Below.then' B2.out hb3 (Nat.le_refl _))
    have P3 := hid (P2.out.below hb3)
    have K3 := hid (K2.out.below hb3)
    have R3 := hid (R2.out.kept hb3)
    clear hb3 c0 c1 c2 P2 K2 B2 R2
    go_wp2_with fail
    refine (implPageRead_any a2 512 cc2 out w3 R3.out (HE.out.below B3.out HE.out.lt) (HE2.out.below B3.out HE2.out.lt) (HE3.out.below B3.out HE3.out.lt)).mono ?_
    rintro e w4 ⟨hb4, hcase⟩
    rw [(prd_iff _ _).2 HSO.out] at hcase
    rcases hcase with ⟨hs, -⟩ | ⟨p', ka', kn', kc', va', vn', vc', ia', jn', ic', hs, rfl, hPO, -⟩
    · cases hs
    cases hs
    have hbn : Below w4.heap.size w4 (w4.alloc (.cells #[.slice ka' kn' kc', .slice va' vn' vc', .slice ia' jn' ic'] 40)) := below_new (Below.refl _ _)
    have Q5 := hid ((hPO.pgr (S := fun _ => True) (fun _ _ => trivial)).below hbn)
    have B5 := hid (Below.then' (Below.then' B3.out hb4 (Nat.le_refl _)) hbn (Nat.le_refl _))
    have P5 := hid ((P3.out.below hb4).below hbn)
    have K5 := hid ((K3.out.below hb4).below hbn)
    have J5 := Bk.new w4 40 [.slice ka' kn' kc', .slice va' vn' vc', .slice ia' jn' ic']
    have c0 := J5.cell (j := 0) rfl
    have c1 := J5.cell (j := 1) rfl
    have c2 := J5.cell (j := 2) rfl
    clear hbn hb4 hPO B3 P3 K3 R3 J5
    go_wp2_with fail
    refine (specPageBytes_any _ ka' kn' kc' va' vn' vc' ia' jn' ic' p _ Q5.out).mono ?_
    intro e w6 hput
    obtain ⟨v6, rfl, hO6, hb6⟩ := PutM.got hput HSO.out
    obtain ⟨a6, cc6, rfl, hR6, -⟩ := hO6.rd (byte_at HBY.out) (by have := HLEN.out; omega)
    rw [HLEN.out] at hR6 ⊢
    have R6 := hid hR6
    have B6 := hid (Below.then' B5.out hb6 (Nat.le_refl _))
    have P6 := hid (P5.out.below hb6)
    have K6 := hid (K5.out.below hb6)
    clear hput hO6 hR6 hb6 B5 P5 K5 Q5 c0 c1 c2
    have c0 := K6.out.cell (j := 0) rfl
    have c1 := K6.out.cell (j := 1) rfl
    have c2 := K6.out.cell (j := 2) rfl
    go_wp2_with fail
    refine (specPageBytes_any _ ka kn kc va vn vc ia jn ic p _ P6.out).mono ?_
    intro e w7 hput
    obtain ⟨v7, rfl, hO7, hb7⟩ := PutM.got hput HSO.out
    obtain ⟨a7, cc7, rfl, hR7, -⟩ := hO7.rd (byte_at HBY.out) (by have := HLEN.out; omega)
    rw [HLEN.out] at hR7 ⊢
    have hst6 := run_str (R6.out.kept hb7)
    have hst7 := run_str hR7
    have B7 := hid (Below.then' B6.out hb7 (Nat.le_refl _))
    clear hput hO7 hR7 hb7 B6 P6 K6 R6 c0 c1 c2 HSO HLEN HBY HOK
    generalize strOf out = s at *
    have e1 : (s.toList == s.toList) = true := by simp
    go_wp2
    go_ret
    exact ⟨rfl, B7.out⟩
theorem lawFPage_walk (a : Option Addr) (n c : Nat) (z0 : List Int) (w : World) (w0 : IsRow .u8 w a n c z0) (he : Err w 0) (_hn : Err w 2) (he2 : Err w 1) (he3 : Err w 3) (_l1 : 0 < w.heap.size) (_l2 : 2 < w.heap.size) (_l3 : 1 < w.heap.size) (_l4 : 3 < w.heap.size) :
    Calls Tryd.prog 5 #[.slice a n c] w fun e w' => e = .returned (.bool true) ∧ Below w.heap.size w w' := by
  by_cases hbig : 1048576 < n
  · have hb' : (1048576 : Int) < (n : Int) := by omega
    clear w0 he he2 he3 _hn _l1 _l2 _l3 _l4
    go_enter Tryd.func5, Tryd.ntmps5
    go_wp2
    go_ret
    exact ⟨rfl, Below.refl _ _⟩
  · exact lawFPage_road a n c _ w (rd_of_row w0 (by omega)) (by omega) he he2 he3
end Go.Proofs.YtpgogpphobafoabDoor
