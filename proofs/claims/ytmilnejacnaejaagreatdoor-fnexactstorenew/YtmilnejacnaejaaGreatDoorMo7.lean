/-
  l03Lay of the specification: the nodes of a sub in the walk's order, behind others.
-/
import Derived.Test.YtmilnejacnaejaaGreatDoorMo3
import Derived.Deep.DeepCutAuto
import Derived.Test.YtmilnejacnaejaaGreatDoorMo2
import Derived.Laws.StructEq
import Derived.Test.YtmilnejacnaejaaGreatDoorMo6
import Derived.Test.YtmilnejacnaejaaGreatDoorMo1
import Derived.Test.YtmilnejacnaejaaGreatDoorMo4
import Derived.Test.YtmilnejacnaejaaGreatDoorMo5
namespace Go.Proofs.YtmilnejacnaejaaGreatDoor
open Go.RowKit
open Go.RowKit
open Go.RowKit
open Go.RowKit
set_option linter.unusedVariables false
theorem mrd_root {zs : List Int} {g r : Int} (h : mrd zs = some (g, r)) : 0 ≤ r := by
  have := (mrd_iff zs g r).1 h
  unfold mtBytes at this
  by_cases e : mtOk g r = true
  · simp only [mtOk, Bool.and_eq_true, Bool.or_eq_true, decide_eq_true_eq] at e
    omega
  · rw [if_neg e] at this; cases this
theorem bestM_root (d : DK) : ∀ k, 0 ≤ (bestM d k).2
  | 0 => by simp [bestM]
  | k + 1 => by
    rw [bestM]
    unfold stepM
    have h := bestM_root d k
    cases e : shMeta d k with
    | none => exact h
    | some m =>
      simp only
      split
      · exact mrd_root (g := m.1) (r := m.2) e
      · exact h
def stR (d : DK) : Option LS := if (bestM d 2).2 = 0 then some ([], []) else ldV d.sh 400 (bestM d 2).2 ([], [])
def stC (d : DK) : Int := if dkOk d = false ∨ 0 < d.dw.length then 1 else if 0 < (bestM d 2).1 then (match stR d with
  | none => 3
  | some s => if (okT s.1).isSome = true then 0 else 3) else 2
theorem okT_nil : (okT []).isSome = true := rfl
def zeroS : Value := .agg #[.slice none 0 0, .slice none 0 0, .int .i64 0, .slice none 0 0, .slice none 0 0]
def SoPost (sa : Option Addr) (sn sc : Nat) (da : Option Addr) (dn dc : Nat) (d : DK) (w : World) (e : Ending) (w' : World) : Prop :=
  Below w.heap.size w w' ∧ ((stC d ≠ 0 ∧ e = .returned (.tuple #[zeroS, .int .i64 (stC d)])) ∨ ∃ s na nn nc pa pn pc V, stC d = 0 ∧ stR d = some s ∧ s.2.length = s.1.length ∧ e = .returned (.tuple #[.agg #[.slice sa sn sc, .slice da dn dc, .int .i64 (bestM d 2).1, .slice na nn nc, .slice pa pn pc], .int .i64 0]) ∧
    NA w' (.slice na nn nc) V s.1 ∧ w'.ownsRow 0 3 1 (.slice pa pn pc) s.2.length (s.2.map (Value.int .i64)) ∧ (∀ y, (Value.slice na nn nc).ownBlock = some y → w.heap.size ≤ y) ∧ (∀ i, i < s.1.length → ∀ y, bl (vAt V i) y → w.heap.size ≤ y) ∧ ∀ y, (Value.slice pa pn pc).ownBlock = some y → w.heap.size ≤ y ∧ (Value.slice na nn nc).ownBlock ≠ some y ∧ ∀ i, i < s.1.length → ¬ bl (vAt V i) y)
theorem load_sto {w : World} {g : Nat} {a b c x y : Value} (c0 : w.cell? ⟨g, 0, none⟩ = some a) (c1 : w.cell? ⟨g, 1, none⟩ = some b) (c2 : w.cell? ⟨g, 2, none⟩ = some c) (c3 : w.cell? ⟨g, 3, none⟩ = some x) (c4 : w.cell? ⟨g, 4, none⟩ = some y) :
    (loadVar 31 ⟨g, 0, none⟩).run Tryz.prog w = .ok (.agg #[a, b, c, x, y]) w := by go_simp
theorem results_sto {fn : Func} {p q : Tmp} (h : fn.results = #[.cell p 31, .tmp q]) (tmps : Array Value) (w : World) (g : Nat) {a b c x y z : Value} (hp : tmps.getD p undef = .pointer (some ⟨g, 0, none⟩)) (hq : tmps.getD q undef = z)
    (c0 : w.cell? ⟨g, 0, none⟩ = some a) (c1 : w.cell? ⟨g, 1, none⟩ = some b) (c2 : w.cell? ⟨g, 2, none⟩ = some c) (c3 : w.cell? ⟨g, 3, none⟩ = some x) (c4 : w.cell? ⟨g, 4, none⟩ = some y) : (results fn tmps).run Tryz.prog w = .ok (.tuple #[.agg #[a, b, c, x, y], z]) w := by
  have hp' : tmps[p]?.getD undef = .pointer (some ⟨g, 0, none⟩) := by simpa using hp
  have hq' : tmps[q]?.getD undef = z := by simpa using hq
  simp [results, h, hp', hq', asAddr, load_sto c0 c1 c2 c3 c4, Result.andThen]
theorem so_fin {w v : World} {G rb : Nat} {sl : Value} {na : Option Addr} {nn nc : Nat} {pa : Option Addr} {pn pc : Nat} {V : List V3} {s : LS} (sa : Option Addr) (sn sc : Nat) (da : Option Addr) (dn dc : Nat) (d : DK) (hb : Below w.heap.size w v) (hG : w.heap.size + 2 ≤ G) (hR : RS v (fun y => y = rb ∨ G ≤ y) rb sl na nn nc pa pn pc V s) (hc : stC d = 0) (hs : stR d = some s) (hl : s.2.length = s.1.length) (x0 x1 x2 x3 x4 : Value) :
    SoPost sa sn sc da dn dc d w (.returned (.tuple #[.agg #[.slice sa sn sc, .slice da dn dc, .int .i64 (bestM d 2).1, .slice na nn nc, .slice pa pn pc], .int .i64 0])) (((((v.setCell ⟨w.heap.size + 1, 0, none⟩ x0).setCell ⟨w.heap.size + 1, 1, none⟩ x1).setCell ⟨w.heap.size + 1, 2, none⟩ x2).setCell ⟨w.heap.size + 1, 3, none⟩ x3).setCell ⟨w.heap.size + 1, 4, none⟩ x4) := by
  have o : Only (fun y => y = w.heap.size + 1) v (((((v.setCell ⟨w.heap.size + 1, 0, none⟩ x0).setCell ⟨w.heap.size + 1, 1, none⟩ x1).setCell ⟨w.heap.size + 1, 2, none⟩ x2).setCell ⟨w.heap.size + 1, 3, none⟩ x3).setCell ⟨w.heap.size + 1, 4, none⟩ x4) := ((((only_set (R := fun y => y = w.heap.size + 1) rfl _).trans (only_set (R := fun y => y = w.heap.size + 1) rfl _)).trans (only_set (R := fun y => y = w.heap.size + 1) rfl _)).trans (only_set (R := fun y => y = w.heap.size + 1) rfl _)).trans (only_set (R := fun y => y = w.heap.size + 1) rfl _)
  have h1 : ∀ y, (Value.slice na nn nc).ownBlock = some y → G ≤ y := fun y e => (hR.pn' y e).1.elim (fun h => absurd h (hR.pn' y e).2) id
  have h2 : ∀ i, i < s.1.length → ∀ y, bl (vAt V i) y → G ≤ y := fun i hi y e => (hR.pb i hi y e).1.elim (fun h => absurd h (hR.pb i hi y e).2) id
  have h3 : ∀ y, (Value.slice pa pn pc).ownBlock = some y → G ≤ y := fun y e => (hR.pp y e).1.elim (fun h => absurd h (hR.pp y e).2.1) id
  refine ⟨hb.trans (o.below hb.size (fun y hy e => by omega)), .inr ⟨s, na, nn, nc, pa, pn, pc, V, hc, hs, hl, rfl, hR.nod.to o (fun y e e2 => by have := h1 y e; omega) (fun i hi y e e2 => by have := h2 i hi y e; omega), own_kept hR.pla o (fun y e e2 => by have := h3 y e; omega), fun y e => by have := h1 y e; omega, fun i hi y e => by have := h2 i hi y e; omega, fun y e => ⟨by have := h3 y e; omega, (hR.pp y e).2.2.1, (hR.pp y e).2.2.2⟩⟩⟩
open Go.RowKit
set_option linter.unusedVariables false
set_option maxHeartbeats 16000000 in
set_option maxRecDepth 20000 in
theorem copyDisk_any (S : Nat → Prop) (sa : Option Addr) (sn sc : Nat) (da : Option Addr) (dn dc : Nat) (d : DK) (w : World) (h : Dk w S sa sn sc da dn dc d) (hsm : smallD d) (h1 : sn ≤ 1048576) (h2 : dn ≤ 1048576) :
    Calls Tryz.prog 82 #[.agg #[.slice sa sn sc, .slice da dn dc]] w fun e w' => DkPost1 d w e w' := by
  have HS := hid h.hs
  have HD := hid h.hd
  have HSM := hid hsm
  have HNS := hid h.hs.len.1
  have HND := hid h.hd.len.1
  have C0 := hid (CX.start w sa sn sc da dn dc)
  clear h hsm
  go_enter Tryz.func82, Tryz.ntmps82
  go_wp2_with fail
  go_loopw [11] (fun i wr => ∃ (k : Nat) (xa : Option Addr) (xn xc : Nat) (V : List Value), k ≤ sn ∧ i = .int .i64 k ∧ Hid (CX w wr sa sn sc da dn dc xa xn xc none 0 0 V [] ⟨d.sh.take k, []⟩)) (fun i _ => sn - (intOf i).toNat)
  case atStart => exact ⟨0, none, 0, 0, [], Nat.zero_le _, rfl, C0.out⟩
  case round =>
    obtain ⟨k, xa, xn, xc, V, hk, rfl, CC⟩ := hrel
    clear C0
    by_cases hlt : k < sn
    · have hlt' : (k : Int) < (sn : Int) := by omega
      obtain ⟨b, off, rfl, _, hbw, hcell⟩ := (HS.out.below CC.out.bel).at (by omega)
      obtain ⟨ap, np, cp, m0, hp⟩ := hcell k hlt
      have hkl : k < d.sh.length := by rw [← HNS.out]; exact hlt
      have hnp : np ≤ 1048576 := by rw [hp.len.1]; exact HSM.out.1 k hkl
      have hb0 := below_new (o := .cells #[.slice ap np cp] 130) (w := wr) (Below.refl _ _)
      have CU := hid (CC.out.below hb0)
      have HBY := hid hp.2
      have HCB : Hid (∀ z, Below (wr.alloc (.cells #[.slice ap np cp] 130)).heap.size (wr.alloc (.cells #[.slice ap np cp] 130)) z → Calls Tryz.prog 146 #[.slice ap np cp] z fun e w' => ∃ a' n' c', e = .returned (.slice a' n' c') ∧ Ob w' z.heap.size (.slice a' n' c') (shAt d.sh k) ∧ Below z.heap.size z w') := fun z hz => copyB_any ap np cp _ z ((hp.rd hnp).kept (bt7 hb0 hz)) hnp
      have HL : Hid ((d.sh.take k).length = k) := by show _ = _; rw [List.length_take]; omega
      have HTK := hid (take_sh hkl)
      have HBX : Hid (∀ z, Below (wr.alloc (.cells #[.slice ap np cp] 130)).heap.size (wr.alloc (.cells #[.slice ap np cp] 130)) z → z.cell? ⟨w.heap.size + 1 + 1, 0, none⟩ = some (.slice xa xn xc) ∧ z.frozen? ⟨w.heap.size + 1 + 1, 0, none⟩ = false ∧ z.ownsRow (w.heap.size + 3) 130 1 (.slice xa xn xc) k V) := fun z hz => by
        have c := CU.out.below hz
        refine ⟨c.k2.cell (j := 0) rfl, c.k2.free 0, ?_⟩
        have := c.own.hs.row
        rwa [HL.out] at this
      have SS : Hid (w.heap.size + 1 + 1 < wr.heap.size) := CC.out.k2.lt
      have HNE : Hid ((Value.slice xa xn xc).ownBlock ≠ some (w.heap.size + 1 + 1)) := fun e => by have := (World.ownsRow.lt CC.out.own.hs.row _ e).1; omega
      have HFIN : Hid (∀ (w4 : World) (a4 : Option Addr) (n4 c4 : Nat) (a5 : Option Addr) (n5 c5 : Nat) (w5 : World), Ob w4 (wr.alloc (.cells #[.slice ap np cp] 130)).heap.size (.slice a4 n4 c4) (shAt d.sh k) → Below (wr.alloc (.cells #[.slice ap np cp] 130)).heap.size (wr.alloc (.cells #[.slice ap np cp] 130)) w4 → w5.ownsRow (w.heap.size + 3) 130 1 (.slice a5 n5 c5) (k + 1) (V ++ [.slice a4 n4 c4]) → (w4.alloc (.cells #[.slice a4 n4 c4] 130)).grownBy w5 (Value.slice xa xn xc).ownBlock → ((Value.slice a5 n5 c5).ownBlock = (Value.slice xa xn xc).ownBlock ∨ (Value.slice a5 n5 c5).ownBlock = some (w4.alloc (.cells #[.slice a4 n4 c4] 130)).heap.size) →
          CX w (w5.setCell ⟨w.heap.size + 1 + 1, 0, none⟩ (.slice a5 n5 c5)) (some ⟨b, off, none⟩) sn sc da dn dc a5 n5 c5 none 0 0 (V ++ [.slice a4 n4 c4]) [] ⟨d.sh.take (k + 1), []⟩) := by
        intro w4 a4 n4 c4 a5 n5 c5 w5 hO4 hb4 hO5 hg5 ha5
        rw [HTK.out]
        have hbn := below_new (o := .cells #[.slice a4 n4 c4] 130) (w := w4) (Below.refl _ _)
        exact CU.out.pushS (bt7 hb4 hbn) _ _ (own_kept hO4 (only_of_below hbn (fun _ => False)) (fun _ _ h => h)) HBY.out (by rw [HL.out]; exact hO5) hg5 ha5
      have c1 := CC.out.k2.cell (j := 0) rfl
      have s1 := SS.out
      have hk6 : k ≤ 1048576 := by omega
      have HS4 : Hid (∀ z, Below (wr.alloc (.cells #[.slice ap np cp] 130)).heap.size (wr.alloc (.cells #[.slice ap np cp] 130)) z → w.heap.size + 1 + 1 < z.heap.size) := fun z hz => by have h1 := hz.size; have h2 := CU.out.k2.lt; omega
      have HS5 : Hid (∀ z, Below (wr.alloc (.cells #[.slice ap np cp] 130)).heap.size (wr.alloc (.cells #[.slice ap np cp] 130)) z → wr.heap.size < z.heap.size) := fun z hz => by have h1 := hz.size; simp at h1; omega
      have HSZ : Hid (∀ z, Below (wr.alloc (.cells #[.slice ap np cp] 130)).heap.size (wr.alloc (.cells #[.slice ap np cp] 130)) z → w.heap.size + 3 ≤ z.heap.size) := fun z hz => by have h1 := hz.size; have h2 := CU.out.k2.lt; omega
      clear hcell hbw hp hb0 CC HBY
      go_wp2_with fail
      go_region_law (first
        | (go_simp; go_at_call 146; refine (HCB.out _ (below_drew _)).mono ?_; rintro e w4 ⟨a4, n4, c4, rfl, hO4, hb4⟩; have q1 := (HBX.out w4 (bt7 (below_drew _) hb4)).1; have s4 := HS4.out w4 (bt7 (below_drew _) hb4))
        | (refine step_append_g rfl _ _ _ rfl (w.heap.size + 3) 130 (.agg #[.slice none 0 0]) 1 24 Tryz.underlying22 infoSheetI rfl (by decide) (by decide) (.slice xa xn xc) k V rfl (HBX.out _ (bt7 (bt7 (below_drew _) hb4) (below_new (Below.refl _ _)))).2.2 w4.heap.size [.slice a4 n4 c4] rfl (rw_one (Bk.new w4 _ [_])) rfl (by intro u hu; simp at hu; subst hu; rfl) hk6 (HSZ.out _ (bt7 (bt7 (below_drew _) hb4) (below_new (Below.refl _ _)))) (w.heap.size + 1 + 1) 0 _ (HBX.out _ (bt7 (bt7 (below_drew _) hb4) (below_new (Below.refl _ _)))).1 (HBX.out _ (bt7 (bt7 (below_drew _) hb4) (below_new (Below.refl _ _)))).2.1 HNE.out ?_; intro a5 n5 c5 w5 hO5 hg5 ha5 hc5 hf5))
      all_goals go_wp2
      all_goals exact ⟨⟨k + 1, a5, n5, c5, _, by omega, by go_num, HFIN.out w4 a4 n4 c4 a5 n5 c5 w5 hO4 (bt7 (below_drew _) hb4) hO5 hg5 ha5⟩, by simp [intOf]; omega⟩
    · have hks : k = d.sh.length := by rw [← HNS.out]; omega
      have CD : Hid (CX w wr sa sn sc da dn dc xa xn xc none 0 0 V [] ⟨d.sh, []⟩) := by
        have := CC.out
        rwa [hks, List.take_length] at this
      clear CC hks
      have d1 := CD.out.k0.cell (j := 1) rfl
      go_wp2_with fail
      clear d1
      go_loopw [28] (fun i wr => ∃ (j : Nat) (ya : Option Addr) (yn yc : Nat) (Uu : List (Int × Value)), j ≤ dn ∧ i = .int .i64 j ∧ Hid (CX w wr sa sn sc da dn dc xa xn xc ya yn yc V Uu ⟨d.sh, d.dw.take j⟩)) (fun i _ => dn - (intOf i).toNat)
      case atStart => exact ⟨0, none, 0, 0, [], Nat.zero_le _, rfl, CD.out⟩
      case round =>
        clear CD
        obtain ⟨j, ya, yn, yc, Uu, hj, rfl, CC⟩ := hrel
        by_cases hlt2 : j < dn
        · have hlt' : (j : Int) < (dn : Int) := by omega
          obtain ⟨b, off, rfl, _, hbw, hcell⟩ := (HD.out.below CC.out.bel).at (by omega)
          obtain ⟨ap, np, cp, mt, m0, hp⟩ := hcell j hlt2
          have hkl : j < d.dw.length := by rw [← HND.out]; exact hlt2
          have hnp : np ≤ 1048576 := by rw [hp.len.1]; exact HSM.out.2 j hkl
          have HTK := hid (take_dw hkl)
          generalize (dwAt d.dw j).1 = tt at *
          have hb0 := below_new (o := .cells #[.int .i64 tt, .slice ap np cp] 99) (w := wr) (Below.refl _ _)
          have CU := hid (CC.out.below hb0)
          have HBY := hid hp.2
          have HCB : Hid (∀ z, Below (wr.alloc (.cells #[.int .i64 tt, .slice ap np cp] 99)).heap.size (wr.alloc (.cells #[.int .i64 tt, .slice ap np cp] 99)) z → Calls Tryz.prog 146 #[.slice ap np cp] z fun e w' => ∃ a' n' c', e = .returned (.slice a' n' c') ∧ Ob w' z.heap.size (.slice a' n' c') (dwAt d.dw j).2 ∧ Below z.heap.size z w') := fun z hz => copyB_any ap np cp _ z ((hp.rd hnp).kept (bt7 hb0 hz)) hnp
          have HL : Hid ((d.dw.take j).length = j) := by show _ = _; rw [List.length_take]; omega
          have HBX : Hid (∀ z, Below (wr.alloc (.cells #[.int .i64 tt, .slice ap np cp] 99)).heap.size (wr.alloc (.cells #[.int .i64 tt, .slice ap np cp] 99)) z → z.cell? ⟨w.heap.size + 1 + 1, 1, none⟩ = some (.slice ya yn yc) ∧ z.frozen? ⟨w.heap.size + 1 + 1, 1, none⟩ = false ∧ z.ownsRow (w.heap.size + 3) 99 2 (.slice ya yn yc) j (wcs Uu) ∧ z.cell? ⟨wr.heap.size, 0, none⟩ = some (.int .i64 tt)) := fun z hz => by
            have c := CU.out.below hz
            refine ⟨c.k2.cell (j := 1) rfl, c.k2.free 1, ?_, ((Bk.new wr 99 [.int .i64 tt, .slice ap np cp]).below hz).cell (j := 0) rfl⟩
            have := c.own.hd.row
            rwa [HL.out] at this
          have SS : Hid (w.heap.size + 1 + 1 < wr.heap.size) := CC.out.k2.lt
          have HNE : Hid ((Value.slice ya yn yc).ownBlock ≠ some (w.heap.size + 1 + 1)) := fun e => by have := (World.ownsRow.lt CC.out.own.hd.row _ e).1; omega
          have HFIN : Hid (∀ (w4 : World) (a4 : Option Addr) (n4 c4 : Nat) (a5 : Option Addr) (n5 c5 : Nat) (w5 : World), Ob w4 (wr.alloc (.cells #[.int .i64 tt, .slice ap np cp] 99)).heap.size (.slice a4 n4 c4) (dwAt d.dw j).2 → Below (wr.alloc (.cells #[.int .i64 tt, .slice ap np cp] 99)).heap.size (wr.alloc (.cells #[.int .i64 tt, .slice ap np cp] 99)) w4 → w5.ownsRow (w.heap.size + 3) 99 2 (.slice a5 n5 c5) (j + 1) (wcs Uu ++ [.int .i64 tt, .slice a4 n4 c4]) → (w4.alloc (.cells #[.int .i64 tt, .slice a4 n4 c4] 99)).grownBy w5 (Value.slice ya yn yc).ownBlock → ((Value.slice a5 n5 c5).ownBlock = (Value.slice ya yn yc).ownBlock ∨ (Value.slice a5 n5 c5).ownBlock = some (w4.alloc (.cells #[.int .i64 tt, .slice a4 n4 c4] 99)).heap.size) →
              CX w (w5.setCell ⟨w.heap.size + 1 + 1, 1, none⟩ (.slice a5 n5 c5)) sa sn sc (some ⟨b, off, none⟩) dn dc xa xn xc a5 n5 c5 V (Uu ++ [(tt, .slice a4 n4 c4)]) ⟨d.sh, d.dw.take (j + 1)⟩) := by
            intro w4 a4 n4 c4 a5 n5 c5 w5 hO4 hb4 hO5 hg5 ha5
            rw [HTK.out]
            have hbn := below_new (o := .cells #[.int .i64 tt, .slice a4 n4 c4] 99) (w := w4) (Below.refl _ _)
            exact CU.out.pushW (bt7 hb4 hbn) tt _ _ (own_kept hO4 (only_of_below hbn (fun _ => False)) (fun _ _ h => h)) HBY.out (by rw [HL.out]; exact hO5) hg5 ha5
          have c1 := CC.out.k2.cell (j := 1) rfl
          have s1 := SS.out
          have hk6 : j ≤ 1048576 := by omega
          have HS4 : Hid (∀ z, Below (wr.alloc (.cells #[.int .i64 tt, .slice ap np cp] 99)).heap.size (wr.alloc (.cells #[.int .i64 tt, .slice ap np cp] 99)) z → w.heap.size + 1 + 1 < z.heap.size) := fun z hz => by have h1 := hz.size; have h2 := CU.out.k2.lt; omega
          have HS5 : Hid (∀ z, Below (wr.alloc (.cells #[.int .i64 tt, .slice ap np cp] 99)).heap.size (wr.alloc (.cells #[.int .i64 tt, .slice ap np cp] 99)) z → wr.heap.size < z.heap.size) := fun z hz => by have h1 := hz.size; simp at h1; omega
          have HSZ : Hid (∀ z, Below (wr.alloc (.cells #[.int .i64 tt, .slice ap np cp] 99)).heap.size (wr.alloc (.cells #[.int .i64 tt, .slice ap np cp] 99)) z → w.heap.size + 3 ≤ z.heap.size) := fun z hz => by have h1 := hz.size; have h2 := CU.out.k2.lt; omega
          clear hcell hbw hp hb0 CC HBY
          go_wp2_with fail
          go_region_law (first
            | (go_simp; go_at_call 146; refine (HCB.out _ (below_drew _)).mono ?_; rintro e w4 ⟨a4, n4, c4, rfl, hO4, hb4⟩; have q1 := (HBX.out w4 (bt7 (below_drew _) hb4)).1; have q2 := (HBX.out w4 (bt7 (below_drew _) hb4)).2.2.2; have s4 := HS4.out w4 (bt7 (below_drew _) hb4); have s5 := HS5.out w4 (bt7 (below_drew _) hb4))
            | (refine step_append_g rfl _ _ _ rfl (w.heap.size + 3) 99 (.agg #[.int .i64 0, .slice none 0 0]) 2 32 Tryz.underlying23 infoWriteI rfl (by decide) (by decide) (.slice ya yn yc) j (wcs Uu) rfl (HBX.out _ (bt7 (bt7 (below_drew _) hb4) (below_new (Below.refl _ _)))).2.2.1 w4.heap.size [.int .i64 tt, .slice a4 n4 c4] rfl (rw_two (Bk.new w4 _ [_, _])) rfl (by intro u hu; simp at hu; rcases hu with rfl | rfl <;> rfl) hk6 (HSZ.out _ (bt7 (bt7 (below_drew _) hb4) (below_new (Below.refl _ _)))) (w.heap.size + 1 + 1) 1 _ (HBX.out _ (bt7 (bt7 (below_drew _) hb4) (below_new (Below.refl _ _)))).1 (HBX.out _ (bt7 (bt7 (below_drew _) hb4) (below_new (Below.refl _ _)))).2.1 HNE.out ?_; intro a5 n5 c5 w5 hO5 hg5 ha5 hc5 hf5))
          all_goals go_wp2
          all_goals exact ⟨⟨j + 1, a5, n5, c5, _, by omega, by go_num, HFIN.out w4 a4 n4 c4 a5 n5 c5 w5 hO4 (bt7 (below_drew _) hb4) hO5 hg5 ha5⟩, by simp [intOf]; omega⟩
        · have hjd : j = d.dw.length := by rw [← HND.out]; omega
          have CE : Hid (CX w wr sa sn sc da dn dc xa xn xc ya yn yc V Uu d) := by
            have := CC.out
            rwa [hjd, List.take_length] at this
          clear CC hjd
          have c0 := CE.out.k2.cell (j := 0) rfl
          have c1 := CE.out.k2.cell (j := 1) rfl
          have r0 := CE.out.k1.cell (j := 0) rfl
          have r1 := CE.out.k1.cell (j := 1) rfl
          have f0 := CE.out.k1.free 0
          have f1 := CE.out.k1.free 1
          go_wp2
          try simp only [Exit.inBlock, Exit.then]
          refine bodyPost_ret (v := .agg #[.slice xa xn xc, .slice ya yn yc]) ?_ rfl ?_
          · exact results_dsk rfl _ _ _ rfl (by go_simp) (by go_simp)
          · have O1 : Only (fun y => y = w.heap.size + 1) wr ((wr.setCell ⟨w.heap.size + 1, 0, none⟩ (.slice xa xn xc)).setCell ⟨w.heap.size + 1, 1, none⟩ (.slice ya yn yc)) := (only_set (R := fun y => y = w.heap.size + 1) rfl _).trans (only_set (R := fun y => y = w.heap.size + 1) rfl _)
            exact ⟨_, _, _, _, _, _, _, _, rfl, (CE.out.own.to O1 (fun y e e2 => by have := (CE.out.own.lt e).1; omega)).base (by omega), (CE.out.bel.setCell (p := ⟨w.heap.size + 1, 0, none⟩) (Nat.le_succ _) _).setCell (p := ⟨w.heap.size + 1, 1, none⟩) (Nat.le_succ _) _⟩
open Go.RowKit
set_option linter.unusedVariables false
def stD (d : DK) : DK := if stC d = 0 then d else ⟨[], []⟩
def stG (d : DK) : Int := if stC d = 0 then (bestM d 2).1 else 0
def stL (d : DK) : LS := if stC d = 0 then (stR d).getD ([], []) else ([], [])
theorem stC_ok {d : DK} (h : stC d = 0) : dkOk d = true ∧ d.dw.length = 0 := by
  unfold stC at h
  split at h
  · cases h
  · rename_i h1
    have h2 := not_or.1 h1
    exact ⟨by simpa using h2.1, by omega⟩
theorem stD_small {d : DK} (h : smallD d) : smallD (stD d) ∧ (stD d).sh.length ≤ 1048576 ∧ (stD d).dw.length ≤ 1048576 := by
  unfold stD
  split
  · rename_i hc
    obtain ⟨h1, h2⟩ := stC_ok hc
    simp only [dkOk, Bool.and_eq_true, decide_eq_true_eq] at h1
    exact ⟨h, by omega, by omega⟩
  · exact ⟨⟨fun i hi => by simp at hi, fun i hi => by simp at hi⟩, by simp, by simp⟩
structure SN (w : World) (B : Nat) (na : Option Addr) (nn nc : Nat) (pa : Option Addr) (pn pc : Nat) (V : List V3) (s : LS) : Prop where
  nod : NA w (.slice na nn nc) V s.1
  pla : w.ownsRow 0 3 1 (.slice pa pn pc) s.2.length (s.2.map (Value.int .i64))
  len : s.2.length = s.1.length
  bn : ∀ y, (Value.slice na nn nc).ownBlock = some y → B ≤ y
  bb : ∀ i, i < s.1.length → ∀ y, bl (vAt V i) y → B ≤ y
  bp : ∀ y, (Value.slice pa pn pc).ownBlock = some y → B ≤ y ∧ (Value.slice na nn nc).ownBlock ≠ some y ∧ ∀ i, i < s.1.length → ¬ bl (vAt V i) y
def snb (na : Option Addr) (nn nc : Nat) (pa : Option Addr) (pn pc : Nat) (V : List V3) (s : LS) (y : Nat) : Prop := (Value.slice na nn nc).ownBlock = some y ∨ (Value.slice pa pn pc).ownBlock = some y ∨ ∃ i, i < s.1.length ∧ bl (vAt V i) y
theorem SN.to {w w' : World} {B : Nat} {R : Nat → Prop} {na : Option Addr} {nn nc : Nat} {pa : Option Addr} {pn pc : Nat} {V : List V3} {s : LS} (h : SN w B na nn nc pa pn pc V s) (ho : Only R w w') (hR : ∀ y, snb na nn nc pa pn pc V s y → ¬ R y) : SN w' B na nn nc pa pn pc V s :=
  ⟨h.nod.to ho (fun y e => hR y (.inl e)) (fun i hi y e => hR y (.inr (.inr ⟨i, hi, e⟩))), own_kept h.pla ho (fun y e => hR y (.inr (.inl e))), h.len, h.bn, h.bb, h.bp⟩
theorem SN.below {w w' : World} {B : Nat} {na : Option Addr} {nn nc : Nat} {pa : Option Addr} {pn pc : Nat} {V : List V3} {s : LS} (h : SN w B na nn nc pa pn pc V s) (hb : Below w.heap.size w w') : SN w' B na nn nc pa pn pc V s := h.to (only_of_below hb (fun _ => False)) (fun _ _ h => h)
theorem SN.lt {w : World} {B : Nat} {na : Option Addr} {nn nc : Nat} {pa : Option Addr} {pn pc : Nat} {V : List V3} {s : LS} (h : SN w B na nn nc pa pn pc V s) {y : Nat} (hy : snb na nn nc pa pn pc V s y) : B ≤ y ∧ y < w.heap.size := by
  rcases hy with e | e | ⟨i, hi, e⟩
  · exact ⟨h.bn y e, (World.ownsRow.lt h.nod.row y e).2⟩
  · exact ⟨(h.bp y e).1, (World.ownsRow.lt h.pla y e).2⟩
  · exact ⟨h.bb i hi y e, (h.nod.own i hi).1.lt e⟩
theorem SN.base {w : World} {B B' : Nat} {na : Option Addr} {nn nc : Nat} {pa : Option Addr} {pn pc : Nat} {V : List V3} {s : LS} (h : SN w B na nn nc pa pn pc V s) (hB : B' ≤ B) : SN w B' na nn nc pa pn pc V s :=
  ⟨h.nod, h.pla, h.len, fun y e => Nat.le_trans hB (h.bn y e), fun i hi y e => Nat.le_trans hB (h.bb i hi y e), fun y e => ⟨Nat.le_trans hB (h.bp y e).1, (h.bp y e).2⟩⟩
theorem so_uni {S : Nat → Prop} {sa : Option Addr} {sn sc : Nat} {da : Option Addr} {dn dc : Nat} {d : DK} {w w' : World} {e : Ending} (h : SoPost sa sn sc da dn dc d w e w') (hD : Dk w S sa sn sc da dn dc d) : Below w.heap.size w w' ∧ ∃ xa xn xc ya yn yc na nn nc pa pn pc V, e = .returned (.tuple #[.agg #[.slice xa xn xc, .slice ya yn yc, .int .i64 (stG d), .slice na nn nc, .slice pa pn pc], .int .i64 (stC d)]) ∧ Dk w' (fun y => y < w.heap.size) xa xn xc ya yn yc (stD d) ∧ SN w' w.heap.size na nn nc pa pn pc V (stL d) := by
  obtain ⟨hb, ⟨hc, rfl⟩ | ⟨s, na, nn, nc, pa, pn, pc, V, hc, hs, hl, rfl, h1, h2, h3, h4, h5⟩⟩ := h
  · refine ⟨hb, none, 0, 0, none, 0, 0, none, 0, 0, none, 0, 0, [], ?_, ?_, ?_⟩
    · rw [stG, if_neg hc]; rfl
    · rw [stD, if_neg hc]
      exact ⟨⟨[], rfl, rw_nil _ _, fun i hi => by simp at hi⟩, ⟨[], rfl, rw_nil _ _, fun i hi => by simp at hi⟩⟩
    · rw [stL, if_neg hc]
      exact ⟨na_nil _, World.ownsRow_nil _ _ _ _, rfl, fun y e => (by cases e), fun i hi => (by simp at hi), fun y e => (by cases e)⟩
  · refine ⟨hb, sa, sn, sc, da, dn, dc, na, nn, nc, pa, pn, pc, V, ?_, ?_, ?_⟩
    · rw [stG, if_pos hc, hc]
    · rw [stD, if_pos hc]
      exact (hD.mono (fun y _ h => h)).below hb
    · rw [stL, if_pos hc, hs]
      exact ⟨h1, h2, hl, h3, h4, h5⟩
def SiPost (d : DK) (w : World) (e : Ending) (w' : World) : Prop := Below w.heap.size w w' ∧ ∃ sa sn sc da dn dc Vd U na nn nc pa pn pc V, e = .returned (.tuple #[.agg #[.slice sa sn sc, .slice da dn dc, .int .i64 (stG d), .slice na nn nc, .slice pa pn pc], .int .i64 (stC d)]) ∧ DO w' w.heap.size (.slice sa sn sc) Vd (.slice da dn dc) U (stD d) ∧ SN w' w.heap.size na nn nc pa pn pc V (stL d) ∧ ∀ y, dbl (.slice sa sn sc) Vd (.slice da dn dc) U y → ¬ snb na nn nc pa pn pc V (stL d) y
open Go.RowKit
set_option linter.unusedVariables false
set_option maxHeartbeats 16000000 in
set_option maxRecDepth 20000 in
theorem l05Copy_any (S : Nat → Prop) (sa : Option Addr) (sn sc : Nat) (da : Option Addr) (dn dc : Nat) (d : DK) (w : World) (h : Dk w S sa sn sc da dn dc d) (hsm : smallD d) (h1 : sn ≤ 1048576) (h2 : dn ≤ 1048576) :
    Calls Tryz.prog 76 #[.agg #[.slice sa sn sc, .slice da dn dc]] w fun e w' => DkPost1 d w e w' := by
  have HS := hid h.hs
  have HD := hid h.hd
  have HSM := hid hsm
  have HNS := hid h.hs.len.1
  have HND := hid h.hd.len.1
  have C0 := hid (CX.start w sa sn sc da dn dc)
  clear h hsm
  go_enter Tryz.func76, Tryz.ntmps76
  go_wp2_with fail
  go_loopw [12] (fun i wr => ∃ (k : Nat) (xa : Option Addr) (xn xc : Nat) (V : List Value), k ≤ sn ∧ i = .int .i64 k ∧ Hid (CX w wr sa sn sc da dn dc xa xn xc none 0 0 V [] ⟨d.sh.take k, []⟩)) (fun i _ => sn - (intOf i).toNat)
  case atStart => exact ⟨0, none, 0, 0, [], Nat.zero_le _, rfl, C0.out⟩
  case round =>
    obtain ⟨k, xa, xn, xc, V, hk, rfl, CC⟩ := hrel
    clear C0
    by_cases hlt : k < sn
    · have hlt' : (k : Int) < (sn : Int) := by omega
      obtain ⟨b, off, rfl, _, hbw, hcell⟩ := (HS.out.below CC.out.bel).at (by omega)
      obtain ⟨ap, np, cp, m0, hp⟩ := hcell k hlt
      have hkl : k < d.sh.length := by rw [← HNS.out]; exact hlt
      have hnp : np ≤ 1048576 := by rw [hp.len.1]; exact HSM.out.1 k hkl
      have hb0 := below_new (o := .cells #[.slice ap np cp] 130) (w := wr) (Below.refl _ _)
      have CU := hid (CC.out.below hb0)
      have HBY := hid hp.2
      have HL : Hid ((d.sh.take k).length = k) := by show _ = _; rw [List.length_take]; omega
      have HTK := hid (take_sh hkl)
      have HBX : Hid (∀ z, Below (wr.alloc (.cells #[.slice ap np cp] 130)).heap.size (wr.alloc (.cells #[.slice ap np cp] 130)) z → z.cell? ⟨w.heap.size + 1 + 1, 0, none⟩ = some (.slice xa xn xc) ∧ z.frozen? ⟨w.heap.size + 1 + 1, 0, none⟩ = false ∧ z.ownsRow (w.heap.size + 3) 130 1 (.slice xa xn xc) k V) := fun z hz => by
        have c := CU.out.below hz
        refine ⟨c.k2.cell (j := 0) rfl, c.k2.free 0, ?_⟩
        have := c.own.hs.row
        rwa [HL.out] at this
      have SS : Hid (w.heap.size + 1 + 1 < wr.heap.size) := CC.out.k2.lt
      have HNE : Hid ((Value.slice xa xn xc).ownBlock ≠ some (w.heap.size + 1 + 1)) := fun e => by have := (World.ownsRow.lt CC.out.own.hs.row _ e).1; omega
      have HFIN : Hid (∀ (w4 : World) (a4 : Option Addr) (n4 c4 : Nat) (a5 : Option Addr) (n5 c5 : Nat) (w5 : World), Ob w4 (wr.alloc (.cells #[.slice ap np cp] 130)).heap.size (.slice a4 n4 c4) (shAt d.sh k) → Below (wr.alloc (.cells #[.slice ap np cp] 130)).heap.size (wr.alloc (.cells #[.slice ap np cp] 130)) w4 → w5.ownsRow (w.heap.size + 3) 130 1 (.slice a5 n5 c5) (k + 1) (V ++ [.slice a4 n4 c4]) → (w4.alloc (.cells #[.slice a4 n4 c4] 130)).grownBy w5 (Value.slice xa xn xc).ownBlock → ((Value.slice a5 n5 c5).ownBlock = (Value.slice xa xn xc).ownBlock ∨ (Value.slice a5 n5 c5).ownBlock = some (w4.alloc (.cells #[.slice a4 n4 c4] 130)).heap.size) →
          CX w (w5.setCell ⟨w.heap.size + 1 + 1, 0, none⟩ (.slice a5 n5 c5)) (some ⟨b, off, none⟩) sn sc da dn dc a5 n5 c5 none 0 0 (V ++ [.slice a4 n4 c4]) [] ⟨d.sh.take (k + 1), []⟩) := by
        intro w4 a4 n4 c4 a5 n5 c5 w5 hO4 hb4 hO5 hg5 ha5
        rw [HTK.out]
        have hbn := below_new (o := .cells #[.slice a4 n4 c4] 130) (w := w4) (Below.refl _ _)
        exact CU.out.pushS (bt7 hb4 hbn) _ _ (own_kept hO4 (only_of_below hbn (fun _ => False)) (fun _ _ h => h)) HBY.out (by rw [HL.out]; exact hO5) hg5 ha5
      have c1 := CC.out.k2.cell (j := 0) rfl
      have s1 := SS.out
      have s1b : w.heap.size + 1 + 1 < wr.heap.size + 1 := by omega
      have hk6 : k ≤ 1048576 := by omega
      have HS4 : Hid (∀ z, Below (wr.alloc (.cells #[.slice ap np cp] 130)).heap.size (wr.alloc (.cells #[.slice ap np cp] 130)) z → w.heap.size + 1 + 1 < z.heap.size) := fun z hz => by have h1 := hz.size; have h2 := CU.out.k2.lt; omega
      have HS5 : Hid (∀ z, Below (wr.alloc (.cells #[.slice ap np cp] 130)).heap.size (wr.alloc (.cells #[.slice ap np cp] 130)) z → wr.heap.size < z.heap.size) := fun z hz => by have h1 := hz.size; simp at h1; omega
      have hbe : Below (wr.alloc (.cells #[.slice ap np cp] 130)).heap.size (wr.alloc (.cells #[.slice ap np cp] 130)) ((wr.alloc (.cells #[.slice ap np cp] 130)).alloc (.cells #[] 5)).drew := bt7 (below_new (Below.refl _ _)) (below_drew _)
      have HUS : Hid ((wr.alloc (.cells #[.slice ap np cp] 130)).heap.size = wr.heap.size + 1) := by show _ = _; simp
      have HOB : Hid (Ob ((wr.alloc (.cells #[.slice ap np cp] 130)).alloc (.cells #[] 5)).drew (wr.heap.size + 1) (.slice (some ⟨wr.heap.size + 1, 0, none⟩) 0 0) []) := by
        have := ob_new (wr.alloc (.cells #[.slice ap np cp] 130)) (wr.alloc (.cells #[.slice ap np cp] 130)).heap.size (Nat.le_refl _)
        rw [HUS.out] at this
        exact own_kept this (only_of_below (below_drew _) (fun _ => False)) (fun _ _ h => h)
      have HRD2 : Hid (Rd ((wr.alloc (.cells #[.slice ap np cp] 130)).alloc (.cells #[] 5)).drew ap np cp (shAt d.sh k)) := (hp.rd hnp).kept (bt7 hb0 hbe)
      have hzb : ([] : List Int).length + (shAt d.sh k).length ≤ 70368744177664 := by rw [← hp.len.1]; simp; omega
      have HZ2 : Hid (wr.heap.size + 1 ≤ ((wr.alloc (.cells #[.slice ap np cp] 130)).alloc (.cells #[] 5)).drew.heap.size) := by have := hbe.size; rw [HUS.out] at this; exact this
      have HB4 : Hid (∀ w4 : World, ((wr.alloc (.cells #[.slice ap np cp] 130)).alloc (.cells #[] 5)).drew.grownBy w4 (Value.slice (some ⟨wr.heap.size + 1, 0, none⟩) 0 0).ownBlock → Below (wr.alloc (.cells #[.slice ap np cp] 130)).heap.size (wr.alloc (.cells #[.slice ap np cp] 130)) w4) := fun w4 hg => hbe.trans ((only_of_grown hg (R := fun y => (Value.slice (some ⟨wr.heap.size + 1, 0, none⟩) 0 0).ownBlock = some y) (fun k e => e)).below hbe.size (fun y hy e => by have e' : wr.heap.size + 1 = y := (by simpa [Value.ownBlock] using e); rw [HUS.out] at hy; omega))
      have HCV : Hid (∀ (w4 : World) (v4 : Value), Ob w4 (wr.heap.size + 1) v4 ([] ++ (shAt d.sh k)) → Ob w4 (wr.alloc (.cells #[.slice ap np cp] 130)).heap.size v4 (shAt d.sh k)) := fun w4 v4 hO => by rw [HUS.out]; simpa using hO
      clear hbe
      have HSZ : Hid (∀ z, Below (wr.alloc (.cells #[.slice ap np cp] 130)).heap.size (wr.alloc (.cells #[.slice ap np cp] 130)) z → w.heap.size + 3 ≤ z.heap.size) := fun z hz => by have h1 := hz.size; have h2 := CU.out.k2.lt; omega
      clear hcell hbw hp hb0 CC HBY
      go_wp2_with fail
      go_region_law (first
        | (refine step_append_rd rfl _ _ rfl (wr.heap.size + 1) _ [] rfl HOB.out ap np cp (shAt d.sh k) rfl HRD2.out hzb HZ2.out ?_; intro a4 n4 c4 w4 hO4 hg4; have hb4 := HB4.out w4 hg4; have q1 := (HBX.out w4 hb4).1; have s4 := HS4.out w4 hb4)
        | (refine step_append_g rfl _ _ _ rfl (w.heap.size + 3) 130 (.agg #[.slice none 0 0]) 1 24 Tryz.underlying22 infoSheetI rfl (by decide) (by decide) (.slice xa xn xc) k V rfl (HBX.out _ (bt7 hb4 (below_new (Below.refl _ _)))).2.2 w4.heap.size [.slice a4 n4 c4] rfl (rw_one (Bk.new w4 _ [_])) rfl (by intro u hu; simp at hu; subst hu; rfl) hk6 (HSZ.out _ (bt7 hb4 (below_new (Below.refl _ _)))) (w.heap.size + 1 + 1) 0 _ (HBX.out _ (bt7 hb4 (below_new (Below.refl _ _)))).1 (HBX.out _ (bt7 hb4 (below_new (Below.refl _ _)))).2.1 HNE.out ?_; intro a5 n5 c5 w5 hO5 hg5 ha5 hc5 hf5))
      all_goals go_wp2
      all_goals exact ⟨⟨k + 1, a5, n5, c5, _, by omega, by go_num, HFIN.out w4 a4 n4 c4 a5 n5 c5 w5 (HCV.out _ _ hO4) hb4 hO5 hg5 ha5⟩, by simp [intOf]; omega⟩
    · have hks : k = d.sh.length := by rw [← HNS.out]; omega
      have CD : Hid (CX w wr sa sn sc da dn dc xa xn xc none 0 0 V [] ⟨d.sh, []⟩) := by
        have := CC.out
        rwa [hks, List.take_length] at this
      clear CC hks
      have d1 := CD.out.k0.cell (j := 1) rfl
      go_wp2_with fail
      clear d1
      go_loopw [30] (fun i wr => ∃ (j : Nat) (ya : Option Addr) (yn yc : Nat) (Uu : List (Int × Value)), j ≤ dn ∧ i = .int .i64 j ∧ Hid (CX w wr sa sn sc da dn dc xa xn xc ya yn yc V Uu ⟨d.sh, d.dw.take j⟩)) (fun i _ => dn - (intOf i).toNat)
      case atStart => exact ⟨0, none, 0, 0, [], Nat.zero_le _, rfl, CD.out⟩
      case round =>
        clear CD
        obtain ⟨j, ya, yn, yc, Uu, hj, rfl, CC⟩ := hrel
        by_cases hlt2 : j < dn
        · have hlt' : (j : Int) < (dn : Int) := by omega
          obtain ⟨b, off, rfl, _, hbw, hcell⟩ := (HD.out.below CC.out.bel).at (by omega)
          obtain ⟨ap, np, cp, mt, m0, hp⟩ := hcell j hlt2
          have hkl : j < d.dw.length := by rw [← HND.out]; exact hlt2
          have hnp : np ≤ 1048576 := by rw [hp.len.1]; exact HSM.out.2 j hkl
          have HTK := hid (take_dw hkl)
          generalize (dwAt d.dw j).1 = tt at *
          have hb0 := below_new (o := .cells #[.int .i64 tt, .slice ap np cp] 99) (w := wr) (Below.refl _ _)
          have CU := hid (CC.out.below hb0)
          have HBY := hid hp.2
          have HL : Hid ((d.dw.take j).length = j) := by show _ = _; rw [List.length_take]; omega
          have HBX : Hid (∀ z, Below (wr.alloc (.cells #[.int .i64 tt, .slice ap np cp] 99)).heap.size (wr.alloc (.cells #[.int .i64 tt, .slice ap np cp] 99)) z → z.cell? ⟨w.heap.size + 1 + 1, 1, none⟩ = some (.slice ya yn yc) ∧ z.frozen? ⟨w.heap.size + 1 + 1, 1, none⟩ = false ∧ z.ownsRow (w.heap.size + 3) 99 2 (.slice ya yn yc) j (wcs Uu) ∧ z.cell? ⟨wr.heap.size, 0, none⟩ = some (.int .i64 tt)) := fun z hz => by
            have c := CU.out.below hz
            refine ⟨c.k2.cell (j := 1) rfl, c.k2.free 1, ?_, ((Bk.new wr 99 [.int .i64 tt, .slice ap np cp]).below hz).cell (j := 0) rfl⟩
            have := c.own.hd.row
            rwa [HL.out] at this
          have SS : Hid (w.heap.size + 1 + 1 < wr.heap.size) := CC.out.k2.lt
          have HNE : Hid ((Value.slice ya yn yc).ownBlock ≠ some (w.heap.size + 1 + 1)) := fun e => by have := (World.ownsRow.lt CC.out.own.hd.row _ e).1; omega
          have HFIN : Hid (∀ (w4 : World) (a4 : Option Addr) (n4 c4 : Nat) (a5 : Option Addr) (n5 c5 : Nat) (w5 : World), Ob w4 (wr.alloc (.cells #[.int .i64 tt, .slice ap np cp] 99)).heap.size (.slice a4 n4 c4) (dwAt d.dw j).2 → Below (wr.alloc (.cells #[.int .i64 tt, .slice ap np cp] 99)).heap.size (wr.alloc (.cells #[.int .i64 tt, .slice ap np cp] 99)) w4 → w5.ownsRow (w.heap.size + 3) 99 2 (.slice a5 n5 c5) (j + 1) (wcs Uu ++ [.int .i64 tt, .slice a4 n4 c4]) → (w4.alloc (.cells #[.int .i64 tt, .slice a4 n4 c4] 99)).grownBy w5 (Value.slice ya yn yc).ownBlock → ((Value.slice a5 n5 c5).ownBlock = (Value.slice ya yn yc).ownBlock ∨ (Value.slice a5 n5 c5).ownBlock = some (w4.alloc (.cells #[.int .i64 tt, .slice a4 n4 c4] 99)).heap.size) →
              CX w (w5.setCell ⟨w.heap.size + 1 + 1, 1, none⟩ (.slice a5 n5 c5)) sa sn sc (some ⟨b, off, none⟩) dn dc xa xn xc a5 n5 c5 V (Uu ++ [(tt, .slice a4 n4 c4)]) ⟨d.sh, d.dw.take (j + 1)⟩) := by
            intro w4 a4 n4 c4 a5 n5 c5 w5 hO4 hb4 hO5 hg5 ha5
            rw [HTK.out]
            have hbn := below_new (o := .cells #[.int .i64 tt, .slice a4 n4 c4] 99) (w := w4) (Below.refl _ _)
            exact CU.out.pushW (bt7 hb4 hbn) tt _ _ (own_kept hO4 (only_of_below hbn (fun _ => False)) (fun _ _ h => h)) HBY.out (by rw [HL.out]; exact hO5) hg5 ha5
          have c1 := CC.out.k2.cell (j := 1) rfl
          have s1 := SS.out
          have s1b : w.heap.size + 1 + 1 < wr.heap.size + 1 := by omega
          have hk6 : j ≤ 1048576 := by omega
          have HS4 : Hid (∀ z, Below (wr.alloc (.cells #[.int .i64 tt, .slice ap np cp] 99)).heap.size (wr.alloc (.cells #[.int .i64 tt, .slice ap np cp] 99)) z → w.heap.size + 1 + 1 < z.heap.size) := fun z hz => by have h1 := hz.size; have h2 := CU.out.k2.lt; omega
          have HS5 : Hid (∀ z, Below (wr.alloc (.cells #[.int .i64 tt, .slice ap np cp] 99)).heap.size (wr.alloc (.cells #[.int .i64 tt, .slice ap np cp] 99)) z → wr.heap.size < z.heap.size) := fun z hz => by have h1 := hz.size; simp at h1; omega
          have hbe : Below (wr.alloc (.cells #[.int .i64 tt, .slice ap np cp] 99)).heap.size (wr.alloc (.cells #[.int .i64 tt, .slice ap np cp] 99)) ((wr.alloc (.cells #[.int .i64 tt, .slice ap np cp] 99)).alloc (.cells #[] 5)).drew := bt7 (below_new (Below.refl _ _)) (below_drew _)
          have HUS : Hid ((wr.alloc (.cells #[.int .i64 tt, .slice ap np cp] 99)).heap.size = wr.heap.size + 1) := by show _ = _; simp
          have HOB : Hid (Ob ((wr.alloc (.cells #[.int .i64 tt, .slice ap np cp] 99)).alloc (.cells #[] 5)).drew (wr.heap.size + 1) (.slice (some ⟨wr.heap.size + 1, 0, none⟩) 0 0) []) := by
            have := ob_new (wr.alloc (.cells #[.int .i64 tt, .slice ap np cp] 99)) (wr.alloc (.cells #[.int .i64 tt, .slice ap np cp] 99)).heap.size (Nat.le_refl _)
            rw [HUS.out] at this
            exact own_kept this (only_of_below (below_drew _) (fun _ => False)) (fun _ _ h => h)
          have HRD2 : Hid (Rd ((wr.alloc (.cells #[.int .i64 tt, .slice ap np cp] 99)).alloc (.cells #[] 5)).drew ap np cp (dwAt d.dw j).2) := (hp.rd hnp).kept (bt7 hb0 hbe)
          have hzb : ([] : List Int).length + (dwAt d.dw j).2.length ≤ 70368744177664 := by rw [← hp.len.1]; simp; omega
          have HZ2 : Hid (wr.heap.size + 1 ≤ ((wr.alloc (.cells #[.int .i64 tt, .slice ap np cp] 99)).alloc (.cells #[] 5)).drew.heap.size) := by have := hbe.size; rw [HUS.out] at this; exact this
          have HB4 : Hid (∀ w4 : World, ((wr.alloc (.cells #[.int .i64 tt, .slice ap np cp] 99)).alloc (.cells #[] 5)).drew.grownBy w4 (Value.slice (some ⟨wr.heap.size + 1, 0, none⟩) 0 0).ownBlock → Below (wr.alloc (.cells #[.int .i64 tt, .slice ap np cp] 99)).heap.size (wr.alloc (.cells #[.int .i64 tt, .slice ap np cp] 99)) w4) := fun w4 hg => hbe.trans ((only_of_grown hg (R := fun y => (Value.slice (some ⟨wr.heap.size + 1, 0, none⟩) 0 0).ownBlock = some y) (fun k e => e)).below hbe.size (fun y hy e => by have e' : wr.heap.size + 1 = y := (by simpa [Value.ownBlock] using e); rw [HUS.out] at hy; omega))
          have HCV : Hid (∀ (w4 : World) (v4 : Value), Ob w4 (wr.heap.size + 1) v4 ([] ++ (dwAt d.dw j).2) → Ob w4 (wr.alloc (.cells #[.int .i64 tt, .slice ap np cp] 99)).heap.size v4 (dwAt d.dw j).2) := fun w4 v4 hO => by rw [HUS.out]; simpa using hO
          clear hbe
          have HSZ : Hid (∀ z, Below (wr.alloc (.cells #[.int .i64 tt, .slice ap np cp] 99)).heap.size (wr.alloc (.cells #[.int .i64 tt, .slice ap np cp] 99)) z → w.heap.size + 3 ≤ z.heap.size) := fun z hz => by have h1 := hz.size; have h2 := CU.out.k2.lt; omega
          clear hcell hbw hp hb0 CC HBY
          go_wp2_with fail
          go_region_law (first
            | (refine step_append_rd rfl _ _ rfl (wr.heap.size + 1) _ [] rfl HOB.out ap np cp (dwAt d.dw j).2 rfl HRD2.out hzb HZ2.out ?_; intro a4 n4 c4 w4 hO4 hg4; have hb4 := HB4.out w4 hg4; have q1 := (HBX.out w4 hb4).1; have s4 := HS4.out w4 hb4; have q2 := (HBX.out w4 hb4).2.2.2; have s5 := HS5.out w4 hb4)
            | (refine step_append_g rfl _ _ _ rfl (w.heap.size + 3) 99 (.agg #[.int .i64 0, .slice none 0 0]) 2 32 Tryz.underlying23 infoWriteI rfl (by decide) (by decide) (.slice ya yn yc) j (wcs Uu) rfl (HBX.out _ (bt7 hb4 (below_new (Below.refl _ _)))).2.2.1 w4.heap.size [.int .i64 tt, .slice a4 n4 c4] rfl (rw_two (Bk.new w4 _ [_, _])) rfl (by intro u hu; simp at hu; rcases hu with rfl | rfl <;> rfl) hk6 (HSZ.out _ (bt7 hb4 (below_new (Below.refl _ _)))) (w.heap.size + 1 + 1) 1 _ (HBX.out _ (bt7 hb4 (below_new (Below.refl _ _)))).1 (HBX.out _ (bt7 hb4 (below_new (Below.refl _ _)))).2.1 HNE.out ?_; intro a5 n5 c5 w5 hO5 hg5 ha5 hc5 hf5))
          all_goals go_wp2
          all_goals exact ⟨⟨j + 1, a5, n5, c5, _, by omega, by go_num, HFIN.out w4 a4 n4 c4 a5 n5 c5 w5 (HCV.out _ _ hO4) hb4 hO5 hg5 ha5⟩, by simp [intOf]; omega⟩
        · have hjd : j = d.dw.length := by rw [← HND.out]; omega
          have CE : Hid (CX w wr sa sn sc da dn dc xa xn xc ya yn yc V Uu d) := by
            have := CC.out
            rwa [hjd, List.take_length] at this
          clear CC hjd
          have c0 := CE.out.k2.cell (j := 0) rfl
          have c1 := CE.out.k2.cell (j := 1) rfl
          have r0 := CE.out.k1.cell (j := 0) rfl
          have r1 := CE.out.k1.cell (j := 1) rfl
          have f0 := CE.out.k1.free 0
          have f1 := CE.out.k1.free 1
          go_wp2
          try simp only [Exit.inBlock, Exit.then]
          refine bodyPost_ret (v := .agg #[.slice xa xn xc, .slice ya yn yc]) ?_ rfl ?_
          · exact results_dsk rfl _ _ _ rfl (by go_simp) (by go_simp)
          · have O1 : Only (fun y => y = w.heap.size + 1) wr ((wr.setCell ⟨w.heap.size + 1, 0, none⟩ (.slice xa xn xc)).setCell ⟨w.heap.size + 1, 1, none⟩ (.slice ya yn yc)) := (only_set (R := fun y => y = w.heap.size + 1) rfl _).trans (only_set (R := fun y => y = w.heap.size + 1) rfl _)
            exact ⟨_, _, _, _, _, _, _, _, rfl, (CE.out.own.to O1 (fun y e e2 => by have := (CE.out.own.lt e).1; omega)).base (by omega), (CE.out.bel.setCell (p := ⟨w.heap.size + 1, 0, none⟩) (Nat.le_succ _) _).setCell (p := ⟨w.heap.size + 1, 1, none⟩) (Nat.le_succ _) _⟩
open Go.RowKit
set_option linter.unusedVariables false
def dwrD (d : DK) (t : Int) (bs : List Int) : DK := ⟨d.sh, d.dw ++ [(t, bs)]⟩
def dwrV (d : DK) (t : Int) (bs : List Int) : Option DK := if dkOk (dwrD d t bs) = true then some (dwrD d t bs) else none
theorem dwr_no {d : DK} {t : Int} {bs : List Int} (h : dkOk d = false) : dkOk (dwrD d t bs) = false := by
  cases e : dkOk (dwrD d t bs) with
  | false => rfl
  | true =>
    have k := (dkOk_iff _).1 e
    have hl : (dwrD d t bs).dw.length = d.dw.length + 1 := by simp [dwrD]
    have : dkOk d = true := (dkOk_iff d).2 ⟨k.1, k.2.1, by have := k.2.2.1; omega, k.2.2.2.1, fun i hi => by
      have := k.2.2.2.2 i (by omega)
      rwa [show dwAt (dwrD d t bs).dw i = dwAt d.dw i from wAt_left hi] at this⟩
    rw [this] at h
    cases h
structure WX (w v : World) (bo B : Nat) (xa : Option Addr) (xn xc : Nat) (ya : Option Addr) (yn yc : Nat) (V : List Value) (Uu : List (Int × Value)) (d : DK) : Prop where
  bel : Below w.heap.size w v
  k1 : Bk v (w.heap.size + 1) 25 [.slice none 0 0, .slice none 0 0]
  k2 : Bk v bo 25 [.slice xa xn xc, .slice ya yn yc]
  own : DO v B (.slice xa xn xc) V (.slice ya yn yc) Uu d
  lo : w.heap.size + 1 < B
  lb : w.heap.size + 1 < bo
  nb : ∀ y, dbl (.slice xa xn xc) V (.slice ya yn yc) Uu y → y ≠ bo
theorem WX.below {w v v' : World} {bo B : Nat} {xa : Option Addr} {xn xc : Nat} {ya : Option Addr} {yn yc : Nat} {V : List Value} {Uu : List (Int × Value)} {d : DK} (h : WX w v bo B xa xn xc ya yn yc V Uu d) (hb : Below v.heap.size v v') : WX w v' bo B xa xn xc ya yn yc V Uu d :=
  ⟨bt7 h.bel hb, h.k1.below hb, h.k2.below hb, h.own.below hb, h.lo, h.lb, h.nb⟩
theorem WX.pushW {w v u w5 : World} {bo B : Nat} {xa : Option Addr} {xn xc : Nat} {ya : Option Addr} {yn yc : Nat} {V : List Value} {Uu : List (Int × Value)} {d : DK} (h : WX w v bo B xa xn xc ya yn yc V Uu d) (hb : Below v.heap.size v u) (t : Int) (x : List Int) (p : Value) (hx : Ob u v.heap.size p x) (hxb : byt x) (hBv : B ≤ v.heap.size)
    {a5 : Option Addr} {n5 c5 : Nat} (ho : w5.ownsRow B 99 2 (.slice a5 n5 c5) (d.dw.length + 1) (wcs Uu ++ [.int .i64 t, p])) (hg : u.grownBy w5 (Value.slice ya yn yc).ownBlock) (ha : (Value.slice a5 n5 c5).ownBlock = (Value.slice ya yn yc).ownBlock ∨ (Value.slice a5 n5 c5).ownBlock = some u.heap.size) :
    WX w (w5.setCell ⟨bo, 1, none⟩ (.slice a5 n5 c5)) bo B xa xn xc a5 n5 c5 V (Uu ++ [(t, p)]) (dwrD d t x) := by
  have hu := h.below hb
  have hlo := h.lo
  have hlb := h.lb
  have hbv : bo < v.heap.size := h.k2.lt
  have hlt := hb.size
  have o : Only (fun y => (Value.slice ya yn yc).ownBlock = some y) u w5 := only_of_grown hg (fun k e => e)
  have hxo : ∀ y, (Value.slice ya yn yc).ownBlock = some y → B ≤ y ∧ y < v.heap.size := fun y e => World.ownsRow.lt h.own.hd.row y e
  have hnew : ∀ y, p.ownBlock = some y → v.heap.size ≤ y ∧ y < u.heap.size := fun y e => World.ownsRow.lt hx y e
  have hW := hu.own.hd.push t x p (ownD_base hx hBv) hxb (fun y e e2 => by have h1 := hnew y e; have h2 := (h.own.hd.lt e2).2; omega) ho hg ha
  have hS := hu.own.hs.to o (fun y e e2 => hu.own.ap y e (.inl e2))
  have k1 := hu.k1.to o (fun e => by have := (hxo _ e).1; omega)
  have k2 := hu.k2.to o (fun e => h.nb bo (.inr (.inl e)) rfl)
  have b5 : Below w.heap.size w w5 := hu.bel.trans (o.below hu.bel.size (fun y hy e => by have := (hxo y e).1; omega))
  have o2 : Only (fun y => y = bo) w5 (w5.setCell ⟨bo, 1, none⟩ (.slice a5 n5 c5)) := only_set (R := fun y => y = bo) rfl _
  have hwn : ∀ y, wbl (.slice a5 n5 c5) (Uu ++ [(t, p)]) y → y ≠ bo ∧ ∀ z, sbl (.slice xa xn xc) V z → z ≠ y := by
    intro y hy
    rcases hy with e | ⟨i, hi, e⟩
    · rcases ha with ha | ha
      · rw [ha] at e
        exact ⟨h.nb y (.inr (.inl e)), fun z hz e2 => h.own.ap z hz (.inl (by rw [e2]; exact e))⟩
      · rw [ha] at e; cases e
        exact ⟨by omega, fun z hz => by have := (h.own.hs.lt hz).2; omega⟩
    · rw [List.length_append] at hi
      by_cases hi2 : i < Uu.length
      · rw [xAt_left hi2] at e
        exact ⟨h.nb y (.inr (.inr ⟨i, hi2, e⟩)), fun z hz e2 => h.own.ap z hz (.inr ⟨i, hi2, by rw [e2]; exact e⟩)⟩
      · obtain rfl : i = Uu.length := by simp at hi; omega
        rw [xAt_end] at e
        have := (hnew y e).1
        exact ⟨by omega, fun z hz => by have := (h.own.hs.lt hz).2; omega⟩
  refine ⟨b5.setCell (p := ⟨bo, 1, none⟩) (by show w.heap.size ≤ bo; omega) _, k1.setOther (by omega) _ _, k2.set 1 _, ⟨?_, ?_, ?_⟩, hlo, hlb, ?_⟩
  · exact hS.to o2 (fun y e e2 => h.nb y (.inl e) e2)
  · exact hW.to o2 (fun y e e2 => (hwn y e).1 e2)
  · exact fun y hy hz => (hwn y hz).2 y hy rfl
  · intro y hy
    rcases hy with hy | hy
    · exact h.nb y (.inl hy)
    · exact (hwn y hy).1
set_option maxHeartbeats 16000000 in
set_option maxRecDepth 20000 in
theorem specDiskWrite_any (S : Nat → Prop) (sa : Option Addr) (sn sc : Nat) (da : Option Addr) (dn dc : Nat) (d : DK) (t : Int) (ap : Option Addr) (np cp : Nat) (bs : List Int) (w : World) (h : Dk w S sa sn sc da dn dc d) (hsm : smallD d) (h1 : sn ≤ 1048576) (h2 : dn ≤ 1048576) (hp : Rd w ap np cp bs) (hnp : np ≤ 1048576) :
    Calls Tryz.prog 33 #[.agg #[.slice sa sn sc, .slice da dn dc], .int .i64 t, .slice ap np cp] w fun e w' => DkPo (dwrV d t bs) w e w' := by
  have HH := hid h
  have HSM := hid hsm
  have HP := hid hp
  have HND := hid h.hd.len.1
  have HB0 : Hid (Below w.heap.size w ((w.alloc (.cells #[.slice sa sn sc, .slice da dn dc] 25)).alloc (.cells #[.slice none 0 0, .slice none 0 0] 25))) := below_new (below_new (Below.refl _ _))
  have K0 := hid ((Bk.new w 25 [.slice sa sn sc, .slice da dn dc]).alloc (.cells #[.slice none 0 0, .slice none 0 0] 25))
  have K1 : Hid (Bk ((w.alloc (.cells #[.slice sa sn sc, .slice da dn dc] 25)).alloc (.cells #[.slice none 0 0, .slice none 0 0] 25)) (w.heap.size + 1) 25 [.slice none 0 0, .slice none 0 0]) := by
    have := Bk.new (w.alloc (.cells #[.slice sa sn sc, .slice da dn dc] 25)) 25 [.slice none 0 0, .slice none 0 0]
    show Bk _ _ _ _
    simpa using this
  have HOK := hid (specDiskOk_any S sa sn sc da dn dc d _ (h.below HB0.out))
  have HDV : Hid (dwrV d t bs = if dkOk (dwrD d t bs) = true then some (dwrD d t bs) else none) := rfl
  clear h hsm hp
  go_enter Tryz.func33, Tryz.ntmps33
  go_wp2_with fail
  refine HOK.out.mono ?_
  generalize (w.alloc (.cells #[.slice sa sn sc, .slice da dn dc] 25)).alloc (.cells #[.slice none 0 0, .slice none 0 0] 25) = W0 at *
  rintro e w1 ⟨rfl, hb⟩
  have J0 := hid (K0.out.below hb)
  have J1 := hid (K1.out.below hb)
  have B1 := hid (bt7 HB0.out hb)
  clear hb HB0 K0 K1 HOK
  cases hok : dkOk d with
  | false =>
    have HF : Hid (dwrV d t bs = none) := by show _ = _; rw [HDV.out, dwr_no hok]; rfl
    have r0 := J1.out.cell (j := 0) rfl
    have r1 := J1.out.cell (j := 1) rfl
    have f0 := J1.out.free 0
    have f1 := J1.out.free 1
    go_wp2
    try simp only [Exit.inBlock, Exit.then]
    refine bodyPost_ret (v := .tuple #[.agg #[.slice none 0 0, .slice none 0 0], .bool false]) (results_dsk2 rfl _ _ _ rfl rfl (by go_simp) (by go_simp)) rfl ?_
    rw [HF.out]
    exact ⟨_, _, _, _, _, _, _, _, rfl, do_nil _ _, (B1.out.setCell (p := ⟨w.heap.size + 1, 0, none⟩) (Nat.le_succ _) _).setCell (p := ⟨w.heap.size + 1, 1, none⟩) (Nat.le_succ _) _⟩
  | true =>
    have HOK := hid hok
    clear hok
    have d0 := J0.out.cell (j := 0) rfl
    have d1 := J0.out.cell (j := 1) rfl
    go_wp2_with fail
    refine (l05Copy_any S sa sn sc da dn dc d _ (HH.out.below B1.out) HSM.out h1 h2).mono ?_
    rintro e w2 ⟨xa, xn, xc, ya, yn, yc, V, Uu, rfl, hO, hb⟩
    have hbn := below_new (o := .cells #[.slice xa xn xc, .slice ya yn yc] 25) (w := w2) (Below.refl _ _)
    have XU : Hid (WX w (w2.alloc (.cells #[.slice xa xn xc, .slice ya yn yc] 25)) w2.heap.size w1.heap.size xa xn xc ya yn yc V Uu d) :=
      ⟨bt7 (bt7 B1.out hb) hbn, (J1.out.below hb).below hbn, Bk.new w2 _ [_, _], hO.below hbn, J1.out.lt, Nat.lt_of_lt_of_le J1.out.lt hb.size, fun y hy => by have := (hO.lt hy).2; omega⟩
    have SB : Hid (w1.heap.size ≤ w2.heap.size) := hb.size
    have HBW : Hid (Below w.heap.size w w2) := bt7 B1.out hb
    have HK6 : Hid (d.dw.length ≤ 1048576) := by show _ ≤ _; rw [← HND.out]; exact h2
    clear hb hbn hO J0 J1 B1 d0 d1
    generalize w1.heap.size = B at *
    have HBX : Hid (∀ z, Below (w2.alloc (.cells #[.slice xa xn xc, .slice ya yn yc] 25)).heap.size (w2.alloc (.cells #[.slice xa xn xc, .slice ya yn yc] 25)) z → z.cell? ⟨w2.heap.size, 1, none⟩ = some (.slice ya yn yc) ∧ z.frozen? ⟨w2.heap.size, 1, none⟩ = false ∧ z.ownsRow B 99 2 (.slice ya yn yc) d.dw.length (wcs Uu)) := fun z hz => by
      have c := XU.out.below hz
      exact ⟨c.k2.cell (j := 1) rfl, c.k2.free 1, c.own.hd.row⟩
    have HNE : Hid ((Value.slice ya yn yc).ownBlock ≠ some w2.heap.size) := fun e => XU.out.nb _ (.inr (.inl e)) rfl
    have HFIN : Hid (∀ (w4 : World) (a4 : Option Addr) (n4 c4 : Nat) (a5 : Option Addr) (n5 c5 : Nat) (w5 : World), Ob w4 (w2.alloc (.cells #[.slice xa xn xc, .slice ya yn yc] 25)).heap.size (.slice a4 n4 c4) bs → Below (w2.alloc (.cells #[.slice xa xn xc, .slice ya yn yc] 25)).heap.size (w2.alloc (.cells #[.slice xa xn xc, .slice ya yn yc] 25)) w4 → w5.ownsRow B 99 2 (.slice a5 n5 c5) (d.dw.length + 1) (wcs Uu ++ [.int .i64 t, .slice a4 n4 c4]) → (w4.alloc (.cells #[.int .i64 t, .slice a4 n4 c4] 99)).grownBy w5 (Value.slice ya yn yc).ownBlock → ((Value.slice a5 n5 c5).ownBlock = (Value.slice ya yn yc).ownBlock ∨ (Value.slice a5 n5 c5).ownBlock = some (w4.alloc (.cells #[.int .i64 t, .slice a4 n4 c4] 99)).heap.size) →
        WX w (w5.setCell ⟨w2.heap.size, 1, none⟩ (.slice a5 n5 c5)) w2.heap.size B xa xn xc a5 n5 c5 V (Uu ++ [(t, .slice a4 n4 c4)]) (dwrD d t bs)) := by
      intro w4 a4 n4 c4 a5 n5 c5 w5 hO4 hb4 hO5 hg5 ha5
      have hbn := below_new (o := .cells #[.int .i64 t, .slice a4 n4 c4] 99) (w := w4) (Below.refl _ _)
      exact XU.out.pushW (bt7 hb4 hbn) t _ _ (own_kept hO4 (only_of_below hbn (fun _ => False)) (fun _ _ h => h)) HP.out.2.2.2.2.1 (by have := SB.out; simp; omega) hO5 hg5 ha5
    have HS4 : Hid (∀ z, Below (w2.alloc (.cells #[.slice xa xn xc, .slice ya yn yc] 25)).heap.size (w2.alloc (.cells #[.slice xa xn xc, .slice ya yn yc] 25)) z → w2.heap.size < z.heap.size) := fun z hz => by have h1 := hz.size; simp at h1; omega
    have hbe : Below (w2.alloc (.cells #[.slice xa xn xc, .slice ya yn yc] 25)).heap.size (w2.alloc (.cells #[.slice xa xn xc, .slice ya yn yc] 25)) ((w2.alloc (.cells #[.slice xa xn xc, .slice ya yn yc] 25)).alloc (.cells #[] 5)).drew := bt7 (below_new (Below.refl _ _)) (below_drew _)
    have HUS : Hid ((w2.alloc (.cells #[.slice xa xn xc, .slice ya yn yc] 25)).heap.size = w2.heap.size + 1) := by show _ = _; simp
    have HOB : Hid (Ob ((w2.alloc (.cells #[.slice xa xn xc, .slice ya yn yc] 25)).alloc (.cells #[] 5)).drew (w2.heap.size + 1) (.slice (some ⟨w2.heap.size + 1, 0, none⟩) 0 0) []) := by
      have := ob_new (w2.alloc (.cells #[.slice xa xn xc, .slice ya yn yc] 25)) (w2.alloc (.cells #[.slice xa xn xc, .slice ya yn yc] 25)).heap.size (Nat.le_refl _)
      rw [HUS.out] at this
      exact own_kept this (only_of_below (below_drew _) (fun _ => False)) (fun _ _ h => h)
    have HRD2 : Hid (Rd ((w2.alloc (.cells #[.slice xa xn xc, .slice ya yn yc] 25)).alloc (.cells #[] 5)).drew ap np cp bs) := HP.out.kept (bt7 (bt7 HBW.out (below_new (Below.refl _ _))) hbe)
    have hzb : ([] : List Int).length + bs.length ≤ 70368744177664 := by rw [← HP.out.1]; simp; omega
    have HZ2 : Hid (w2.heap.size + 1 ≤ ((w2.alloc (.cells #[.slice xa xn xc, .slice ya yn yc] 25)).alloc (.cells #[] 5)).drew.heap.size) := by have := hbe.size; rw [HUS.out] at this; exact this
    have HB4 : Hid (∀ w4 : World, ((w2.alloc (.cells #[.slice xa xn xc, .slice ya yn yc] 25)).alloc (.cells #[] 5)).drew.grownBy w4 (Value.slice (some ⟨w2.heap.size + 1, 0, none⟩) 0 0).ownBlock → Below (w2.alloc (.cells #[.slice xa xn xc, .slice ya yn yc] 25)).heap.size (w2.alloc (.cells #[.slice xa xn xc, .slice ya yn yc] 25)) w4) := fun w4 hg => hbe.trans ((only_of_grown hg (R := fun y => (Value.slice (some ⟨w2.heap.size + 1, 0, none⟩) 0 0).ownBlock = some y) (fun k e => e)).below hbe.size (fun y hy e => by have e' : w2.heap.size + 1 = y := (by simpa [Value.ownBlock] using e); rw [HUS.out] at hy; omega))
    have HCV : Hid (∀ (w4 : World) (v4 : Value), Ob w4 (w2.heap.size + 1) v4 ([] ++ bs) → Ob w4 (w2.alloc (.cells #[.slice xa xn xc, .slice ya yn yc] 25)).heap.size v4 bs) := fun w4 v4 hO => by rw [HUS.out]; simpa using hO
    have HSZ : Hid (∀ z, Below (w2.alloc (.cells #[.slice xa xn xc, .slice ya yn yc] 25)).heap.size (w2.alloc (.cells #[.slice xa xn xc, .slice ya yn yc] 25)) z → B ≤ z.heap.size) := fun z hz => by have h1 := hz.size; have h2 := SB.out; simp at h1; omega
    have s1b : w2.heap.size < w2.heap.size + 1 := by omega
    clear hbe
    go_wp2_with fail
    go_cut [] (fun v => ∃ a5 n5 c5 V U5, Hid (WX w v w2.heap.size B xa xn xc a5 n5 c5 V U5 (dwrD d t bs)))
    case first =>
      go_region_law (first
        | (refine step_append_rd rfl _ _ rfl (w2.heap.size + 1) _ [] rfl HOB.out ap np cp bs rfl HRD2.out hzb HZ2.out ?_; intro a4 n4 c4 w4 hO4 hg4; have hb4 := HB4.out w4 hg4; have q1 := (HBX.out w4 hb4).1; have s4 := HS4.out w4 hb4)
        | (refine step_append_g rfl _ _ _ rfl B 99 (.agg #[.int .i64 0, .slice none 0 0]) 2 32 Tryz.underlying23 infoWriteI rfl (by decide) (by decide) (.slice ya yn yc) d.dw.length (wcs Uu) rfl (HBX.out _ (bt7 hb4 (below_new (Below.refl _ _)))).2.2 w4.heap.size [.int .i64 t, .slice a4 n4 c4] rfl (rw_two (Bk.new w4 _ [_, _])) rfl (by intro u hu; simp at hu; rcases hu with rfl | rfl <;> rfl) HK6.out (HSZ.out _ (bt7 hb4 (below_new (Below.refl _ _)))) w2.heap.size 1 _ (HBX.out _ (bt7 hb4 (below_new (Below.refl _ _)))).1 (HBX.out _ (bt7 hb4 (below_new (Below.refl _ _)))).2.1 HNE.out ?_; intro a5 n5 c5 w5 hO5 hg5 ha5 hc5 hf5))
      all_goals (go_wp2_with fail; go_meet)
      all_goals exact ⟨a5, n5, c5, _, _, HFIN.out w4 a4 n4 c4 a5 n5 c5 w5 (HCV.out _ _ hO4) hb4 hO5 hg5 ha5⟩
    case rest =>
      clear HSZ HCV HB4 HZ2 HRD2 HOB HUS HS4 HFIN HNE HBX XU HBW
      obtain ⟨a5, n5, c5, V5, U5, X5⟩ := hcut
      generalize w2.heap.size = bo at *
      have c0 := X5.out.k2.cell (j := 0) rfl
      have c1 := X5.out.k2.cell (j := 1) rfl
      go_wp2_with fail
      refine (specDiskOk_any (fun _ => True) xa xn xc a5 n5 c5 (dwrD d t bs) _ (X5.out.own.dk (fun _ _ => trivial))).mono ?_
      rintro e w6 ⟨rfl, hb⟩
      have X6 := hid (X5.out.below hb)
      clear hb X5 c0 c1
      have r0 := X6.out.k1.cell (j := 0) rfl
      have r1 := X6.out.k1.cell (j := 1) rfl
      have f0 := X6.out.k1.free 0
      have f1 := X6.out.k1.free 1
      have c0 := X6.out.k2.cell (j := 0) rfl
      have c1 := X6.out.k2.cell (j := 1) rfl
      cases hok : dkOk (dwrD d t bs) with
      | false =>
        have HF : Hid (dwrV d t bs = none) := by show _ = _; rw [HDV.out, hok]; rfl
        go_wp2
        try simp only [Exit.inBlock, Exit.then]
        refine bodyPost_ret (v := .tuple #[.agg #[.slice none 0 0, .slice none 0 0], .bool false]) (results_dsk2 rfl _ _ _ rfl rfl (by go_simp) (by go_simp)) rfl ?_
        rw [HF.out]
        exact ⟨_, _, _, _, _, _, _, _, rfl, do_nil _ _, (X6.out.bel.setCell (p := ⟨w.heap.size + 1, 0, none⟩) (Nat.le_succ _) _).setCell (p := ⟨w.heap.size + 1, 1, none⟩) (Nat.le_succ _) _⟩
      | true =>
        have HF : Hid (dwrV d t bs = some (dwrD d t bs)) := by show _ = _; rw [HDV.out, hok]; rfl
        go_wp2
        try simp only [Exit.inBlock, Exit.then]
        refine bodyPost_ret (v := .tuple #[.agg #[.slice xa xn xc, .slice a5 n5 c5], .bool true]) (results_dsk2 rfl _ _ _ rfl rfl (by go_simp) (by go_simp)) rfl ?_
        rw [HF.out]
        have O1 : Only (fun y => y = w.heap.size + 1) w6 ((w6.setCell ⟨w.heap.size + 1, 0, none⟩ (.slice xa xn xc)).setCell ⟨w.heap.size + 1, 1, none⟩ (.slice a5 n5 c5)) := (only_set (R := fun y => y = w.heap.size + 1) rfl _).trans (only_set (R := fun y => y = w.heap.size + 1) rfl _)
        exact ⟨_, _, _, _, _, _, _, _, rfl, (X6.out.own.to O1 (fun y e e2 => by have h1 := (X6.out.own.lt e).1; have h2 := X6.out.lo; omega)).base (by have := X6.out.lo; omega), (X6.out.bel.setCell (p := ⟨w.heap.size + 1, 0, none⟩) (Nat.le_succ _) _).setCell (p := ⟨w.heap.size + 1, 1, none⟩) (Nat.le_succ _) _⟩
open Go.RowKit
set_option linter.unusedVariables false
def teaV (a b : List Int) (n : Int) : List Int := (tearV a b n).getD []
def crS (ss : List (List Int)) (ds : List DW) (keep : List Int) : Nat → List (List Int)
  | 0 => ss
  | k + 1 => if 0 < iAt keep k then (crS ss ds keep k).set (dwAt ds k).1.toNat (teaV (shAt (crS ss ds keep k) (dwAt ds k).1.toNat) (dwAt ds k).2 (iAt keep k)) else crS ss ds keep k
theorem crS_len (ss : List (List Int)) (ds : List DW) (keep : List Int) (k : Nat) : (crS ss ds keep k).length = ss.length := by
  induction k with
  | zero => rfl
  | succ k ih =>
    rw [crS]
    split
    · rw [List.length_set]; exact ih
    · exact ih
def dcV (d : DK) (keep : List Int) : DK := if dkOk d = true then ⟨crS d.sh d.dw keep d.dw.length, []⟩ else emD
theorem trB_byt {a b : List Int} (ha : byt a) (hb : byt b) (n : Int) (hl : b.length = a.length) : byt (trB a b n) := by
  intro i
  unfold trB
  by_cases hi : i < (b.take n.toNat).length
  · rw [List.getElem?_append_left hi, List.getElem?_take_of_lt (by simp at hi; omega)]
    exact hb i
  · rw [List.getElem?_append_right (by omega), List.getElem?_drop]
    exact ha _
theorem byt_sht {l : List Int} (h : byt l) : byt (sheet l) := by
  unfold sheet
  split
  · intro i
    rw [List.getElem?_replicate]
    split <;> exact ⟨by decide, by decide⟩
  · exact h
theorem tea_facts {a b : List Int} (ha : byt a) (hb : byt b) (n : Int) : byt (teaV a b n) ∧ (teaV a b n).length ≤ 512 ∧ (shtOk a = true → shtOk b = true → teaV a b n = trB (sheet a) (sheet b) n ∧ (teaV a b n).length = 512) := by
  unfold teaV tearV
  split
  · rename_i hh
    rw [Option.getD_some]
    have e1 := sheet_len hh.1
    have e2 := sheet_len hh.2
    exact ⟨trB_byt (byt_sht ha) (byt_sht hb) n (by omega), by rw [tr_len e1 e2]; omega, fun _ _ => ⟨rfl, tr_len e1 e2 n⟩⟩
  · rename_i hh
    exact ⟨fun i => by simp, by simp, fun h1 h2 => absurd ⟨h1, h2⟩ hh⟩
theorem crS_facts {d : DK} (hok : dkOk d = true) (hb : (∀ i, byt (shAt d.sh i)) ∧ ∀ i, byt (dwAt d.dw i).2) (keep : List Int) : ∀ k, k ≤ d.dw.length → ∀ i, byt (shAt (crS d.sh d.dw keep k) i) ∧ (i < d.sh.length → shtOk (shAt (crS d.sh d.dw keep k) i) = true) := by
  have hk := (dkOk_iff d).1 hok
  intro k
  induction k with
  | zero => intro _ i; exact ⟨hb.1 i, fun hi => hk.2.2.2.1 i hi⟩
  | succ k ih =>
    intro hkl i
    have hw := (wrtOk_iff _ _).1 (hk.2.2.2.2 k (by omega))
    rw [crS]
    split
    · by_cases e : i = (dwAt d.dw k).1.toNat
      · subst e
        rw [shAt_set (by rw [crS_len]; omega)]
        have hs := ih (by omega) (dwAt d.dw k).1.toNat
        have ht := tea_facts hs.1 (hb.2 k) (iAt keep k)
        refine ⟨ht.1, fun hi => (shtOk_iff _).2 (.inr (ht.2.2 (hs.2 (by omega)) ((shtOk_iff _).2 (.inr hw.2.2))).2)⟩
      · rw [shAt_other e]
        exact ih (by omega) i
    · exact ih (by omega) i
theorem Dk.bytes' {w : World} {S : Nat → Prop} {sa : Option Addr} {sn sc : Nat} {da : Option Addr} {dn dc : Nat} {d : DK} (h : Dk w S sa sn sc da dn dc d) : (∀ i, byt (shAt d.sh i)) ∧ ∀ i, byt (dwAt d.dw i).2 := by
  obtain ⟨V, h1, h2, h3⟩ := h.hs
  obtain ⟨U, k1, k2, k3⟩ := h.hd
  refine ⟨fun i => ?_, fun i => ?_⟩
  · by_cases hi : i < d.sh.length
    · exact (h3 i hi).2
    · rw [show shAt d.sh i = [] by simp [shAt, show d.sh.length ≤ i by omega]]; exact fun j => by simp
  · by_cases hi : i < d.dw.length
    · exact (k3 i hi).2.2
    · rw [show dwAt d.dw i = (0, []) by simp [dwAt, show d.dw.length ≤ i by omega]]; exact fun j => by simp
theorem specTear_at (a : Option Addr) (n c : Nat) (xs : List Int) (b : Option Addr) (m d : Nat) (ys : List Int) (t : Int) (w : World) (hx : Rd w a n c xs) (hy : Rd w b m d ys) (hn : n ≤ 1048576) (hm : m ≤ 1048576) :
    Calls Tryz.prog 143 #[.slice a n c, .slice b m d, .int .i64 t] w fun e w' => ∃ a' n' c', e = .returned (.slice a' n' c') ∧ Ob w' w.heap.size (.slice a' n' c') (teaV xs ys t) ∧ Below w.heap.size w w' := by
  refine (specTear_any a n c xs b m d ys t w hx hy hn hm).mono ?_
  rintro e w' ⟨hb, hor⟩
  rcases hor with ⟨ho, rfl⟩ | ⟨v, zs, ho, rfl, hO⟩
  · exact ⟨none, 0, 0, rfl, by rw [teaV, ho]; exact World.ownsRow_nil _ _ _ _, hb⟩
  · obtain ⟨a', c', rfl⟩ := hO.shape
    exact ⟨a', _, c', rfl, by rw [teaV, ho]; exact hO, hb⟩
structure KX (w v : World) (sa : Option Addr) (sn sc : Nat) (da : Option Addr) (dn dc : Nat) (bo B : Nat) (xa : Option Addr) (xn xc : Nat) (V : List Value) (ss : List (List Int)) : Prop where
  bel : Below w.heap.size w v
  k0 : Bk v w.heap.size 25 [.slice sa sn sc, .slice da dn dc]
  k1 : Bk v (w.heap.size + 1) 25 [.slice none 0 0, .slice none 0 0]
  k2 : Bk v bo 25 [.slice xa xn xc, .slice none 0 0]
  own : SOw v B (.slice xa xn xc) V ss
  lo : w.heap.size + 1 < B
  lb : w.heap.size + 1 < bo
  nb : ∀ y, sbl (.slice xa xn xc) V y → y ≠ bo
theorem KX.below {w v v' : World} {sa : Option Addr} {sn sc : Nat} {da : Option Addr} {dn dc : Nat} {bo B : Nat} {xa : Option Addr} {xn xc : Nat} {V : List Value} {ss : List (List Int)} (h : KX w v sa sn sc da dn dc bo B xa xn xc V ss) (hb : Below v.heap.size v v') : KX w v' sa sn sc da dn dc bo B xa xn xc V ss :=
  ⟨bt7 h.bel hb, h.k0.below hb, h.k1.below hb, h.k2.below hb, h.own.below hb, h.lo, h.lb, h.nb⟩
theorem KX.put {w v u : World} {sa : Option Addr} {sn sc : Nat} {da : Option Addr} {dn dc : Nat} {bo B g : Nat} {xn xc : Nat} {V : List Value} {ss : List (List Int)} {p : Value} {x : List Int} {k : Nat} (h : KX w v sa sn sc da dn dc bo B (some ⟨g, 0, none⟩) xn xc V ss) (hb : Below v.heap.size v u) (hp : Ob u v.heap.size p x) (hx : byt x) (hk : k < ss.length) :
    KX w (u.setCell ⟨g, k, none⟩ p) sa sn sc da dn dc bo B (some ⟨g, 0, none⟩) xn xc (V.set k p) (ss.set k x) := by
  have hu := h.below hb
  have hg : B ≤ g ∧ g < v.heap.size := World.ownsRow.lt h.own.row g rfl
  have hlo := h.lo
  have hgb : g ≠ bo := h.nb g (.inl rfl)
  have o3 : Only (fun y => y = g) u (u.setCell ⟨g, k, none⟩ p) := only_set (R := fun y => y = g) rfl _
  refine ⟨hu.bel.setCell (p := ⟨g, k, none⟩) (by show w.heap.size ≤ g; omega) _, hu.k0.setOther (by omega) _ _, hu.k1.setOther (by omega) _ _, hu.k2.setOther (Ne.symm hgb) _ _, ?_, h.lo, h.lb, ?_⟩
  · exact h.own.upd hk rfl hb hp hx (by have := h.own.lt (y := g) (.inl rfl); omega) o3 (ownD_set hu.own.row k p)
  · intro y hy
    rcases hy with e | ⟨i, hi, e⟩
    · exact h.nb y (.inl e)
    · rw [List.length_set] at hi
      by_cases e2 : i = k
      · subst e2
        rw [uAt_set hi] at e
        have h1 := (World.ownsRow.lt hp y e).1
        have h2 := h.k2.lt
        omega
      · rw [uAt_other e2] at e
        exact h.nb y (.inr ⟨i, hi, e⟩)
open Go.RowKit
set_option linter.unusedVariables false
set_option maxHeartbeats 16000000 in
set_option maxRecDepth 20000 in
theorem specDiskCrash_any (S S2 : Nat → Prop) (sa : Option Addr) (sn sc : Nat) (da : Option Addr) (dn dc : Nat) (d : DK) (ka : Option Addr) (kn kc : Nat) (keep : List Int) (w : World) (h : Dk w S sa sn sc da dn dc d) (hsm : smallD d) (h1 : sn ≤ 1048576) (h2 : dn ≤ 1048576) (hk : Ir w S2 (.slice ka kn kc) keep) :
    Calls Tryz.prog 79 #[.agg #[.slice sa sn sc, .slice da dn dc], .slice ka kn kc] w fun e w' => DkPost1 (dcV d keep) w e w' := by
  have HH := hid h
  have HSM := hid hsm
  have HKE := hid hk
  have HBY := hid h.bytes'
  obtain ⟨hkl, hkc, hkc'⟩ := Rw.len hk
  have HKL := hid hkl
  have hsc := h.hs.len.2
  have hdc := h.hd.len.2
  have HNS := hid h.hs.len.1
  have HND := hid h.hd.len.1
  have HB0 : Hid (Below w.heap.size w ((w.alloc (.cells #[.slice sa sn sc, .slice da dn dc] 25)).alloc (.cells #[.slice none 0 0, .slice none 0 0] 25))) := below_new (below_new (Below.refl _ _))
  have K0 := hid ((Bk.new w 25 [.slice sa sn sc, .slice da dn dc]).alloc (.cells #[.slice none 0 0, .slice none 0 0] 25))
  have K1 : Hid (Bk ((w.alloc (.cells #[.slice sa sn sc, .slice da dn dc] 25)).alloc (.cells #[.slice none 0 0, .slice none 0 0] 25)) (w.heap.size + 1) 25 [.slice none 0 0, .slice none 0 0]) := by
    have := Bk.new (w.alloc (.cells #[.slice sa sn sc, .slice da dn dc] 25)) 25 [.slice none 0 0, .slice none 0 0]
    show Bk _ _ _ _
    simpa using this
  have HOK := hid (specDiskOk_any S sa sn sc da dn dc d _ (h.below HB0.out))
  have HDV : Hid (dcV d keep = if dkOk d = true then ⟨crS d.sh d.dw keep d.dw.length, []⟩ else emD) := rfl
  clear h hsm hk hkl
  go_enter Tryz.func79, Tryz.ntmps79
  go_wp2_with fail
  refine HOK.out.mono ?_
  generalize (w.alloc (.cells #[.slice sa sn sc, .slice da dn dc] 25)).alloc (.cells #[.slice none 0 0, .slice none 0 0] 25) = W0 at *
  rintro e w1 ⟨rfl, hb⟩
  have J0 := hid (K0.out.below hb)
  have J1 := hid (K1.out.below hb)
  have B1 := hid (bt7 HB0.out hb)
  clear hb HB0 K0 K1 HOK
  cases hok : dkOk d with
  | false =>
    have HF : Hid (dcV d keep = emD) := by show _ = _; rw [HDV.out, hok]; rfl
    have r0 := J1.out.cell (j := 0) rfl
    have r1 := J1.out.cell (j := 1) rfl
    have f0 := J1.out.free 0
    have f1 := J1.out.free 1
    go_wp2
    try simp only [Exit.inBlock, Exit.then]
    refine bodyPost_ret (v := .agg #[.slice none 0 0, .slice none 0 0]) ?_ rfl ?_
    · exact results_dsk rfl _ _ _ rfl (by go_simp) (by go_simp)
    · rw [HF.out]
      exact ⟨_, _, _, _, _, _, _, _, rfl, do_nil _ _, (B1.out.setCell (p := ⟨w.heap.size + 1, 0, none⟩) (Nat.le_succ _) _).setCell (p := ⟨w.heap.size + 1, 1, none⟩) (Nat.le_succ _) _⟩
  | true =>
    have HF : Hid (dcV d keep = ⟨crS d.sh d.dw keep d.dw.length, []⟩) := by show _ = _; rw [HDV.out, hok]; rfl
    have HOK := hid hok
    clear hok HDV
    have d0 := J0.out.cell (j := 0) rfl
    have d1 := J0.out.cell (j := 1) rfl
    go_wp2_with fail
    refine (l05Copy_any S sa sn sc da dn dc d _ (HH.out.below B1.out) HSM.out h1 h2).mono ?_
    rintro e w2 ⟨xa, xn, xc, ya, yn, yc, V, Uu, rfl, hO, hb⟩
    have hsn : 2 ≤ sn ∧ sn ≤ 400 := by have := (dkOk_iff d).1 HOK.out; rw [HNS.out]; exact ⟨this.1, this.2.1⟩
    have hxn : xn = sn := by rw [HNS.out]; exact (own_at hO.hs.row).1
    have hxc := (own_at hO.hs.row).2.1
    have hxc' := (own_at hO.hs.row).2.2.1
    subst hxn
    obtain ⟨g, rfl, -⟩ := (own_at hO.hs.row).2.2.2 (by omega)
    have hbn := below_new (o := .cells #[.slice (some ⟨g, 0, none⟩) xn xc, .slice none 0 0] 25) (w := w2) (Below.refl _ _)
    have KK0 : Hid (KX w (w2.alloc (.cells #[.slice (some ⟨g, 0, none⟩) xn xc, .slice none 0 0] 25)) sa xn sc da dn dc w2.heap.size w1.heap.size (some ⟨g, 0, none⟩) xn xc V (crS d.sh d.dw keep 0)) :=
      ⟨bt7 (bt7 B1.out hb) hbn, (J0.out.below hb).below hbn, (J1.out.below hb).below hbn, Bk.new w2 _ [_, _], hO.hs.below hbn, J1.out.lt, Nat.lt_of_lt_of_le J1.out.lt hb.size, fun y hy => by have := (hO.hs.lt hy).2; omega⟩
    have d1b := KK0.out.k0.cell (j := 1) rfl
    clear hb hbn hO J0 J1 B1 d0 d1
    go_wp2_with fail
    clear d1b
    generalize w2.heap.size = bo at *
    generalize w1.heap.size = B at *
    go_loopw [19] (fun i wr => ∃ (k : Nat) (V : List Value), k ≤ dn ∧ i = .int .i64 k ∧ Hid (KX w wr sa xn sc da dn dc bo B (some ⟨g, 0, none⟩) xn xc V (crS d.sh d.dw keep k))) (fun i _ => dn - (intOf i).toNat)
    case atStart => exact ⟨0, V, Nat.zero_le _, rfl, KK0.out⟩
    case round =>
      clear KK0
      obtain ⟨k, V, hk, rfl, KK⟩ := hrel
      by_cases hlt : k < dn
      · have hlt' : (k : Int) < (dn : Int) := by omega
        obtain ⟨b, off, rfl, _, hbw, hcell⟩ := (HH.out.hd.below KK.out.bel).at (by omega)
        obtain ⟨ap, np, cp, mt, m0, hp⟩ := hcell k hlt
        have hkl : k < d.dw.length := by rw [← HND.out]; exact hlt
        have hwk := (wrtOk_iff _ _).1 (((dkOk_iff d).1 HOK.out).2.2.2.2 k hkl)
        obtain ⟨u, hu⟩ : ∃ u : Nat, (dwAt d.dw k).1 = (u : Int) := ⟨(dwAt d.dw k).1.toNat, by omega⟩
        have hus : u < xn := by rw [HNS.out]; omega
        rw [hu] at mt
        have hnp : np ≤ 1048576 := by have := hp.len.1; have := hwk.2.2; omega
        have HPR := hid hp
        have HCR : Hid (crS d.sh d.dw keep (k + 1) = if 0 < iAt keep k then (crS d.sh d.dw keep k).set u (teaV (shAt (crS d.sh d.dw keep k) u) (dwAt d.dw k).2 (iAt keep k)) else crS d.sh d.dw keep k) := by
          show _ = _
          rw [crS, hu]
          rfl
        have hb0 := below_new (o := .cells #[.int .i64 (u : Int), .slice ap np cp] 99) (w := wr) (Below.refl _ _)
        have KU := hid (KK.out.below hb0)
        have HFA := hid (crS_facts HOK.out HBY.out keep k (by omega) u)
        have HB2 := hid (HBY.out.2 k)
        have SS : Hid (bo < wr.heap.size) := KK.out.k2.lt
        have SG : Hid (g < wr.heap.size) := (World.ownsRow.lt KK.out.own.row g rfl).2
        clear hcell hbw hp hwk hu
        by_cases hkk : k < kn
        · have hkk' : (k : Int) < (kn : Int) := by omega
          obtain ⟨kb, koff, rfl, _, hkb, hkcell⟩ := Ir.at (HKE.out.below KK.out.bel) (by omega)
          have n0 := hkcell k hkk
          have n0' : (wr.alloc (.cells #[.int .i64 (u : Int), .slice ap np cp] 99)).cell? ⟨kb, koff + k, none⟩ = some (.int .i64 (iAt keep k)) := (World.cell?_of_block (w := wr) (a := ⟨kb, koff + k, none⟩) (hb0.block kb hkb)).trans n0
          clear hkcell
          generalize iAt keep k = q at *
          by_cases hq : 0 < q
          · have HCR2 : Hid (crS d.sh d.dw keep (k + 1) = (crS d.sh d.dw keep k).set u (teaV (shAt (crS d.sh d.dw keep k) u) (dwAt d.dw k).2 q)) := by show _ = _; rw [HCR.out, if_pos hq]
            have hul : u < (crS d.sh d.dw keep k).length := by rw [crS_len, ← HNS.out]; exact hus
            have hso := KK.out.own.own u hul
            obtain ⟨a3, c3, e3⟩ := hso.1.shape
            have hvl : u < V.length := by rw [KK.out.own.len]; exact hul
            have hl3 : (shAt (crS d.sh d.dw keep k) u).length ≤ 512 := by have := (shtOk_iff _).1 (HFA.out.2 (by rw [← HNS.out]; exact hus)); omega
            have HRS : Hid (Rd wr a3 (shAt (crS d.sh d.dw keep k) u).length c3 (shAt (crS d.sh d.dw keep k) u)) := by
              obtain ⟨a', c', e', hr, _⟩ := Ob.rd hso.1 hso.2 (by omega)
              rw [e3] at e'
              cases e'
              exact hr
            have HBX : Hid (∀ z, Below (wr.alloc (.cells #[.int .i64 (u : Int), .slice ap np cp] 99)).heap.size (wr.alloc (.cells #[.int .i64 (u : Int), .slice ap np cp] 99)) z → z.cell? ⟨bo, 0, none⟩ = some (.slice (some ⟨g, 0, none⟩) xn xc) ∧ z.cell? ⟨wr.heap.size, 0, none⟩ = some (.int .i64 (u : Int)) ∧ z.cell? ⟨g, u, none⟩ = some (.slice a3 (shAt (crS d.sh d.dw keep k) u).length c3) ∧ z.frozen? ⟨g, u, none⟩ = false) := fun z hz => by
              have c := KU.out.below hz
              obtain ⟨-, -, -, hr⟩ := own_at c.own.row
              obtain ⟨g', e', -, -, hf, hcell⟩ := hr (by omega)
              cases e'
              refine ⟨c.k2.cell (j := 0) rfl, ((Bk.new wr 99 [.int .i64 (u : Int), .slice ap np cp]).below hz).cell (j := 0) rfl, ?_, hf u⟩
              have := hcell u _ (uAt_some hvl)
              rwa [e3] at this
            have HTE : Hid (∀ z, Below (wr.alloc (.cells #[.int .i64 (u : Int), .slice ap np cp] 99)).heap.size (wr.alloc (.cells #[.int .i64 (u : Int), .slice ap np cp] 99)) z → Calls Tryz.prog 143 #[.slice a3 (shAt (crS d.sh d.dw keep k) u).length c3, .slice ap np cp, .int .i64 q] z fun e w' => ∃ a' n' c', e = .returned (.slice a' n' c') ∧ Ob w' z.heap.size (.slice a' n' c') (teaV (shAt (crS d.sh d.dw keep k) u) (dwAt d.dw k).2 q) ∧ Below z.heap.size z w') := fun z hz =>
              specTear_at _ _ _ _ _ _ _ _ q z (HRS.out.kept (bt7 hb0 hz)) ((HPR.out.rd (by omega)).kept (bt7 hb0 hz)) (by omega) (by omega)
            have HFIN : Hid (∀ (w4 : World) (a4 : Option Addr) (n4 c4 : Nat), Ob w4 (wr.alloc (.cells #[.int .i64 (u : Int), .slice ap np cp] 99)).heap.size (.slice a4 n4 c4) (teaV (shAt (crS d.sh d.dw keep k) u) (dwAt d.dw k).2 q) → Below (wr.alloc (.cells #[.int .i64 (u : Int), .slice ap np cp] 99)).heap.size (wr.alloc (.cells #[.int .i64 (u : Int), .slice ap np cp] 99)) w4 → KX w (w4.setCell ⟨g, u, none⟩ (.slice a4 n4 c4)) sa xn sc (some ⟨b, off, none⟩) dn dc bo B (some ⟨g, 0, none⟩) xn xc (V.set u (.slice a4 n4 c4)) (crS d.sh d.dw keep (k + 1))) := fun w4 a4 n4 c4 hO4 hb4 => by
              rw [HCR2.out]
              exact KU.out.put hb4 hO4 (tea_facts HFA.out.1 HB2.out q).1 hul
            have HS4 : Hid (∀ z, Below (wr.alloc (.cells #[.int .i64 (u : Int), .slice ap np cp] 99)).heap.size (wr.alloc (.cells #[.int .i64 (u : Int), .slice ap np cp] 99)) z → g < z.heap.size ∧ bo < z.heap.size ∧ wr.heap.size < z.heap.size) := fun z hz => by have h1 := hz.size; have h2 := SS.out; have h3 := SG.out; simp at h1; omega
            have bb0 := (HBX.out _ (Below.refl _ _)).1
            have gg0 := (HBX.out _ (Below.refl _ _)).2.2.1
            have bb1 := KK.out.k2.cell (j := 0) rfl
            have gg1 : wr.cell? ⟨g, u, none⟩ = some (.slice a3 (shAt (crS d.sh d.dw keep k) u).length c3) := by
              obtain ⟨-, -, -, hr⟩ := own_at KK.out.own.row
              obtain ⟨g', e', -, -, hf, hcell⟩ := hr (by omega)
              cases e'
              have := hcell u _ (uAt_some hvl)
              rwa [e3] at this
            have HS3 : Hid (∀ z, Below (wr.alloc (.cells #[.int .i64 (u : Int), .slice ap np cp] 99)).heap.size (wr.alloc (.cells #[.int .i64 (u : Int), .slice ap np cp] 99)) z → z.cell? ⟨bo, 0, none⟩ = some (.slice (some ⟨g, 0, none⟩) xn xc) ∧ z.cell? ⟨wr.heap.size, 0, none⟩ = some (.int .i64 (u : Int)) ∧ z.cell? ⟨wr.heap.size, 1, none⟩ = some (.slice ap np cp)) := fun z hz => ⟨(HBX.out z hz).1, (HBX.out z hz).2.1, ((Bk.new wr 99 [.int .i64 (u : Int), .slice ap np cp]).below hz).cell (j := 1) rfl⟩
            have HS0 := hid (HS3.out _ (below_drew (wr.alloc (.cells #[.int .i64 (u : Int), .slice ap np cp] 99))))
            have g1 : ¬ g = bo := KK.out.nb g (.inl rfl)
            have g2 : ¬ bo = g := fun e => g1 e.symm
            have g3 : ¬ g = wr.heap.size := by have := SG.out; omega
            have g4 : ¬ wr.heap.size = g := fun e => g3 e.symm
            have s1 := SS.out
            have s2 := SG.out
            have hus' : (u : Int) < (xn : Int) := by omega
            clear hso e3 HRS HCR HCR2 KK hb0 HFA HB2 HPR hul hvl hl3 n0'
            generalize (shAt (crS d.sh d.dw keep k) u).length = L3 at *
            go_wp2_with fail
            refine wp_region_noPanic ?_
            refine wp_region_held_drew (S := (fun v => v.cell? ⟨bo, 0, none⟩ = some (.slice (some ⟨g, 0, none⟩) xn xc) ∧ v.cell? ⟨wr.heap.size, 0, none⟩ = some (.int .i64 (u : Int)) ∧ v.cell? ⟨wr.heap.size, 1, none⟩ = some (.slice ap np cp))) (by kernel_rfl) HS0.out (fun hHeld => ?_)
            simp only [List.size_toArray, List.length_cons, List.length_nil, Array.replicate_succ, Array.replicate_zero, Nat.reduceAdd, List.push_toArray, List.nil_append, List.cons_append]
            refine wpAnyH_take (i := 0) (v := (.pointer (some ⟨bo, 0, none⟩))) rfl (by kernel_rfl) (by kernel_rfl) (by kernel_rfl) (fun _ _ _ h => h) (Or.inl ⟨by rfl, ?_⟩) (by assumption) ?_
            · intro w hSw
              (try dsimp only at hSw)
              go_simp
            try simp only [List.getElem_toArray]
            try simp only [List.getElem_cons_succ]
            try simp only [List.getElem_cons_zero]
            try simp only [Act.put]
            try simp only [List.setIfInBounds_toArray]
            try simp only [List.set_cons_succ]
            try simp only [List.set_cons_zero]
            refine wpAnyH_take (i := 1) (v := (.slice (some ⟨g, 0, none⟩) xn xc)) rfl (by kernel_rfl) (by kernel_rfl) (by kernel_rfl) (fun _ _ _ h => h) (Or.inl ⟨by rfl, ?_⟩) (by assumption) ?_
            · intro w hSw
              (try dsimp only at hSw)
              go_simp
            try simp only [List.getElem_toArray]
            try simp only [List.getElem_cons_succ]
            try simp only [List.getElem_cons_zero]
            try simp only [Act.put]
            try simp only [List.setIfInBounds_toArray]
            try simp only [List.set_cons_succ]
            try simp only [List.set_cons_zero]
            refine wpAnyH_take (i := 2) (v := (.pointer (some ⟨wr.heap.size, 0, none⟩))) rfl (by kernel_rfl) (by kernel_rfl) (by kernel_rfl) (fun _ _ _ h => h) (Or.inl ⟨by rfl, ?_⟩) (by assumption) ?_
            · intro w hSw
              (try dsimp only at hSw)
              go_simp
            try simp only [List.getElem_toArray]
            try simp only [List.getElem_cons_succ]
            try simp only [List.getElem_cons_zero]
            try simp only [Act.put]
            try simp only [List.setIfInBounds_toArray]
            try simp only [List.set_cons_succ]
            try simp only [List.set_cons_zero]
            refine wpAnyH_take (i := 3) (v := (.int .i64 (u : Int))) rfl (by kernel_rfl) (by kernel_rfl) (by kernel_rfl) (fun _ _ _ h => h) (Or.inl ⟨by rfl, ?_⟩) (by assumption) ?_
            · intro w hSw
              (try dsimp only at hSw)
              go_simp
            try simp only [List.getElem_toArray]
            try simp only [List.getElem_cons_succ]
            try simp only [List.getElem_cons_zero]
            try simp only [Act.put]
            try simp only [List.setIfInBounds_toArray]
            try simp only [List.set_cons_succ]
            try simp only [List.set_cons_zero]
            refine wpAnyH_take (i := 4) (v := (.pointer (some ⟨bo, 0, none⟩))) rfl (by kernel_rfl) (by kernel_rfl) (by kernel_rfl) (fun _ _ _ h => h) (Or.inl ⟨by rfl, ?_⟩) (by assumption) ?_
            · intro w hSw
              (try dsimp only at hSw)
              go_simp
            try simp only [List.getElem_toArray]
            try simp only [List.getElem_cons_succ]
            try simp only [List.getElem_cons_zero]
            try simp only [Act.put]
            try simp only [List.setIfInBounds_toArray]
            try simp only [List.set_cons_succ]
            try simp only [List.set_cons_zero]
            refine wpAnyH_take (i := 5) (v := (.slice (some ⟨g, 0, none⟩) xn xc)) rfl (by kernel_rfl) (by kernel_rfl) (by kernel_rfl) (fun _ _ _ h => h) (Or.inl ⟨by rfl, ?_⟩) (by assumption) ?_
            · intro w hSw
              (try dsimp only at hSw)
              go_simp
            try simp only [List.getElem_toArray]
            try simp only [List.getElem_cons_succ]
            try simp only [List.getElem_cons_zero]
            try simp only [Act.put]
            try simp only [List.setIfInBounds_toArray]
            try simp only [List.set_cons_succ]
            try simp only [List.set_cons_zero]
            refine wpAnyH_take (i := 6) (v := (.pointer (some ⟨wr.heap.size, 0, none⟩))) rfl (by kernel_rfl) (by kernel_rfl) (by kernel_rfl) (fun _ _ _ h => h) (Or.inl ⟨by rfl, ?_⟩) (by assumption) ?_
            · intro w hSw
              (try dsimp only at hSw)
              go_simp
            try simp only [List.getElem_toArray]
            try simp only [List.getElem_cons_succ]
            try simp only [List.getElem_cons_zero]
            try simp only [Act.put]
            try simp only [List.setIfInBounds_toArray]
            try simp only [List.set_cons_succ]
            try simp only [List.set_cons_zero]
            refine wpAnyH_take (i := 7) (v := (.int .i64 (u : Int))) rfl (by kernel_rfl) (by kernel_rfl) (by kernel_rfl) (fun _ _ _ h => h) (Or.inl ⟨by rfl, ?_⟩) (by assumption) ?_
            · intro w hSw
              (try dsimp only at hSw)
              go_simp
            try simp only [List.getElem_toArray]
            try simp only [List.getElem_cons_succ]
            try simp only [List.getElem_cons_zero]
            try simp only [Act.put]
            try simp only [List.setIfInBounds_toArray]
            try simp only [List.set_cons_succ]
            try simp only [List.set_cons_zero]
            refine wpAnyH_take (i := 8) (v := (.pointer (some ⟨g, u, none⟩))) rfl (by kernel_rfl) (by kernel_rfl) (by kernel_rfl) (fun _ _ _ h => h) (Or.inl ⟨by rfl, ?_⟩) (by assumption) ?_
            · intro w hSw
              (try dsimp only at hSw)
              go_simp
            try simp only [List.getElem_toArray]
            try simp only [List.getElem_cons_succ]
            try simp only [List.getElem_cons_zero]
            try simp only [Act.put]
            try simp only [List.setIfInBounds_toArray]
            try simp only [List.set_cons_succ]
            try simp only [List.set_cons_zero]
            refine wpAnyH_take (i := 9) (v := (.pointer (some ⟨g, u, none⟩))) rfl (by kernel_rfl) (by kernel_rfl) (by kernel_rfl) (fun _ _ _ h => h) (Or.inl ⟨by rfl, ?_⟩) (by assumption) ?_
            · intro w hSw
              (try dsimp only at hSw)
              go_simp
            try simp only [List.getElem_toArray]
            try simp only [List.getElem_cons_succ]
            try simp only [List.getElem_cons_zero]
            try simp only [Act.put]
            try simp only [List.setIfInBounds_toArray]
            try simp only [List.set_cons_succ]
            try simp only [List.set_cons_zero]
            refine wpAnyH_take (i := 11) (v := (.pointer (some ⟨wr.heap.size, 1, none⟩))) rfl (by kernel_rfl) (by kernel_rfl) (by kernel_rfl) (fun _ _ _ h => h) (Or.inl ⟨by rfl, ?_⟩) (by assumption) ?_
            · intro w hSw
              (try dsimp only at hSw)
              go_simp
            try simp only [List.getElem_toArray]
            try simp only [List.getElem_cons_succ]
            try simp only [List.getElem_cons_zero]
            try simp only [Act.put]
            try simp only [List.setIfInBounds_toArray]
            try simp only [List.set_cons_succ]
            try simp only [List.set_cons_zero]
            refine wpAnyH_take (i := 12) (v := (.slice ap np cp)) rfl (by kernel_rfl) (by kernel_rfl) (by kernel_rfl) (fun _ _ _ h => h) (Or.inl ⟨by rfl, ?_⟩) (by assumption) ?_
            · intro w hSw
              (try dsimp only at hSw)
              go_simp
            try simp only [List.getElem_toArray]
            try simp only [List.getElem_cons_succ]
            try simp only [List.getElem_cons_zero]
            try simp only [Act.put]
            try simp only [List.setIfInBounds_toArray]
            try simp only [List.set_cons_succ]
            try simp only [List.set_cons_zero]
            refine wpAnyH_take (i := 13) (v := (.int .i64 q)) rfl (by kernel_rfl) (by kernel_rfl) (by kernel_rfl) (fun _ _ _ h => h) (Or.inl ⟨by rfl, ?_⟩) (by assumption) ?_
            · intro w hSw
              (try dsimp only at hSw)
              go_simp
            try simp only [List.getElem_toArray]
            try simp only [List.getElem_cons_succ]
            try simp only [List.getElem_cons_zero]
            try simp only [Act.put]
            try simp only [List.setIfInBounds_toArray]
            try simp only [List.set_cons_succ]
            try simp only [List.set_cons_zero]
            refine wpAnyH_ready (rs := [10]) (by kernel_rfl) (by simp) ?_
            refine AllReadyH.cons rfl (fun K1 hK => ?_) AllReadyH.nil
            go_simp
            try go_wp2_with fail
            refine hK.out _ _ ?_ (fun hHeld => ?_)
            · assumption
            clear hK K1
            try simp only [List.getElem_toArray]
            try simp only [List.getElem_cons_succ]
            try simp only [List.getElem_cons_zero]
            try simp only [Act.put]
            try simp only [List.setIfInBounds_toArray]
            try simp only [List.set_cons_succ]
            try simp only [List.set_cons_zero]
            refine wpAnyH_ready (rs := [14]) (by kernel_rfl) (by simp) ?_
            refine AllReadyH.cons rfl (fun K1 hK => ?_) AllReadyH.nil
            go_simp
            refine (HTE.out _ (below_drew _)).mono ?_
            rintro e w4 ⟨a4, n4, c4, rfl, hO4, hb4⟩
            have q1 := (HBX.out w4 (bt7 (below_drew _) hb4)).1
            have q2 := (HBX.out w4 (bt7 (below_drew _) hb4)).2.1
            have q3 := (HBX.out w4 (bt7 (below_drew _) hb4)).2.2.1
            have q4 := (HBX.out w4 (bt7 (below_drew _) hb4)).2.2.2
            go_wp2_with fail
            refine hK.out _ _ ?_ (fun hHeld => ?_)
            · exact HS3.out _ (bt7 (below_drew _) hb4)
            clear hK K1
            try simp only [List.getElem_toArray]
            try simp only [List.getElem_cons_succ]
            try simp only [List.getElem_cons_zero]
            try simp only [Act.put]
            try simp only [List.setIfInBounds_toArray]
            try simp only [List.set_cons_succ]
            try simp only [List.set_cons_zero]
            refine wpAnyH_take (i := 15) (v := (.pointer (some ⟨g, u, none⟩))) rfl (by kernel_rfl) (by kernel_rfl) (by kernel_rfl) (fun _ _ _ h => h) (Or.inl ⟨by rfl, ?_⟩) (by assumption) ?_
            · intro w hSw
              (try dsimp only at hSw)
              go_simp
            try simp only [List.getElem_toArray]
            try simp only [List.getElem_cons_succ]
            try simp only [List.getElem_cons_zero]
            try simp only [Act.put]
            try simp only [List.setIfInBounds_toArray]
            try simp only [List.set_cons_succ]
            try simp only [List.set_cons_zero]
            refine wpAnyH_take (i := 16) (v := (.pointer (some ⟨g, u, none⟩))) rfl (by kernel_rfl) (by kernel_rfl) (by kernel_rfl) (fun _ _ _ h => h) (Or.inl ⟨by rfl, ?_⟩) (by assumption) ?_
            · intro w hSw
              (try dsimp only at hSw)
              go_simp
            try simp only [List.getElem_toArray]
            try simp only [List.getElem_cons_succ]
            try simp only [List.getElem_cons_zero]
            try simp only [Act.put]
            try simp only [List.setIfInBounds_toArray]
            try simp only [List.set_cons_succ]
            try simp only [List.set_cons_zero]
            refine wpAnyH_ready (rs := [17]) (by kernel_rfl) (by simp) ?_
            refine AllReadyH.cons rfl (fun K1 hK => ?_) AllReadyH.nil
            go_simp
            try go_wp2_with fail
            refine hK.out _ _ ?_ (fun hHeld => ?_)
            · refine ⟨?_, ?_, ?_⟩ <;> go_simp
            clear hK K1
            try simp only [List.getElem_toArray]
            try simp only [List.getElem_cons_succ]
            try simp only [List.getElem_cons_zero]
            try simp only [Act.put]
            try simp only [List.setIfInBounds_toArray]
            try simp only [List.set_cons_succ]
            try simp only [List.set_cons_zero]
            refine wpAnyH_done (by kernel_rfl) ?_ _
            refine NoPanic.normal ?_
            all_goals go_wp2
            all_goals exact ⟨⟨k + 1, V.set u (.slice a4 n4 c4), by omega, by go_num, HFIN.out w4 a4 n4 c4 hO4 (bt7 (below_drew _) hb4)⟩, by simp [intOf]; omega⟩
          · have HCR2 : Hid (KX w (wr.alloc (.cells #[.int .i64 (u : Int), .slice ap np cp] 99)) sa xn sc (some ⟨b, off, none⟩) dn dc bo B (some ⟨g, 0, none⟩) xn xc V (crS d.sh d.dw keep (k + 1))) := by rw [HCR.out, if_neg hq]; exact KU.out
            clear HCR KK KU hb0 HFA HB2 HPR
            go_wp2
            go_roundw
            case rel => exact ⟨k + 1, V, by omega, by go_num, HCR2.out⟩
            case measure => simp [intOf]; omega
        · have hkk' : ¬ (k : Int) < (kn : Int) := by omega
          have HCR2 : Hid (KX w (wr.alloc (.cells #[.int .i64 (u : Int), .slice ap np cp] 99)) sa xn sc (some ⟨b, off, none⟩) dn dc bo B (some ⟨g, 0, none⟩) xn xc V (crS d.sh d.dw keep (k + 1))) := by
            rw [HCR.out, if_neg (by rw [show iAt keep k = 0 by simp [iAt, show keep.length ≤ k by rw [← HKL.out]; omega]]; omega)]
            exact KU.out
          clear HCR KK KU hb0 HFA HB2 HPR
          go_wp2
          go_roundw
          case rel => exact ⟨k + 1, V, by omega, by go_num, HCR2.out⟩
          case measure => simp [intOf]; omega
      · have hkd : k = d.dw.length := by rw [← HND.out]; omega
        subst hkd
        have c0 := KK.out.k2.cell (j := 0) rfl
        have c1 := KK.out.k2.cell (j := 1) rfl
        have r0 := KK.out.k1.cell (j := 0) rfl
        have r1 := KK.out.k1.cell (j := 1) rfl
        have f0 := KK.out.k1.free 0
        have f1 := KK.out.k1.free 1
        have hnb : ¬ w.heap.size + 1 = bo := by have := KK.out.lb; omega
        have hnb2 : ¬ bo = w.heap.size + 1 := fun e => hnb e.symm
        go_wp2
        try simp only [Exit.inBlock, Exit.then]
        refine bodyPost_ret (v := .agg #[.slice (some ⟨g, 0, none⟩) xn xc, .slice none 0 0]) ?_ rfl ?_
        · exact results_dsk rfl _ _ _ rfl (by go_simp) (by go_simp)
        · rw [HF.out]
          have O1 : Only (fun y => y = w.heap.size + 1) wr ((wr.setCell ⟨w.heap.size + 1, 0, none⟩ (.slice (some ⟨g, 0, none⟩) xn xc)).setCell ⟨w.heap.size + 1, 1, none⟩ (.slice none 0 0)) := (only_set (R := fun y => y = w.heap.size + 1) rfl _).trans (only_set (R := fun y => y = w.heap.size + 1) rfl _)
          have hlo := KK.out.lo
          refine ⟨_, _, _, _, _, _, V, [], rfl, ⟨(KK.out.own.to O1 (fun y e e2 => by have := (KK.out.own.lt e).1; omega)).base (by omega), wo_nil _ _, fun y _ hy => ?_⟩, (KK.out.bel.setCell (p := ⟨w.heap.size + 1, 0, none⟩) (Nat.le_succ _) _).setCell (p := ⟨w.heap.size + 1, 1, none⟩) (Nat.le_succ _) _⟩
          rcases hy with e | ⟨i, hi, _⟩
          · cases e
          · simp at hi
open Go.RowKit
set_option linter.unusedVariables false
def syS (ss : List (List Int)) (ds : List DW) : Nat → List (List Int)
  | 0 => ss
  | k + 1 => (syS ss ds k).set (dwAt ds k).1.toNat (dwAt ds k).2
theorem syS_len (ss : List (List Int)) (ds : List DW) (k : Nat) : (syS ss ds k).length = ss.length := by
  induction k with
  | zero => rfl
  | succ k ih => rw [syS, List.length_set]; exact ih
def dsV (d : DK) : DK := if dkOk d = true then ⟨syS d.sh d.dw d.dw.length, []⟩ else emD
theorem tea_all {a b : List Int} (ha : shtOk a = true) (hb : b.length = 512) : teaV a b 512 = b := by
  have h1 : shOk a = true := ha
  have h2 : shOk b = true := (shtOk_iff b).2 (.inr hb)
  rw [teaV, tearV, if_pos ⟨h1, h2⟩, Option.getD_some, trB]
  have e1 := sheet_len h1
  have e2 : sheet b = b := by rw [sheet, if_neg (by omega)]
  rw [e2, List.take_of_length_le (by rw [hb]; decide), List.drop_eq_nil_of_le (by rw [e1]; decide), List.append_nil]
theorem crS_all {d : DK} (hok : dkOk d = true) (hb : (∀ i, byt (shAt d.sh i)) ∧ ∀ i, byt (dwAt d.dw i).2) : ∀ k, k ≤ d.dw.length → crS d.sh d.dw (List.replicate d.dw.length 512) k = syS d.sh d.dw k := by
  have hk := (dkOk_iff d).1 hok
  intro k
  induction k with
  | zero => intro _; rfl
  | succ k ih =>
    intro hkl
    have hw := (wrtOk_iff _ _).1 (hk.2.2.2.2 k (by omega))
    have hi : iAt (List.replicate d.dw.length 512) k = 512 := by simp [iAt, show k < d.dw.length by omega]
    have hf := (crS_facts hok hb (List.replicate d.dw.length 512) k (by omega) (dwAt d.dw k).1.toNat).2 (by omega)
    rw [crS, hi, if_pos (by decide), tea_all hf hw.2.2, ih (by omega), syS]
theorem dsV_eq {d : DK} (hb : (∀ i, byt (shAt d.sh i)) ∧ ∀ i, byt (dwAt d.dw i).2) : dcV d (List.replicate d.dw.length 512) = dsV d := by
  unfold dcV dsV
  split
  · rename_i hok
    rw [crS_all hok hb _ (Nat.le_refl _)]
  · rfl
theorem infoIntD : (Tryz.prog.info? 3).map (fun i => (i.zero, i.size, i.bytes)) = some (some (.int .i64 0), 1, 8) := by kernel_rfl
structure YX (w v : World) (sa : Option Addr) (sn sc : Nat) (da : Option Addr) (dn dc : Nat) (x : Value) (k : Nat) : Prop where
  bel : Below w.heap.size w v
  k0 : Bk v w.heap.size 25 [.slice sa sn sc, .slice da dn dc]
  k1 : Bk v (w.heap.size + 1) 25 [.slice none 0 0, .slice none 0 0]
  row : v.ownsRow (w.heap.size + 2) 3 1 x k (List.replicate k (.int .i64 512))
set_option maxHeartbeats 8000000 in
set_option maxRecDepth 20000 in
theorem specDiskSync_any (S : Nat → Prop) (sa : Option Addr) (sn sc : Nat) (da : Option Addr) (dn dc : Nat) (d : DK) (w : World) (h : Dk w S sa sn sc da dn dc d) (hsm : smallD d) (h1 : sn ≤ 1048576) (h2 : dn ≤ 1048576) :
    Calls Tryz.prog 35 #[.agg #[.slice sa sn sc, .slice da dn dc]] w fun e w' => DkPost1 (dsV d) w e w' := by
  have HH := hid h
  have HSM := hid hsm
  have HDE := hid (dsV_eq h.bytes')
  have HND := hid h.hd.len.1
  have hdc := h.hd.len.2
  obtain ⟨ti, hti, htz, hts, htb⟩ := info_of infoIntD
  have Y0 : Hid (YX w (((w.alloc (.cells #[.slice sa sn sc, .slice da dn dc] 25)).alloc (.cells #[.slice none 0 0, .slice none 0 0] 25)).alloc (.cells #[] 3)) sa sn sc da dn dc (.slice (some ⟨w.heap.size + 1 + 1, 0, none⟩) 0 0) 0) := by
    refine ⟨below_new (below_new (below_new (Below.refl _ _))), ((Bk.new w 25 [.slice sa sn sc, .slice da dn dc]).alloc _).alloc _, ?_, ?_⟩
    · have := (Bk.new (w.alloc (.cells #[.slice sa sn sc, .slice da dn dc] 25)) 25 [.slice none 0 0, .slice none 0 0]).alloc (.cells #[] 3)
      simpa using this
    · have := Bk.new ((w.alloc (.cells #[.slice sa sn sc, .slice da dn dc] 25)).alloc (.cells #[.slice none 0 0, .slice none 0 0] 25)) 3 []
      have := bk_own (B := w.heap.size + 2) (n := 0) (size := 1) this (by simp) (by omega) (by simp)
      simpa using this
  have d1 := Y0.out.k0.cell (j := 1) rfl
  clear h hsm
  go_enter Tryz.func35, Tryz.ntmps35
  go_wp2_with fail
  clear d1
  go_loopw [3, 8] (fun x i wr => ∃ (k : Nat) (xa : Option Addr) (xn xc : Nat), k ≤ dn ∧ x = .slice xa xn xc ∧ i = .int .i64 k ∧ Hid (YX w wr sa sn sc da dn dc (.slice xa xn xc) k)) (fun _ i _ => dn - (intOf i).toNat)
  case atStart => exact ⟨0, _, _, _, Nat.zero_le _, rfl, rfl, Y0.out⟩
  case round =>
    obtain ⟨k, xa, xn, xc, hk, rfl, rfl, YY⟩ := hrel
    clear Y0
    by_cases hlt : k < dn
    · have hlt' : (k : Int) < (dn : Int) := by omega
      have hb0 := below_new (o := .cells #[.int .i64 512] 3) (w := wr) (Below.refl _ _)
      have HO := hid (own_kept YY.out.row (only_of_below hb0 (fun _ => False)) (fun _ _ h => h))
      have HR := hid (rw_one (Bk.new wr 3 [.int .i64 512]))
      have HB := hid hb0
      have hkm : k + 1 ≤ maxLen := by unfold maxLen; omega
      have hkb : (k + 1) * 8 ≤ 140737488355328 := by omega
      have HZ : Hid (w.heap.size + 2 ≤ (wr.alloc (.cells #[.int .i64 512] 3)).heap.size) := by have h1 := hb0.size; have h2 := YY.out.k1.lt; show _ ≤ _; simp; omega
      clear hb0
      go_wp2_with (at_builtin; refine wpList_append_row_at rfl _ _ _ rfl (w.heap.size + 2) 3 ti (.int .i64 0) 1 8 Tryz.underlying29 hti htz hts htb rfl (by decide) (.slice xa xn xc) k _ rfl HO.out (fun _ => True) _ 1 [.int .i64 512] rfl HR.out rfl (by intro u hu; simp at hu; subst hu; rfl) hkm hkb HZ.out ?_)
      intro v5 w5 hO5 hg5 ha5
      obtain ⟨a5, c5, rfl⟩ := own_shape hO5
      have o : Only (fun y => (Value.slice xa xn xc).ownBlock = some y) wr w5 := (only_of_below HB.out _).trans (only_of_grown hg5 (fun k e => e))
      have hlo : ∀ y, (Value.slice xa xn xc).ownBlock = some y → w.heap.size + 2 ≤ y := fun y e => (World.ownsRow.lt YY.out.row y e).1
      have Y5 : Hid (YX w w5 sa sn sc da dn dc (.slice a5 (k + 1) c5) (k + 1)) := by
        refine ⟨YY.out.bel.trans (o.below YY.out.bel.size (fun y hy e => by have := hlo y e; omega)), YY.out.k0.to o (fun e => by have := hlo _ e; omega), YY.out.k1.to o (fun e => by have := hlo _ e; omega), ?_⟩
        have : List.replicate (k + 1) (Value.int .i64 512) = List.replicate k (.int .i64 512) ++ [.int .i64 512] := by rw [List.replicate_succ']
        rw [this]
        exact hO5
      clear hO5 hg5 ha5 o hlo HO HR HB YY
      go_wp2
      go_roundw
      case rel => exact ⟨k + 1, a5, k + 1, c5, by omega, rfl, by go_num, Y5.out⟩
      case measure => simp [intOf]; omega
    · have hkd : k = d.dw.length := by rw [← HND.out]; omega
      subst hkd
      have HIR : Hid (Ir wr (fun _ => True) (.slice xa xn xc) (List.replicate d.dw.length 512)) := by
        show Rw _ _ _ _ _
        rw [List.length_replicate, List.map_replicate]
        exact rw_own YY.out.row (fun _ _ _ _ => trivial)
      have d0 := YY.out.k0.cell (j := 0) rfl
      have d1 := YY.out.k0.cell (j := 1) rfl
      go_wp2_with fail
      refine (specDiskCrash_any S (fun _ => True) sa sn sc da dn dc d xa xn xc _ _ (HH.out.below YY.out.bel) HSM.out h1 h2 HIR.out).mono ?_
      rw [HDE.out]
      rintro e w2 ⟨za, zn, zc, ya, yn, yc, V, Uu, rfl, hO, hb⟩
      have J1 := hid (YY.out.k1.below hb)
      have HO := hid hO
      have B2 := hid (bt7 YY.out.bel hb)
      have SZ : Hid (w.heap.size + 2 ≤ wr.heap.size) := YY.out.k1.lt
      clear hO hb YY HIR d0 d1
      have r0 := J1.out.cell (j := 0) rfl
      have r1 := J1.out.cell (j := 1) rfl
      have f0 := J1.out.free 0
      have f1 := J1.out.free 1
      go_wp2
      try simp only [Exit.inBlock, Exit.then]
      refine bodyPost_ret (v := .agg #[.slice za zn zc, .slice ya yn yc]) ?_ rfl ?_
      · exact results_dsk rfl _ _ _ rfl (by go_simp) (by go_simp)
      · have O1 : Only (fun y => y = w.heap.size + 1) w2 ((w2.setCell ⟨w.heap.size + 1, 0, none⟩ (.slice za zn zc)).setCell ⟨w.heap.size + 1, 1, none⟩ (.slice ya yn yc)) := (only_set (R := fun y => y = w.heap.size + 1) rfl _).trans (only_set (R := fun y => y = w.heap.size + 1) rfl _)
        have hz := SZ.out
        exact ⟨_, _, _, _, _, _, _, _, rfl, (HO.out.to O1 (fun y e e2 => by have := (HO.out.lt e).1; omega)).base (by omega), (B2.out.setCell (p := ⟨w.heap.size + 1, 0, none⟩) (Nat.le_succ _) _).setCell (p := ⟨w.heap.size + 1, 1, none⟩) (Nat.le_succ _) _⟩
set_option maxHeartbeats 2000000 in
set_option maxRecDepth 100000 in
theorem cloneS_any (S : Nat → Prop) (b off n c : Nat) (V : List Value) (w : World) (h : Rw w S (.slice (some ⟨b, off, none⟩) n c) n V) (hl : V.length = n) (h1 : ∀ u ∈ V, u.oneCell' = true) (hn : n ≤ 1048576) :
    Calls Tryz.prog 84 #[.slice (some ⟨b, off, none⟩) n c] w fun e w' => ∃ a c', e = .returned (.slice a n c') ∧ w'.ownsRow w.heap.size 130 1 (.slice a n c') n V ∧ Below w.heap.size w w' := by
  obtain ⟨ti, hti, htz, hts, htb⟩ := info_of infoSheetI
  have hb0 := below_new (o := .cells #[] 130) (w := w) (Below.refl _ _)
  have HR := hid (h.below hb0)
  have HO : Hid ((w.alloc (.cells #[] 130)).ownsRow w.heap.size 130 1 (.slice (some ⟨w.heap.size, 0, none⟩) 0 0) 0 []) := bk_own (n := 0) (size := 1) (Bk.new w 130 []) (by simp) (by omega) (Nat.le_refl _)
  have HB := hid hb0
  have HZ : Hid (w.heap.size ≤ (w.alloc (.cells #[] 130)).heap.size) := hb0.size
  have hkm : 0 + n ≤ maxLen := by unfold maxLen; omega
  have hkb : (0 + n) * 24 ≤ 140737488355328 := by omega
  have HL : Hid (V.length = n * 1) := by show _ = _; omega
  have H1 := hid h1
  have he : ∀ w : World, (binOp .eql 22 (.slice (some ⟨b, off, none⟩) n c) (.slice none 0 0)).run Tryz.prog w = .ok (.bool false) w := fun _ => rfl
  clear h hl h1 hb0
  go_enter Tryz.func84, Tryz.ntmps84
  go_wp2_with (at_builtin; refine wpList_append_row_at rfl _ _ _ rfl w.heap.size 130 ti (.agg #[.slice none 0 0]) 1 24 Tryz.underlying22 hti htz hts htb rfl (by decide) _ 0 [] rfl HO.out S _ n V rfl HR.out HL.out H1.out hkm hkb HZ.out ?_)
  intro v5 w5 hO5 hg5 ha5
  have O5 : Hid (w5.ownsRow w.heap.size 130 1 v5 n V) := by show World.ownsRow _ _ _ _ _ _ _; simpa using hO5
  have B5 : Hid (Below w.heap.size w w5) := HB.out.trans ((only_of_grown hg5 (R := fun y => y = w.heap.size) (fun k e => by simpa [Value.ownBlock] using e.symm)).below HZ.out (fun y hy e => by omega))
  obtain ⟨a5, c5, rfl⟩ := own_shape O5.out
  clear hO5 hg5 ha5 HO HR HB
  go_wp2
  go_ret
  exact ⟨_, _, rfl, O5.out, B5.out⟩
open Go.RowKit
set_option linter.unusedVariables false
abbrev OW := Bool × DW
def oAt (l : List OW) (i : Nat) : OW := l[i]?.getD (false, 0, [])
def yAt (X : List (Bool × Int × Value)) (i : Nat) : Bool × Int × Value := X[i]?.getD (false, 0, .slice none 0 0)
def ocs : List (Bool × Int × Value) → List Value
  | [] => []
  | p :: ps => .bool p.1 :: .int .i64 p.2.1 :: p.2.2 :: ocs ps
theorem ocs_at (ps : List (Bool × Int × Value)) : ∀ i, i < ps.length → (ocs ps)[i * 3]? = some (.bool (yAt ps i).1) ∧ (ocs ps)[i * 3 + 1]? = some (.int .i64 (yAt ps i).2.1) ∧ (ocs ps)[i * 3 + 2]? = some (yAt ps i).2.2 := by
  induction ps with
  | nil => intro i h; exact absurd h (Nat.not_lt_zero _)
  | cons p ps ih =>
    intro i h
    cases i with
    | zero => exact ⟨rfl, rfl, rfl⟩
    | succ i =>
      have := ih i (by simpa using h)
      rw [show (i + 1) * 3 = i * 3 + 3 by omega, show i * 3 + 3 + 1 = i * 3 + 1 + 3 by omega, show i * 3 + 3 + 2 = i * 3 + 2 + 3 by omega]
      exact this
def Opr (w : World) (S : Nat → Prop) (v : Value) (l : List OW) : Prop := ∃ X : List (Bool × Int × Value), X.length = l.length ∧ Rw w S v l.length (ocs X) ∧ ∀ i, i < l.length → (yAt X i).1 = (oAt l i).1 ∧ (yAt X i).2.1 = (oAt l i).2.1 ∧ By w S (yAt X i).2.2 (oAt l i).2.2
theorem Opr.to {w w' : World} {S R : Nat → Prop} {v : Value} {l : List OW} (h : Opr w S v l) (ho : Only R w w') (hd : ∀ b, S b → b < w.heap.size → ¬ R b) : Opr w' S v l := by
  obtain ⟨V, h1, h2, h3⟩ := h
  exact ⟨V, h1, h2.to ho hd, fun i hi => ⟨(h3 i hi).1, (h3 i hi).2.1, (h3 i hi).2.2.to ho hd⟩⟩
theorem Opr.mono {w : World} {S R : Nat → Prop} {v : Value} {l : List OW} (h : Opr w S v l) (hd : ∀ b, S b → b < w.heap.size → R b) : Opr w R v l := by
  obtain ⟨V, h1, h2, h3⟩ := h
  exact ⟨V, h1, h2.mono hd, fun i hi => ⟨(h3 i hi).1, (h3 i hi).2.1, (h3 i hi).2.2.mono hd⟩⟩
theorem Opr.below {w w' : World} {S : Nat → Prop} {v : Value} {l : List OW} (h : Opr w S v l) (hb : Below w.heap.size w w') : Opr w' S v l := h.to (only_of_below hb (fun _ => False)) (fun _ _ _ h => h)
theorem Opr.len {w : World} {S : Nat → Prop} {a : Option Addr} {n c : Nat} {l : List OW} (h : Opr w S (.slice a n c) l) : n = l.length ∧ n ≤ c ∧ c ≤ 9223372036854775807 := by
  obtain ⟨V, h1, h2, h3⟩ := h
  exact Rw.len h2
theorem Opr.at {w : World} {S : Nat → Prop} {a : Option Addr} {n c : Nat} {l : List OW} (h : Opr w S (.slice a n c) l) (hp : 0 < n) : ∃ b off, a = some ⟨b, off, none⟩ ∧ S b ∧ b < w.heap.size ∧ ∀ i, i < n → ∃ ap np cp,
    w.cell? ⟨b, off + i * 3, none⟩ = some (.bool (oAt l i).1) ∧ w.cell? ⟨b, off + i * 3 + 1, none⟩ = some (.int .i64 (oAt l i).2.1) ∧ w.cell? ⟨b, off + i * 3 + 2, none⟩ = some (.slice ap np cp) ∧ By w S (.slice ap np cp) (oAt l i).2.2 := by
  obtain ⟨V, h1, h2, h3⟩ := h
  have hn := (Rw.len h2).1
  obtain ⟨b, off, e1, e2, e3, e4⟩ := h2.at hp
  refine ⟨b, off, e1, e2, e3, fun i hi => ?_⟩
  obtain ⟨k0, k1, k2⟩ := h3 i (by omega)
  obtain ⟨c0, c1, c2⟩ := ocs_at V i (by omega)
  have d0 := e4 _ _ c0
  have d1 := e4 _ _ c1
  have d2 := e4 _ _ c2
  obtain ⟨ap, cp, g0⟩ := k2.1.sliceOf
  rw [g0] at d2 k2
  rw [k0] at d0
  rw [k1] at d1
  exact ⟨ap, _, cp, d0, by rw [Nat.add_assoc]; exact d1, by rw [Nat.add_assoc]; exact d2, k2⟩
def op1 (d : DK) (o : OW) : Option DK := if o.1 = true then some (dsV d) else dwrV d o.2.1 o.2.2
def opS : List OW → DK → Option DK
  | [], d => some d
  | o :: l, d => match op1 d o with
    | none => none
    | some d' => opS l d'
def doV (d : DK) (l : List OW) : DK := if dkOk d = true then (opS l d).getD emD else emD
theorem opS_step (l : List OW) {k : Nat} (h : k < l.length) (d : DK) : opS (l.drop k) d = match op1 d (oAt l k) with | none => none | some d' => opS (l.drop (k + 1)) d' := by
  rw [List.drop_eq_getElem_cons h]
  have e : oAt l k = l[k] := by simp [oAt, h]
  rw [e]
  rfl
theorem opS_none (l : List OW) {k : Nat} (h : k < l.length) {d : DK} (e : op1 d (oAt l k) = none) : opS (l.drop k) d = none := by rw [opS_step l h, e]
theorem opS_some (l : List OW) {k : Nat} (h : k < l.length) {d d' : DK} (e : op1 d (oAt l k) = some d') : opS (l.drop k) d = opS (l.drop (k + 1)) d' := by rw [opS_step l h, e]
theorem syS_sht {ss : List (List Int)} {ds : List DW} {n : Nat} (h : ∀ i, i < ss.length → shtOk (shAt ss i) = true) (hd : ∀ i, i < ds.length → wrtOk n (dwAt ds i) = true) : ∀ k, k ≤ ds.length → ∀ i, i < ss.length → shtOk (shAt (syS ss ds k) i) = true := by
  intro k
  induction k with
  | zero => intro _ i hi; exact h i hi
  | succ k ih =>
    intro hk i hi
    rw [syS]
    by_cases e : i = (dwAt ds k).1.toNat
    · rw [e, shAt_set (by rw [syS_len, ← e]; exact hi)]
      have := (wrtOk_iff _ _).1 (hd k (by omega))
      rw [shtOk_iff]
      exact .inr this.2.2
    · rw [shAt_other e]
      exact ih (by omega) i hi
theorem dsV_ok {d : DK} (h : dkOk d = true) : dsV d = ⟨syS d.sh d.dw d.dw.length, []⟩ ∧ dkOk (dsV d) = true := by
  have hk := (dkOk_iff d).1 h
  have e : dsV d = ⟨syS d.sh d.dw d.dw.length, []⟩ := by rw [dsV, if_pos h]
  refine ⟨e, ?_⟩
  rw [e, dkOk_iff]
  refine ⟨by rw [syS_len]; exact hk.1, by rw [syS_len]; exact hk.2.1, Nat.zero_le _, fun i hi => ?_, fun i hi => by simp at hi⟩
  rw [syS_len] at hi
  exact syS_sht hk.2.2.2.1 hk.2.2.2.2 _ (Nat.le_refl _) i hi
theorem doV_no {d : DK} {l : List OW} (h : dkOk d = false) : doV d l = emD := by rw [doV, h]; rfl
theorem doV_yes {d : DK} {l : List OW} (h : dkOk d = true) : doV d l = (opS l d).getD emD := by rw [doV, if_pos h]
theorem dk_smallO {d : DK} (h : dkOk d = true) : smallD d ∧ d.sh.length ≤ 400 ∧ d.dw.length ≤ 500 ∧ 2 ≤ d.sh.length := by
  have hk := (dkOk_iff d).1 h
  refine ⟨⟨fun i hi => ?_, fun i hi => ?_⟩, hk.2.1, hk.2.2.1, hk.1⟩
  · have := (shtOk_iff _).1 (hk.2.2.2.1 i hi); omega
  · have := (wrtOk_iff _ _).1 (hk.2.2.2.2 i hi); omega
structure SP (w v : World) (b : Nat) (sa : Option Addr) (sn sc : Nat) (da : Option Addr) (dn dc : Nat) (d : DK) : Prop where
  bel : Below w.heap.size w v
  k4 : Bk v (w.heap.size + 1) 25 [.slice none 0 0, .slice none 0 0]
  kd : Bk v b 25 [.slice sa sn sc, .slice da dn dc]
  bl : w.heap.size + 1 < b
  own : ∃ V U, DO v (w.heap.size + 2) (.slice sa sn sc) V (.slice da dn dc) U d ∧ ∀ y, dbl (.slice sa sn sc) V (.slice da dn dc) U y → y ≠ b
  ok : dkOk d = true
theorem em_fin {w v : World} (h : Below w.heap.size w v) (x y : Value) : DkPost1 emD w (.returned (.agg #[.slice none 0 0, .slice none 0 0])) ((v.setCell ⟨w.heap.size + 1, 0, none⟩ x).setCell ⟨w.heap.size + 1, 1, none⟩ y) :=
  ⟨_, _, _, _, _, _, _, _, rfl, do_nil _ _, (h.setCell (p := ⟨w.heap.size + 1, 0, none⟩) (Nat.le_succ _) _).setCell (p := ⟨w.heap.size + 1, 1, none⟩) (Nat.le_succ _) _⟩
end Go.Proofs.YtmilnejacnaejaaGreatDoor
