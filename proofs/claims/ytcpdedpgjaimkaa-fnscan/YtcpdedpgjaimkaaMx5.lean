/-
  l03Any's trees: a drawn tree of which one thing may have been turned is still some list of nodes that is not too long.
-/
import Derived.Test.YtcpdedpgjaimkaaMx4
import Derived.Test.YtcpdedpgjaimkaaMx3
import Derived.Test.YtcpdedpgjaimkaaMx1
import Derived.Deep.DeepCutAuto
import Derived.Deep.RegionLaw
import Derived.Test.YtcpdedpgjaimkaaMx2
namespace Go.Proofs.Ytcpdedpgjaimkaa
open Go.RowKit
theorem NrK.na {w : World} {S : Nat → Prop} {v : Value} {ns : List NB} (h : NrK w S v ns) : ∃ V, NA w v V ns ∧ (∀ y, v.ownBlock = some y → S y) ∧ ∀ i, i < ns.length → ∀ y, bl (vAt V i) y → S y := by
  obtain ⟨V, h1, h2, h3, h4, h5⟩ := h
  exact ⟨V, ⟨h1, h2.1, fun i hi => ⟨(h3 i hi).2.1, (h3 i hi).2.2.1⟩, h4, h5⟩, h2.2, fun i hi => (h3 i hi).2.2.2⟩
/-- The cursor g, the result's box and the box tb of the tree. -/
structure Fr (w v : World) (g tb : Nat) (a : Option Addr) (n c : Nat) : Prop where
  gr : w.grownBy v (some g)
  cu : Cu v g
  bk : Bk v tb 25 [.slice a n c]
  rb : Bk v w.heap.size 25 [.slice none 0 0]
  ng : g < w.heap.size
  nb : w.heap.size < tb
theorem Fr.touch {w v v' : World} {g tb : Nat} {a : Option Addr} {n c : Nat} {row : Option Nat} (h : Fr w v g tb a n c) (hg : v.grownBy v' row) (hr : ∀ k, row = some k → w.heap.size < k ∧ k ≠ tb) : Fr w v' g tb a n c := by
  have hs := h.gr.size
  have hn := h.ng
  have hb := h.nb
  have hon : Only (fun y => row = some y) v v' := only_of_grown hg (fun k e => e)
  exact ⟨⟨hg.os.trans h.gr.os, hg.tape.trans h.gr.tape, hg.output.trans h.gr.output, Nat.le_trans hs hg.size, fun i hi hne => (hg.block i (by omega) (fun e => by have := hr i e.symm; omega)).trans (h.gr.block i hi hne)⟩, h.cu.kept hg (fun k e => by have := hr k e; omega), h.bk.to hon (fun e => by have := hr _ e; omega), h.rb.to hon (fun e => by have := hr _ e; omega), hn, hb⟩
theorem Fr.draw {w v v' : World} {g tb : Nat} {a : Option Addr} {n c : Nat} (h : Fr w v g tb a n c) (hg : v.grownBy v' (some g)) (hc : Cu v' g) : Fr w v' g tb a n c := by
  have hn := h.ng
  have hb := h.nb
  have hon := only_of_grown hg (R := fun y => y = g) (fun k e => by cases e; rfl)
  exact ⟨grownBy_trans h.gr hg, hc, h.bk.to hon (by omega), h.rb.to hon (by omega), hn, hb⟩
theorem Fr.below {w v v' : World} {g tb : Nat} {a : Option Addr} {n c : Nat} (h : Fr w v g tb a n c) (hb : Below v.heap.size v v') : Fr w v' g tb a n c := h.touch (grown_of_below hb none) (fun k e => by cases e)
theorem Fr.setBox {w v : World} {g tb : Nat} {a : Option Addr} {n c : Nat} (h : Fr w v g tb a n c) (a' : Option Addr) (n' c' : Nat) : Fr w (v.setCell ⟨tb, 0, none⟩ (.slice a' n' c')) g tb a' n' c' := by
  have hn := h.ng
  have hb := h.nb
  exact ⟨⟨h.gr.os, h.gr.tape, h.gr.output, by simp [World.setCell]; exact h.gr.size, fun i hi hne => (Below.heap_setCell _ _ _ _ (show i ≠ tb by omega)).trans (h.gr.block i hi hne)⟩, h.cu.set _ _ _ (by omega), h.bk.set 0 _, h.rb.setOther (by omega) _ _, hn, hb⟩
/-- What is answered: some nodes, not too many, in new blocks. -/
def AnyPost (w : World) (g : Nat) (e : Ending) (w' : World) : Prop := ∃ a n c ns, e = .returned (.agg #[.slice a n c]) ∧ w.grownBy w' (some g) ∧ Cu w' g ∧ Nr w' (fun y => w.heap.size ≤ y) (.slice a n c) ns ∧ smallN ns ∧ ns.length ≤ 1048576
theorem Fr.fin {w v : World} {g tb : Nat} {a : Option Addr} {n c : Nat} {ns : List NB} (h : Fr w v g tb a n c) (hN : Nr v (fun y => w.heap.size < y ∧ y ≠ tb) (.slice a n c) ns) (hs : smallN ns ∧ ns.length ≤ 1048576) : AnyPost w g (.returned (.agg #[.slice a n c])) (v.setCell ⟨w.heap.size, 0, none⟩ (.slice a n c)) := by
  have hn := h.ng
  refine ⟨a, n, c, ns, rfl, ⟨h.gr.os, h.gr.tape, h.gr.output, by simp [World.setCell]; exact h.gr.size, fun i hi hne => (Below.heap_setCell _ _ _ _ (show i ≠ w.heap.size by omega)).trans (h.gr.block i hi hne)⟩, h.cu.set _ _ _ (by omega), ?_, hs⟩
  exact (hN.to (only_set (R := fun y => y = w.heap.size) rfl _) (fun y hy _ e => by have := hy.1; omega)).mono (fun y hy _ => by have := hy.1; omega)
/-- A drawn tree with its rows. -/
structure Ta (w v : World) (g tb : Nat) (a : Option Addr) (n c : Nat) (V : List V3) (ns : List NB) : Prop where
  fr : Fr w v g tb a n c
  na : NA v (.slice a n c) V ns
  lo : (∀ y, (Value.slice a n c).ownBlock = some y → w.heap.size < y ∧ y ≠ tb) ∧ ∀ i, i < ns.length → ∀ y, bl (vAt V i) y → w.heap.size < y ∧ y ≠ tb
  sm : smallK ns ∧ ns.length ≤ 100000
theorem Ta.draw {w v v' : World} {g tb : Nat} {a : Option Addr} {n c : Nat} {V : List V3} {ns : List NB} (h : Ta w v g tb a n c V ns) (hg : v.grownBy v' (some g)) (hc : Cu v' g) : Ta w v' g tb a n c V ns := by
  have hn := h.fr.ng
  have hon := only_of_grown hg (R := fun y => y = g) (fun k e => by cases e; rfl)
  exact ⟨h.fr.draw hg hc, h.na.to hon (fun y hy e => by have := h.lo.1 y hy; omega) (fun i hi y hy e => by have := h.lo.2 i hi y hy; omega), h.lo, h.sm⟩
theorem Ta.below {w v v' : World} {g tb : Nat} {a : Option Addr} {n c : Nat} {V : List V3} {ns : List NB} (h : Ta w v g tb a n c V ns) (hb : Below v.heap.size v v') : Ta w v' g tb a n c V ns := ⟨h.fr.below hb, h.na.kept hb, h.lo, h.sm⟩
theorem NA.nrS {w : World} {S : Nat → Prop} {v : Value} {V : List V3} {ns : List NB} (h : NA w v V ns) (h1 : ∀ y, v.ownBlock = some y → S y) (h2 : ∀ i, i < ns.length → ∀ y, bl (vAt V i) y → S y) : Nr w S v ns :=
  ⟨V, h.len, rw_own h.row (fun k e _ _ => h1 k e), fun i hi => (h.own i hi).1.n1 (h2 i hi)⟩
theorem split_at {ns : List NB} {i : Nat} (h : i < ns.length) : ∃ ms z l, ns = ms ++ z :: l ∧ i = ms.length := ⟨ns.take i, ns[i], ns.drop (i + 1), by simp, by simp; omega⟩
theorem small_mid {ms l : List NB} {z z' : NB} (h : smallK (ms ++ z :: l) ∧ (ms ++ z :: l).length ≤ 100000) (hz : z'.ps.length ≤ z.ps.length + 1 ∧ z'.keys.length ≤ z.keys.length + 1 ∧ z'.kids.length ≤ z.kids.length + 1) : smallN (ms ++ z' :: l) ∧ (ms ++ z' :: l).length ≤ 1048576 := by
  have h0 := h.1 ms.length (by simp)
  rw [nAt_append_at] at h0
  refine ⟨fun i hi => ?_, by have := h.2; simp at this ⊢; omega⟩
  have hi' : i < (ms ++ z :: l).length := by simpa using hi
  by_cases e : i = ms.length
  · subst e; rw [nAt_append_at]; omega
  · rw [nAt_other ms z z' l e]; have := h.1 i hi'; omega
theorem set_vAt (V : List V3) (i : Nat) (h : i < V.length) : V.set i (vAt V i) = V := by
  apply List.ext_getElem?
  intro j
  rw [List.getElem?_set]
  split
  · rename_i e
    subst e
    simp [vAt, h]
  · rfl
/-- The rows of one node have turned. -/
theorem NA.poke {u w2 : World} {g0 n c : Nat} {V : List V3} {ms l : List NB} {z z' : NB} (h : NA u (.slice (some ⟨g0, 0, none⟩) n c) V (ms ++ z :: l)) (ho : Only (bl (vAt V ms.length)) u w2) (hown : OwN w2 (vAt V ms.length) z') : NA w2 (.slice (some ⟨g0, 0, none⟩) n c) V (ms ++ z' :: l) := by
  have hlt : ms.length < (ms ++ z :: l).length := by simp
  have e := set_vAt V ms.length (by rw [h.len]; exact hlt)
  have := h.upd (p' := vAt V ms.length) (z' := z') (w3 := w2) rfl ho hown (h.own _ hlt).2 (fun y hy => .inl hy) (Only.refl _ _) (by rw [e]; exact own_kept h.row ho (fun k hk hb => h.off _ hlt k hb hk))
  rwa [e] at this
theorem NA.pokeP {u : World} {g0 n c : Nat} {V : List V3} {ms l : List NB} {z : NB} (h : NA u (.slice (some ⟨g0, 0, none⟩) n c) V (ms ++ z :: l)) {pb np cp : Nat} (e : (vAt V ms.length).1 = .slice (some ⟨pb, 0, none⟩) np cp) {k0 v0 : ByteArray} {r : List PB} (hz : z.ps = (k0, v0) :: r) (s : ByteArray) :
    NA (u.setCell ⟨pb, 0, none⟩ (.string s)) (.slice (some ⟨g0, 0, none⟩) n c) V (ms ++ ⟨(s, v0) :: r, z.keys, z.kids⟩ :: l) := by
  have hlt : ms.length < (ms ++ z :: l).length := by simp
  obtain ⟨h1, h2⟩ := h.own _ hlt
  rw [nAt_append_at] at h1
  have hb : (vAt V ms.length).1.ownBlock = some pb := by rw [e]; rfl
  have ho : Only (fun y => y = pb) u (u.setCell ⟨pb, 0, none⟩ (.string s)) := only_set (R := fun y => y = pb) rfl _
  refine h.poke (ho.mono (fun y _ hy => .inl (by rw [hb, hy]))) ⟨?_, own_kept h1.2.1 ho (fun k hk hy => ((h2 pb).1 hb).1 (hy ▸ hk)), own_kept h1.2.2 ho (fun k hk hy => ((h2 pb).1 hb).2 (hy ▸ hk))⟩
  have := h1.1
  rw [e, hz] at this
  rw [e]
  exact row_set this 0 (.string s)
theorem NA.pokeK {u : World} {g0 n c : Nat} {V : List V3} {ms l : List NB} {z : NB} (h : NA u (.slice (some ⟨g0, 0, none⟩) n c) V (ms ++ z :: l)) {pb np cp : Nat} (e : (vAt V ms.length).2.1 = .slice (some ⟨pb, 0, none⟩) np cp) {k0 : ByteArray} {r : List ByteArray} (hz : z.keys = k0 :: r) (s : ByteArray) :
    NA (u.setCell ⟨pb, 0, none⟩ (.string s)) (.slice (some ⟨g0, 0, none⟩) n c) V (ms ++ ⟨z.ps, s :: r, z.kids⟩ :: l) := by
  have hlt : ms.length < (ms ++ z :: l).length := by simp
  obtain ⟨h1, h2⟩ := h.own _ hlt
  rw [nAt_append_at] at h1
  have hb : (vAt V ms.length).2.1.ownBlock = some pb := by rw [e]; rfl
  have ho : Only (fun y => y = pb) u (u.setCell ⟨pb, 0, none⟩ (.string s)) := only_set (R := fun y => y = pb) rfl _
  refine h.poke (ho.mono (fun y _ hy => .inr (.inl (by rw [hb, hy])))) ⟨own_kept h1.1 ho (fun k hk hy => ((h2 k).1 hk).1 (hy ▸ hb)), ?_, own_kept h1.2.2 ho (fun k hk hy => (h2 pb).2 hb (hy ▸ hk))⟩
  have := h1.2.1
  rw [e, hz] at this
  rw [e]
  exact row_set this 0 (.string s)
theorem NA.pokeI {u : World} {g0 n c : Nat} {V : List V3} {ms l : List NB} {z : NB} (h : NA u (.slice (some ⟨g0, 0, none⟩) n c) V (ms ++ z :: l)) {pb np cp : Nat} (e : (vAt V ms.length).2.2 = .slice (some ⟨pb, 0, none⟩) np cp) {k0 : Int} {r : List Int} (hz : z.kids = k0 :: r) (s : Int) :
    NA (u.setCell ⟨pb, 0, none⟩ (.int .i64 s)) (.slice (some ⟨g0, 0, none⟩) n c) V (ms ++ ⟨z.ps, z.keys, s :: r⟩ :: l) := by
  have hlt : ms.length < (ms ++ z :: l).length := by simp
  obtain ⟨h1, h2⟩ := h.own _ hlt
  rw [nAt_append_at] at h1
  have hb : (vAt V ms.length).2.2.ownBlock = some pb := by rw [e]; rfl
  have ho : Only (fun y => y = pb) u (u.setCell ⟨pb, 0, none⟩ (.int .i64 s)) := only_set (R := fun y => y = pb) rfl _
  refine h.poke (ho.mono (fun y _ hy => .inr (.inr (by rw [hb, hy])))) ⟨own_kept h1.1 ho (fun k hk hy => ((h2 k).1 hk).2 (hy ▸ hb)), own_kept h1.2.1 ho (fun k hk hy => (h2 k).2 hk (hy ▸ hb)), ?_⟩
  have := h1.2.2
  rw [e, hz] at this
  rw [e]
  exact row_set this 0 (.int .i64 s)
/-- One node has other slices. -/
theorem NA.nrSet {u v : World} {S R : Nat → Prop} {vv : Value} {V : List V3} {ms l : List NB} {z z' : NB} {p' : V3} (h : NA u vv V (ms ++ z :: l)) (hS : ∀ j, j < (ms ++ z :: l).length → ∀ y, bl (vAt V j) y → S y) (ho : Only R u v) (hR : ∀ y, R y → bl (vAt V ms.length) y ∨ vv.ownBlock = some y) (hrow : Rw v S vv (ms ++ z :: l).length (ncs (V.set ms.length p'))) (hp : N1 v S p' z') : Nr v S vv (ms ++ z' :: l) := by
  have hl2 : (ms ++ z' :: l).length = (ms ++ z :: l).length := by simp
  refine ⟨V.set ms.length p', by rw [List.length_set, h.len, hl2], by rw [hl2]; exact hrow, fun i hi => ?_⟩
  rw [hl2] at hi
  by_cases e : i = ms.length
  · subst e
    rw [vAt_set _ _ _ (by rw [h.len]; simp), nAt_append_at]
    exact hp
  · rw [vAt_other _ _ _ _ e, nAt_other ms z z' l e]
    refine OwN.n1 ((h.own i hi).1.to ho (fun y hy hr => ?_)) (hS i hi)
    rcases hR y hr with h1 | h1
    · exact h.apart i ms.length hi (by simp) e y hy h1
    · exact h.off i hi y hy h1
/-- t.Nodes[i].Pairs = t.Nodes[i].Pairs[1:] -/
theorem NA.cutP {u : World} {S : Nat → Prop} {g0 n c : Nat} {V : List V3} {ms l : List NB} {z : NB} (h : NA u (.slice (some ⟨g0, 0, none⟩) n c) V (ms ++ z :: l)) (hS : ∀ j, j < (ms ++ z :: l).length → ∀ y, bl (vAt V j) y → S y) (hg : S g0) {pb np cp : Nat} (e : (vAt V ms.length).1 = .slice (some ⟨pb, 0, none⟩) np cp) (hp : 0 < np) (o : Nat) (ho : o = 2 ∨ np = 1) :
    Nr (u.setCell ⟨g0, ms.length * 3, none⟩ (.slice (some ⟨pb, o, none⟩) (np - 1) (cp - 1))) S (.slice (some ⟨g0, 0, none⟩) n c) (ms ++ ⟨z.ps.drop 1, z.keys, z.kids⟩ :: l) := by
  have hlt : ms.length < (ms ++ z :: l).length := by simp
  obtain ⟨h1, h2⟩ := h.own _ hlt
  rw [nAt_append_at] at h1
  have hon : Only (fun y => y = g0) u (u.setCell ⟨g0, ms.length * 3, none⟩ (.slice (some ⟨pb, o, none⟩) (np - 1) (cp - 1))) := only_set (R := fun y => y = g0) rfl _
  have hoff : ∀ y, bl (vAt V ms.length) y → y ≠ g0 := fun y hy e => h.off _ hlt y hy (by rw [e]; rfl)
  have h1' := h1.to hon (fun y hy => hoff y hy)
  have hn1 := h1'.n1 (hS _ hlt)
  have hlv : V.length = (ms ++ z :: l).length := h.len
  refine h.nrSet (p' := (.slice (some ⟨pb, o, none⟩) (np - 1) (cp - 1), (vAt V ms.length).2)) hS hon (fun y hy => .inr (by rw [hy]; rfl)) ?_ ⟨?_, hn1.2.1, hn1.2.2⟩
  · have := row_set h.row (ms.length * 3) (.slice (some ⟨pb, o, none⟩) (np - 1) (cp - 1))
    rw [← ncs_set0 V _ ms.length (by omega)] at this
    exact rw_own this (fun k e _ _ => by cases e; exact hg)
  · have hr : Rw _ S (.slice (some ⟨pb, 0, none⟩) np cp) z.ps.length (pcs z.ps) := e ▸ hn1.1
    have hnp : np = z.ps.length := (Rw.len hr).1
    rw [← hnp] at hr
    have hps : pcs (z.ps.drop 1) = (pcs z.ps).drop (1 * 2) := by
      cases z.ps with
      | nil => rfl
      | cons p r => rfl
    show Rw _ _ _ (z.ps.drop 1).length (pcs (z.ps.drop 1))
    rw [List.length_drop, ← hnp, hps]
    rcases ho with rfl | h0
    · have := hr.drop (m := 1) (by omega) 2 (fun h => by rw [← hps]; exact congrArg pcs (List.eq_nil_of_length_eq_zero (by rw [List.length_drop]; omega)))
      simpa using this
    · refine ⟨_, _, rfl, by omega, by have := (Rw.len hr).2; omega, fun _ => ?_, fun e => by (cases e), fun h => by omega⟩
      rw [← hps]; exact congrArg pcs (List.eq_nil_of_length_eq_zero (by rw [List.length_drop]; omega))
/-- append(t.Nodes, t.Nodes[i]) -/
theorem NA.nrPush {u w2 : World} {S : Nat → Prop} {vv v' : Value} {V : List V3} {ns : List NB} (h : NA u vv V ns) (hS : ∀ j, j < ns.length → ∀ y, bl (vAt V j) y → S y) {i : Nat} (hi : i < ns.length) (hrow : w2.ownsRow 0 158 3 v' (ns.length + 1) (ncs V ++ [(vAt V i).1, (vAt V i).2.1, (vAt V i).2.2])) (hg : u.grownBy w2 vv.ownBlock) (hb : ∀ y, v'.ownBlock = some y → S y) : Nr w2 S v' (ns ++ [nAt ns i]) := by
  have o : Only (fun y => vv.ownBlock = some y) u w2 := only_of_grown hg (fun k e => e)
  have hl := h.len
  refine ⟨V ++ [vAt V i], by simp [hl], ?_, fun j hj => ?_⟩
  · rw [ncs_append, List.length_append]
    exact rw_own hrow (fun k e _ _ => hb k e)
  · simp at hj
    by_cases e : j < ns.length
    · rw [vAt_append_left (by omega), nAt_append_left e]
      exact OwN.n1 ((h.own j e).1.to o (h.off j e)) (hS j e)
    · obtain rfl : j = ns.length := by omega
      rw [nAt_append_at, ← hl, vAt_append_at]
      exact OwN.n1 ((h.own i hi).1.to o (h.off i hi)) (hS i hi)
end Go.Proofs.Ytcpdedpgjaimkaa
/-
  l01Raw: the cursor stays one.
-/
namespace Go.Proofs.Ytcpdedpgjaimkaa
open Go.RowKit
set_option maxHeartbeats 1600000 in
theorem raw_cu (g : Nat) (w : World) (h : Cu w g) :
    Calls Try.prog 40 #[.pointer (some ⟨g, 0, none⟩)] w fun e w' => (∃ x : Int, e = .returned (.int .i64 x) ∧ -9223372036854775808 ≤ x ∧ x ≤ 9223372036854775807) ∧ w.grownBy w' (some g) ∧ Cu w' g := by
  have HC := hid h
  clear h
  go_enter Try.func40, Try.ntmps40
  go_wp2_with fail
  refine (below_any g 10 w HC.out (by omega) (by omega)).mono ?_
  rintro e w1 ⟨⟨k, rfl, hk0, hk1⟩, hg1, hc1⟩
  have HG1 := hid hg1
  have HC1 := hid hc1
  clear hg1 hc1
  rcases (by omega : k < 4 ∨ k = 4 ∨ k = 5 ∨ k = 6 ∨ k = 7 ∨ k = 8 ∨ k = 9) with h | rfl | rfl | rfl | rfl | rfl | rfl
  · go_wp2_with fail
    refine (below_any g 20 w1 HC1.out (by omega) (by omega)).mono ?_
    rintro e w2 ⟨⟨x, rfl, hx0, hx1⟩, hg1, hc1⟩
    have HG2 := hid (grownBy_trans HG1.out hg1)
    have HC2 := hid hc1
    clear hg1 hc1
    go_wp2
    go_ret
    exact ⟨⟨_, rfl, by omega, by omega⟩, HG2.out, HC2.out⟩
  · go_wp2_with fail
    refine (below_any g 3 w1 HC1.out (by omega) (by omega)).mono ?_
    rintro e w2 ⟨⟨x, rfl, hx0, hx1⟩, hg1, hc1⟩
    have HG2 := hid (grownBy_trans HG1.out hg1)
    have HC2 := hid hc1
    clear hg1 hc1
    go_wp2
    go_ret
    exact ⟨⟨_, rfl, by omega, by omega⟩, HG2.out, HC2.out⟩
  · go_wp2_with fail
    refine (below_any g 2 w1 HC1.out (by omega) (by omega)).mono ?_
    rintro e w2 ⟨⟨x, rfl, hx0, hx1⟩, hg1, hc1⟩
    have HG2 := hid (grownBy_trans HG1.out hg1)
    have HC2 := hid hc1
    clear hg1 hc1
    go_wp2
    go_ret
    exact ⟨⟨_, rfl, by omega, by omega⟩, HG2.out, HC2.out⟩
  · go_wp2_with fail
    refine (below_any g 2 w1 HC1.out (by omega) (by omega)).mono ?_
    rintro e w2 ⟨⟨x, rfl, hx0, hx1⟩, hg1, hc1⟩
    have HG2 := hid (grownBy_trans HG1.out hg1)
    have HC2 := hid hc1
    clear hg1 hc1
    go_wp2
    go_ret
    exact ⟨⟨_, rfl, by omega, by omega⟩, HG2.out, HC2.out⟩
  · go_wp2_with fail
    refine (below_any g 2 w1 HC1.out (by omega) (by omega)).mono ?_
    rintro e w2 ⟨⟨x, rfl, hx0, hx1⟩, hg1, hc1⟩
    have HG2 := hid (grownBy_trans HG1.out hg1)
    have HC2 := hid hc1
    clear hg1 hc1
    go_wp2
    go_ret
    exact ⟨⟨_, rfl, by omega, by omega⟩, HG2.out, HC2.out⟩
  · go_wp2_with fail
    have hgl : w1.grownBy (w1.alloc (.cells #[.int .i64 127, .int .i64 128, .int .i64 16383, .int .i64 16384, .int .i64 255, .int .i64 256, .int .i64 4096, .int .i64 4097] 3)) (some g) := grownBy_alloc w1 _ _
    have HGL := hid hgl
    clear hgl
    refine (below_any g 8 _ (HC1.out.alloc _) (by omega) (by omega)).mono ?_
    rintro e w2 ⟨⟨x, rfl, hx0, hx1⟩, hg1, hc1⟩
    have HG2 := hid (grownBy_trans (grownBy_trans HG1.out HGL.out) hg1)
    have hcl := fun k => row_kept (b := w1.heap.size) (k := k) hg1 (by simp) (by have := HC1.out.lt; omega)
    have HC2 := hid hc1
    clear hg1 hc1
    rcases (by omega : x = 0 ∨ x = 1 ∨ x = 2 ∨ x = 3 ∨ x = 4 ∨ x = 5 ∨ x = 6 ∨ x = 7) with rfl | rfl | rfl | rfl | rfl | rfl | rfl | rfl
    · have hc := (hcl 0).trans (by rw [World.cell?_alloc_at (hn := rfl)])
      clear hcl
      go_wp2
      go_ret
      exact ⟨⟨_, rfl, by omega, by omega⟩, HG2.out, HC2.out⟩
    · have hc := (hcl 1).trans (by rw [World.cell?_alloc_at (hn := rfl)])
      clear hcl
      go_wp2
      go_ret
      exact ⟨⟨_, rfl, by omega, by omega⟩, HG2.out, HC2.out⟩
    · have hc := (hcl 2).trans (by rw [World.cell?_alloc_at (hn := rfl)])
      clear hcl
      go_wp2
      go_ret
      exact ⟨⟨_, rfl, by omega, by omega⟩, HG2.out, HC2.out⟩
    · have hc := (hcl 3).trans (by rw [World.cell?_alloc_at (hn := rfl)])
      clear hcl
      go_wp2
      go_ret
      exact ⟨⟨_, rfl, by omega, by omega⟩, HG2.out, HC2.out⟩
    · have hc := (hcl 4).trans (by rw [World.cell?_alloc_at (hn := rfl)])
      clear hcl
      go_wp2
      go_ret
      exact ⟨⟨_, rfl, by omega, by omega⟩, HG2.out, HC2.out⟩
    · have hc := (hcl 5).trans (by rw [World.cell?_alloc_at (hn := rfl)])
      clear hcl
      go_wp2
      go_ret
      exact ⟨⟨_, rfl, by omega, by omega⟩, HG2.out, HC2.out⟩
    · have hc := (hcl 6).trans (by rw [World.cell?_alloc_at (hn := rfl)])
      clear hcl
      go_wp2
      go_ret
      exact ⟨⟨_, rfl, by omega, by omega⟩, HG2.out, HC2.out⟩
    · have hc := (hcl 7).trans (by rw [World.cell?_alloc_at (hn := rfl)])
      clear hcl
      go_wp2
      go_ret
      exact ⟨⟨_, rfl, by omega, by omega⟩, HG2.out, HC2.out⟩
  · go_wp2_with fail
    refine (below_any g 65536 w1 HC1.out (by omega) (by omega)).mono ?_
    rintro e w2 ⟨⟨x, rfl, hx0, hx1⟩, hg1, hc1⟩
    have HG2 := hid (grownBy_trans HG1.out hg1)
    have HC2 := hid hc1
    clear hg1 hc1
    go_wp2
    go_ret
    exact ⟨⟨_, rfl, by omega, by omega⟩, HG2.out, HC2.out⟩
end Go.Proofs.Ytcpdedpgjaimkaa
/-
  l03Any.
-/
namespace Go.Proofs.Ytcpdedpgjaimkaa
open Go.RowKit
/-- What stands behind a turned tree: some nodes. -/
def Tf (w v : World) (g tb : Nat) (a : Option Addr) (n c : Nat) : Prop := Fr w v g tb a n c ∧ ∃ ns, Nr v (fun y => w.heap.size < y ∧ y ≠ tb) (.slice a n c) ns ∧ smallN ns ∧ ns.length ≤ 1048576
theorem Ta.tf {w v : World} {g tb : Nat} {a : Option Addr} {n c : Nat} {V : List V3} {ns : List NB} (h : Ta w v g tb a n c V ns) : Tf w v g tb a n c := ⟨h.fr, ns, h.na.nrS h.lo.1 h.lo.2, (small_smallN h.sm)⟩
theorem Tf.fin {w v : World} {g tb : Nat} {a : Option Addr} {n c : Nat} (h : Tf w v g tb a n c) : AnyPost w g (.returned (.agg #[.slice a n c])) (v.setCell ⟨w.heap.size, 0, none⟩ (.slice a n c)) := by
  obtain ⟨h1, ns, h2, h3⟩ := h
  exact h1.fin h2 h3
theorem grown_set (v : World) (b o : Nat) (x : Value) : v.grownBy (v.setCell ⟨b, o, none⟩ x) (some b) := grownBy_set (grownBy_same v (some b)) o x
/-- The node at ms.length, its cells and what its slices lead to. -/
structure Nc (v : World) (nb i : Nat) (ap : Option Addr) (np cp : Nat) (ax : Option Addr) (nx cx : Nat) (ai : Option Addr) (ni ci : Nat) : Prop where
  c0 : v.cell? ⟨nb, i * 3, none⟩ = some (.slice ap np cp)
  c1 : v.cell? ⟨nb, i * 3 + 1, none⟩ = some (.slice ax nx cx)
  c2 : v.cell? ⟨nb, i * 3 + 2, none⟩ = some (.slice ai ni ci)
  fr : ∀ o, v.frozen? ⟨nb, o, none⟩ = false
theorem Ta.nc {w v : World} {g tb nb : Nat} {n c : Nat} {V : List V3} {ns : List NB} {i : Nat} {ap ax ai : Option Addr} {np cp nx cx ni ci : Nat} (h : Ta w v g tb (some ⟨nb, 0, none⟩) n c V ns) (hi : i < ns.length) (e : vAt V i = (.slice ap np cp, .slice ax nx cx, .slice ai ni ci)) : Nc v nb i ap np cp ax nx cx ai ni ci := by
  obtain ⟨h1, h2, h3, h4⟩ := h.na.cells i hi
  rw [e] at h1 h2 h3
  exact ⟨h1, h2, h3, h4⟩
theorem Ta.sl {w v : World} {g tb : Nat} {a : Option Addr} {n c : Nat} {V : List V3} {ns : List NB} {i : Nat} (h : Ta w v g tb a n c V ns) (hi : i < ns.length) : ∃ nb ap cp ax cx ai ci, a = some ⟨nb, 0, none⟩ ∧ vAt V i = (.slice ap (nAt ns i).ps.length cp, .slice ax (nAt ns i).keys.length cx, .slice ai (nAt ns i).kids.length ci) := by
  obtain ⟨nb, e, _⟩ := h.na.rowAt (by omega)
  obtain ⟨h1, _⟩ := h.na.own i hi
  obtain ⟨ap, cp, e1⟩ := own_shape h1.1
  obtain ⟨ax, cx, e2⟩ := own_shape h1.2.1
  obtain ⟨ai, ci, e3⟩ := own_shape h1.2.2
  exact ⟨nb, ap, cp, ax, cx, ai, ci, e, by rw [← e1, ← e2, ← e3]⟩
theorem own_first {w : World} {E : TypeId} {s : Nat} {a : Option Addr} {n c m : Nat} {xs : List Value} {x : Value} (h : w.ownsRow 0 E s (.slice a n c) m xs) (hx : xs[0]? = some x) (hm : 0 < m) : ∃ b, a = some ⟨b, 0, none⟩ ∧ w.cell? ⟨b, 0, none⟩ = some x ∧ ∀ o, w.frozen? ⟨b, o, none⟩ = false := by
  have hc := fun g hg => World.ownsRow.cells h (g := g) hg
  rcases h.2 with ⟨e, e2⟩ | ⟨g', cap, cur, e, _, k4, _⟩
  · omega
  · cases e
    refine ⟨g', rfl, ?_, fun o => by simp [World.frozen?, k4]⟩
    have := hc g' rfl 0 x hx
    rwa [Addr.add_lit] at this
theorem first_map {α : Type} (l : List α) (f : α → Value) {d : α} (h : 0 < l.length) : (l.map f)[0]? = some (f (l[0]?.getD d)) := by
  cases l with
  | nil => simp at h
  | cons x l => simp
theorem Tf.box {w v : World} {g tb : Nat} {a : Option Addr} {n c : Nat} (h : Tf w v g tb a n c) : v.cell? ⟨tb, 0, none⟩ = some (.slice a n c) := h.1.bk.cell (j := 0) rfl
theorem Tf.res {w v : World} {g tb : Nat} {a : Option Addr} {n c : Nat} (h : Tf w v g tb a n c) : v.cell? ⟨w.heap.size, 0, none⟩ = some (.slice none 0 0) := h.1.rb.cell (j := 0) rfl
theorem Tf.free {w v : World} {g tb : Nat} {a : Option Addr} {n c : Nat} (h : Tf w v g tb a n c) : v.frozen? ⟨w.heap.size, 0, none⟩ = false := h.1.rb.free 0
theorem Tf.got {w v : World} {g tb : Nat} {a : Option Addr} {n c : Nat} (h : Tf w v g tb a n c) : (v.setCell ⟨w.heap.size, 0, none⟩ (.slice a n c)).cell? ⟨w.heap.size, 0, none⟩ = some (.slice a n c) := (h.1.rb.set 0 (.slice a n c)).cell (j := 0) rfl
/-- k = 1, 2, 4: a row of the node is written. -/
theorem Ta.wP {w v : World} {g tb nb n c : Nat} {V : List V3} {ms l : List NB} {z : NB} {pb np cp : Nat} {p2 : Value × Value} (h : Ta w v g tb (some ⟨nb, 0, none⟩) n c V (ms ++ z :: l)) (e : vAt V ms.length = (.slice (some ⟨pb, 0, none⟩) np cp, p2)) (hz : 0 < z.ps.length) (s : ByteArray) : Tf w (v.setCell ⟨pb, 0, none⟩ (.string s)) g tb (some ⟨nb, 0, none⟩) n c := by
  have hlt : ms.length < (ms ++ z :: l).length := by simp
  have hpb := h.lo.2 _ hlt pb (by rw [e]; exact .inl rfl)
  obtain ⟨⟨k0, v0⟩, r, hr⟩ : ∃ p r, z.ps = p :: r := by
    cases hq : z.ps with
    | nil => rw [hq] at hz; exact absurd hz (Nat.lt_irrefl _)
    | cons p r => exact ⟨p, r, rfl⟩
  refine ⟨h.fr.touch (grown_set v pb 0 (.string s)) (fun k e => by cases e; exact hpb), _, (h.na.pokeP (by rw [e]) hr s).nrS h.lo.1 (fun i hi => h.lo.2 i (by simpa using hi)), small_mid h.sm ⟨by simp [hr], by simp, by simp⟩⟩
theorem Ta.wK {w v : World} {g tb nb n c : Nat} {V : List V3} {ms l : List NB} {z : NB} {pb np cp : Nat} {p1 p2 : Value} (h : Ta w v g tb (some ⟨nb, 0, none⟩) n c V (ms ++ z :: l)) (e : vAt V ms.length = (p1, .slice (some ⟨pb, 0, none⟩) np cp, p2)) (hz : 0 < z.keys.length) (s : ByteArray) : Tf w (v.setCell ⟨pb, 0, none⟩ (.string s)) g tb (some ⟨nb, 0, none⟩) n c := by
  have hlt : ms.length < (ms ++ z :: l).length := by simp
  have hpb := h.lo.2 _ hlt pb (by rw [e]; exact .inr (.inl rfl))
  obtain ⟨k0, r, hr⟩ : ∃ p r, z.keys = p :: r := by
    cases hq : z.keys with
    | nil => rw [hq] at hz; exact absurd hz (Nat.lt_irrefl _)
    | cons p r => exact ⟨p, r, rfl⟩
  refine ⟨h.fr.touch (grown_set v pb 0 (.string s)) (fun k e => by cases e; exact hpb), _, (h.na.pokeK (by rw [e]) hr s).nrS h.lo.1 (fun i hi => h.lo.2 i (by simpa using hi)), small_mid h.sm ⟨by simp, by simp [hr], by simp⟩⟩
theorem Ta.wI {w v : World} {g tb nb n c : Nat} {V : List V3} {ms l : List NB} {z : NB} {pb np cp : Nat} {p1 p2 : Value} (h : Ta w v g tb (some ⟨nb, 0, none⟩) n c V (ms ++ z :: l)) (e : vAt V ms.length = (p1, p2, .slice (some ⟨pb, 0, none⟩) np cp)) (hz : 0 < z.kids.length) (s : Int) : Tf w (v.setCell ⟨pb, 0, none⟩ (.int .i64 s)) g tb (some ⟨nb, 0, none⟩) n c := by
  have hlt : ms.length < (ms ++ z :: l).length := by simp
  have hpb := h.lo.2 _ hlt pb (by rw [e]; exact .inr (.inr rfl))
  obtain ⟨k0, r, hr⟩ : ∃ p r, z.kids = p :: r := by
    cases hq : z.kids with
    | nil => rw [hq] at hz; exact absurd hz (Nat.lt_irrefl _)
    | cons p r => exact ⟨p, r, rfl⟩
  refine ⟨h.fr.touch (grown_set v pb 0 (.int .i64 s)) (fun k e => by cases e; exact hpb), _, (h.na.pokeI (by rw [e]) hr s).nrS h.lo.1 (fun i hi => h.lo.2 i (by simpa using hi)), small_mid h.sm ⟨by simp, by simp, by simp [hr]⟩⟩
/-- k = 5: the first pair is cut off. -/
theorem Ta.wC {w v : World} {g tb nb n c : Nat} {V : List V3} {ms l : List NB} {z : NB} {pb np cp : Nat} {p2 : Value × Value} (h : Ta w v g tb (some ⟨nb, 0, none⟩) n c V (ms ++ z :: l)) (e : vAt V ms.length = (.slice (some ⟨pb, 0, none⟩) np cp, p2)) (hp : 0 < np) (o : Nat) (ho : o = 2 ∨ np = 1) : Tf w (v.setCell ⟨nb, ms.length * 3, none⟩ (.slice (some ⟨pb, o, none⟩) (np - 1) (cp - 1))) g tb (some ⟨nb, 0, none⟩) n c := by
  have hnb := h.lo.1 nb rfl
  exact ⟨h.fr.touch (grown_set v nb _ _) (fun k e => by cases e; exact hnb), _, h.na.cutP h.lo.2 hnb (by rw [e]) hp o ho, small_mid h.sm ⟨by simp; omega, by simp, by simp⟩⟩
/-- k = 0: a key is added. -/
theorem Ta.wA {w u w2 : World} {g tb nb n c : Nat} {V : List V3} {ms l : List NB} {z : NB} {ax : Option Addr} {nx cx : Nat} {p1 p2 : Value} {s : ByteArray} {a5 : Option Addr} {n5 c5 : Nat} (h : Ta w u g tb (some ⟨nb, 0, none⟩) n c V (ms ++ z :: l)) (e : vAt V ms.length = (p1, .slice ax nx cx, p2)) (hO : w2.ownsRow 0 9 1 (.slice a5 n5 c5) (z.keys.length + 1) (z.keys.map Value.string ++ [.string s])) (hg : u.grownBy w2 (Value.slice ax nx cx).ownBlock)
    (ha : (Value.slice a5 n5 c5).ownBlock = (Value.slice ax nx cx).ownBlock ∨ (Value.slice a5 n5 c5).ownBlock = some u.heap.size) : Tf w (w2.setCell ⟨nb, ms.length * 3 + 1, none⟩ (.slice a5 n5 c5)) g tb (some ⟨nb, 0, none⟩) n c := by
  have hlt : ms.length < (ms ++ z :: l).length := by simp
  have hnb := h.lo.1 nb rfl
  have hsz := h.fr.gr.size
  have htb := h.fr.bk.lt
  have hwt := h.fr.nb
  have hlo := h.lo.2 _ hlt
  have hfr : Fr w w2 g tb (some ⟨nb, 0, none⟩) n c := h.fr.touch hg (fun k e2 => hlo k (by rw [e]; exact .inr (.inl e2)))
  have e1 : (vAt V ms.length).2.1 = .slice ax nx cx := by rw [e]
  have hN := h.na.addKey (s := s) (kx' := .slice a5 n5 c5) hO (by rw [e1]; exact hg) (by rw [e1]; exact ha.imp id (fun e => ⟨_, e, Nat.le_refl _⟩))
  refine ⟨hfr.touch (grown_set w2 nb _ _) (fun k e => by cases e; exact hnb), _, hN.nrS h.lo.1 (fun i hi y hy => ?_), small_mid h.sm ⟨by simp, by simp, by simp⟩⟩
  have hi' : i < (ms ++ z :: l).length := by simpa using hi
  have hl := h.na.len
  by_cases ei : i = ms.length
  · subst ei
    rw [vAt_set _ _ _ (by omega)] at hy
    rcases hy with hy | hy | hy
    · exact hlo y (.inl hy)
    · rcases ha with e3 | e3
      · exact hlo y (by rw [e]; exact .inr (.inl (e3 ▸ hy)))
      · simp only [e3] at hy
        cases hy
        exact ⟨by omega, by omega⟩
    · exact hlo y (.inr (.inr hy))
  · rw [vAt_other _ _ _ _ ei] at hy
    exact h.lo.2 i hi' y hy
/-- k = 3: a node is put behind the others. -/
theorem Ta.wN {w u w2 : World} {g tb : Nat} {a : Option Addr} {n c : Nat} {V : List V3} {ns : List NB} {a5 : Option Addr} {n5 c5 : Nat} {i : Nat} (h : Ta w u g tb a n c V ns) (hi : i < ns.length) (hO : w2.ownsRow 0 158 3 (.slice a5 n5 c5) (ns.length + 1) (ncs V ++ [(vAt V i).1, (vAt V i).2.1, (vAt V i).2.2])) (hg : u.grownBy w2 (Value.slice a n c).ownBlock)
    (ha : (Value.slice a5 n5 c5).ownBlock = (Value.slice a n c).ownBlock ∨ (Value.slice a5 n5 c5).ownBlock = some u.heap.size) : Tf w (w2.setCell ⟨tb, 0, none⟩ (.slice a5 n5 c5)) g tb a5 n5 c5 := by
  have hsz := h.fr.gr.size
  have htb := h.fr.bk.lt
  have hwt := h.fr.nb
  have hfr : Fr w w2 g tb a n c := h.fr.touch hg (fun k e2 => h.lo.1 k e2)
  have hN := h.na.nrPush (S := fun y => w.heap.size < y ∧ y ≠ tb) h.lo.2 hi hO hg (fun y hy => by
    rcases ha with e | e
    · exact h.lo.1 y (e ▸ hy)
    · rw [e] at hy
      cases hy
      exact ⟨by omega, by omega⟩)
  refine ⟨hfr.setBox _ _ _, _, hN.to (only_set (R := fun y => y = tb) rfl _) (fun y hy _ e => hy.2 e), fun j hj => ?_, by have := h.sm.2; simp; omega⟩
  simp at hj
  by_cases e : j < ns.length
  · rw [nAt_append_left e]
    have := h.sm.1 j e
    omega
  · obtain rfl : j = ns.length := by omega
    rw [nAt_append_at]
    have := h.sm.1 i hi
    omega
theorem step_append_node1 {w : World} {ops : Array Oper} {o : Oper} {a : Act} {K : Act → World → Prop} {Q : Exit → Act → World → Prop} {E : Prop} (hgd : o.guard = none) (s x : Operand)
    (ho : o.op = .call { callee := .builtin .append, args := #[s, x], argTypes := #[23, 23] }) (v : Value) (n : Nat) (xs : List Value) (hs : a.eval s = v) (hown : w.ownsRow 0 158 3 v n xs)
    (g : Nat) (p : V3) (h1 : p.1.oneCell' = true ∧ p.2.1.oneCell' = true ∧ p.2.2.oneCell' = true) (hx : a.eval x = .slice (some ⟨g, 0, none⟩) 1 1) (hB : Bk w g 158 [p.1, p.2.1, p.2.2]) (hb : n ≤ 1048576) (b0 o0 : Nat) (x0 : Value) (hc0 : w.cell? ⟨b0, o0, none⟩ = some x0) (hf0 : w.frozen? ⟨b0, o0, none⟩ = false) (hne : v.ownBlock ≠ some b0)
    (h : ∀ a' n' c' w', w'.ownsRow 0 158 3 (.slice a' n' c') (n + 1) (xs ++ [p.1, p.2.1, p.2.2]) → w.grownBy w' v.ownBlock → ((Value.slice a' n' c').ownBlock = v.ownBlock ∨ (Value.slice a' n' c').ownBlock = some w.heap.size) → w'.cell? ⟨b0, o0, none⟩ = some x0 → w'.frozen? ⟨b0, o0, none⟩ = false → K (a.put o.dst (.slice a' n' c')) w') :
    if Region.wanted o (yielded ops a.tmps) = true then Oper.wp Try.prog o a w K Q else E := by
  have hw : Region.wanted o (yielded ops a.tmps) = true := by simp [Region.wanted, hgd]
  rw [if_pos hw]
  obtain ⟨i, hi, hz, hsz, hby⟩ := info_of infoNodeI
  obtain ⟨v', w', hr, h2, h3, h5⟩ := run_append_row_at (P := Try.prog) (w := w) 0 23 o.type 158 i _ 3 72 Try.underlying23 hi hz hsz hby rfl (by decide) v n xs hown (fun _ => True) _ 1 [p.1, p.2.1, p.2.2] (hB.rw (Nat.le_refl _) (by omega) (fun h => by omega) _ trivial) rfl (by intro u hu; simp at hu; rcases hu with rfl | rfl | rfl <;> first | exact h1.1 | exact h1.2.1 | exact h1.2.2) (by unfold maxLen; omega) (by omega) (Nat.zero_le _)
  obtain ⟨a', c', rfl⟩ := own_shape h2
  have hbl := h3.block b0 (block_lt hc0) (fun e => hne e.symm)
  unfold Oper.wp execOp
  simp only [ho, resolve, invoke, builtin, Sem.run_bind, Sem.run_pure, Result.andThen_ok, List.map_toArray, List.map_cons, List.map_nil, hs, hx, hr]
  exact h a' _ c' w' h2 h3 h5 ((World.cell?_of_block (w := w) (a := ⟨b0, o0, none⟩) hbl).trans hc0) ((World.frozen?_of_block (w := w) (a := ⟨b0, o0, none⟩) hbl).trans hf0)
end Go.Proofs.Ytcpdedpgjaimkaa
/-
  l03Any.
-/
namespace Go.Proofs.Ytcpdedpgjaimkaa
open Go.RowKit
set_option maxHeartbeats 8000000 in
set_option maxRecDepth 20000 in
theorem anyT_any (g : Nat) (w : World) (h : Cu w g) : Calls Try.prog 37 #[.pointer (some ⟨g, 0, none⟩)] w fun e w' => AnyPost w g e w' := by
  have hng := h.lt
  have R0 := hid (Bk.new w 25 [.slice none 0 0])
  have C0 := hid (h.alloc (.cells #[.slice none 0 0] 25))
  have G0 := hid (grownBy_alloc w (.cells #[.slice none 0 0] 25) (some g))
  have Z0 : Hid ((w.alloc (.cells #[.slice none 0 0] 25)).heap.size = w.heap.size + 1) := by show _ = _; simp
  clear h
  go_enter Try.func37, Try.ntmps37
  go_wp2_with fail
  refine (drawT_any g 40 _ C0.out (by omega)).mono ?_
  generalize w.alloc (.cells #[.slice none 0 0] 25) = U at *
  rintro e w1 ⟨a, n, c, ns, rfl, hg1, hc1, hN1, hs1, hl1⟩
  obtain ⟨V, hna, hr1, hr2⟩ := hN1.na
  have hz1 := hg1.size
  have T1 : Hid (Ta w (w1.alloc (.cells #[.slice a n c] 25)) g w1.heap.size a n c V ns) := by
    have hz := Z0.out
    refine ⟨⟨grownBy_trans (grownBy_trans G0.out hg1) (grownBy_alloc _ _ _), hc1.alloc _, Bk.new w1 25 [.slice a n c], ?_, hng, by omega⟩, hna.kept (below_new (Below.refl _ _)), ⟨fun y hy => ?_, fun i hi y hy => ?_⟩, hs1, hl1⟩
    · exact (tr_grown R0.out hg1 hng).alloc _
    · have := hr1 y hy; exact ⟨by omega, by omega⟩
    · have := hr2 i hi y hy; exact ⟨by omega, by omega⟩
  have hnl : Hid (n = ns.length) := by obtain ⟨_, _, _, e, h⟩ := hna.shape; cases e; exact h.out
  have hn5 : n ≤ 100000 := by rw [hnl.out]; exact hl1
  clear hg1 hc1 hN1 hs1 hl1 hna hr1 hr2 hz1 R0 C0 G0 Z0
  go_wp2_with fail
  refine (below_any g 16 _ T1.out.fr.cu (by omega) (by omega)).mono ?_
  generalize w1.alloc (.cells #[.slice a n c] 25) = U1 at *
  generalize w1.heap.size = tb at *
  rintro e w2 ⟨⟨x, rfl, hx0, hx1⟩, hg2, hc2⟩
  have T2 := hid (T1.out.draw hg2 hc2)
  clear hg2 hc2 T1
  have t0 := T2.out.fr.bk.cell (j := 0) rfl
  by_cases hn : n = 0
  · subst hn
    have F2 := hid T2.out.tf
    have r0 := F2.out.res
    have rf := F2.out.free
    have d1 := F2.out.got
    have HFIN := hid F2.out.fin
    clear T2 F2
    go_wp2
    refine bodyPost_ret (v := .agg #[.slice a 0 c]) ?_ rfl ?_
    · refine results_tree1 rfl _ _ _ rfl ?_
      exact d1
    · exact HFIN.out
  · have hn' : ¬ (n : Int) = 0 := by omega
    go_wp2_with fail
    refine (below_any g (n : Int) _ T2.out.fr.cu (by omega) (by omega)).mono ?_
    rintro e w3 ⟨⟨i, rfl, hi0, hi1⟩, hg3, hc3⟩
    have T3 := hid (T2.out.draw hg3 hc3)
    clear hg3 hc3 T2 t0 hn'
    obtain ⟨i, rfl⟩ := Int.eq_ofNat_of_zero_le hi0
    have hin : i < ns.length := by rw [← hnl.out]; omega
    obtain ⟨ms, z, l, rfl, rfl⟩ := split_at hin
    obtain ⟨nb, ap, cp, ax, cx, ai, ci, rfl, hV⟩ := T3.out.sl hin
    rw [nAt_append_at] at hV
    have HZ : Hid (z.ps.length ≤ 1000 ∧ z.keys.length ≤ 1000 ∧ z.kids.length ≤ 1000) := by
      have := T3.out.sm.1 ms.length hin
      rwa [nAt_append_at] at this
    have HV := hid hV
    have t0 := T3.out.fr.bk.cell (j := 0) rfl
    have NC := T3.out.nc hin hV
    have m0 := NC.c0
    have m1 := NC.c1
    have m2 := NC.c2
    have mf := hid NC.fr
    have HOW : Hid (OwN w3 (vAt V ms.length) z) := by
      have := (T3.out.na.own ms.length hin).1
      rwa [nAt_append_at] at this
    clear NC hV hin
    generalize hq : ms.length = q at *
    have HQ := hid hq
    clear hq
    generalize hnp : z.ps.length = np at *
    generalize hnx : z.keys.length = nx at *
    generalize hni : z.kids.length = ni at *
    have HNP := hid hnp
    have HNX := hid hnx
    have HNI := hid hni
    clear hnp hnx hni
    /- CASES -/
    have F3 := hid T3.out.tf
    by_cases x0 : x = 0
    · subst x0
      clear F3
      have HLO : Hid (∀ v, Ta w v g tb (some ⟨nb, 0, none⟩) n c V (ms ++ z :: l) → v.cell? ⟨nb, q * 3 + 1, none⟩ = some (.slice ax nx cx) ∧ v.frozen? ⟨nb, q * 3 + 1, none⟩ = false ∧ v.ownsRow 0 9 1 (.slice ax nx cx) nx (z.keys.map Value.string)) := by
        obtain rfl := HQ.out
        obtain rfl := HNX.out
        intro v hv
        have hlt : ms.length < (ms ++ z :: l).length := by simp
        have h1 := hv.nc hlt HV.out
        have h2 := (hv.na.own _ hlt).1
        rw [nAt_append_at, HV.out] at h2
        exact ⟨h1.c1, h1.fr _, h2.2.1⟩
      have TU : Hid (Ta w (w3.alloc (.cells #[.string ⟨#[113]⟩] 9)).drew g tb (some ⟨nb, 0, none⟩) n c V (ms ++ z :: l)) := (T3.out.below (below_alloc _ _)).below (below_drew _)
      have HM := hid (HLO.out _ TU.out)
      have hm0 := (T3.out.below (below_alloc w3 (.cells #[.string ⟨#[113]⟩] 9))).fr.bk.cell (j := 0) rfl
      have HTB : Hid (∀ w5, (w3.alloc (.cells #[.string ⟨#[113]⟩] 9)).drew.grownBy w5 (Value.slice ax nx cx).ownBlock → w5.cell? ⟨tb, 0, none⟩ = some (.slice (some ⟨nb, 0, none⟩) n c)) := by
        obtain rfl := HQ.out
        intro w5 hg
        exact (TU.out.fr.bk.to (only_of_grown hg (R := fun y => (Value.slice ax nx cx).ownBlock = some y) (fun k e => e)) (fun e => (TU.out.lo.2 ms.length (by simp) tb (by rw [HV.out]; exact .inr (.inl e))).2 rfl)).cell (j := 0) rfl
      have hm1 := (HLO.out _ (T3.out.below (below_alloc w3 (.cells #[.string ⟨#[113]⟩] 9)))).1
      have HZC : Hid ((w3.alloc (.cells #[.string ⟨#[113]⟩] 9)).drew.cell? ⟨w3.heap.size, 0, none⟩ = some (.string ⟨#[113]⟩)) := (Bk.new w3 9 [.string ⟨#[113]⟩]).cell (j := 0) rfl
      have hkk : nx ≤ 1048576 := by have := HZ.out; omega
      have HNB : Hid ((Value.slice ax nx cx).ownBlock ≠ some nb) := by
        obtain rfl := HQ.out
        exact fun e => T3.out.na.off ms.length (by simp) nb (by rw [HV.out]; exact .inr (.inl e)) rfl
      have HFIN : Hid (∀ (a5 : Option Addr) (n5 c5 : Nat) (w5 : World), w5.ownsRow 0 9 1 (.slice a5 n5 c5) (nx + 1) (z.keys.map Value.string ++ [.string ⟨#[113]⟩]) → (w3.alloc (.cells #[.string ⟨#[113]⟩] 9)).drew.grownBy w5 (Value.slice ax nx cx).ownBlock →
          ((Value.slice a5 n5 c5).ownBlock = (Value.slice ax nx cx).ownBlock ∨ (Value.slice a5 n5 c5).ownBlock = some (w3.alloc (.cells #[.string ⟨#[113]⟩] 9)).drew.heap.size) → Tf w (w5.setCell ⟨nb, q * 3 + 1, none⟩ (.slice a5 n5 c5)) g tb (some ⟨nb, 0, none⟩) n c) := by
        obtain rfl := HQ.out
        obtain rfl := HNX.out
        exact fun a5 n5 c5 w5 h1 h2 h3 => TU.out.wA HV.out h1 h2 h3
      clear T3 m0 m2 HOW HV HLO
      go_wp2_with fail
      go_cut [4] (fun x v => x = .int .i64 0 ∧ Hid (Tf w v g tb (some ⟨nb, 0, none⟩) n c))
      case first =>
        go_region_law (first
          | (refine step_append_str1 rfl _ _ rfl _ nx _ rfl HM.out.2.2 w3.heap.size ⟨#[113]⟩ rfl HZC.out hkk nb (q * 3 + 1) _ HM.out.1 HM.out.2.1 HNB.out ?_; intro a5 n5 c5 w5 hO5 hg5 ha5 hc5 hf5; have tb5 := HTB.out _ hg5))
        all_goals (go_wp2_with fail; go_meet)
        all_goals exact ⟨rfl, HFIN.out _ _ _ _ hO5 hg5 ha5⟩
      case rest =>
        obtain ⟨rfl, HT⟩ := hcut
        clear HM HZC HNB HFIN HTB TU m1 hm1 hm0 t0
        have e0 := HT.out.box
        have r0 := HT.out.res
        have rf := HT.out.free
        have d1 := HT.out.got
        have HFIN := hid HT.out.fin
        clear HT
        go_wp2
        refine bodyPost_ret (v := .agg #[.slice (some ⟨nb, 0, none⟩) n c]) ?_ rfl ?_
        · refine results_tree1 rfl _ _ _ rfl ?_
          exact d1
        · exact HFIN.out
    · by_cases x1 : x = 1
      · subst x1
        clear F3
        by_cases hp : 0 < np
        · have hp' : (0 : Int) < (np : Int) := by omega
          have hpb : ∃ pb, ap = some ⟨pb, 0, none⟩ := by
            obtain rfl := HQ.out
            have h2 := HOW.out
            rw [HV.out] at h2
            obtain ⟨pb, e, _⟩ := own_first h2.1 (pcs_at z.ps 0 (by rw [HNP.out]; exact hp)).1 (by rw [HNP.out]; exact hp)
            exact ⟨pb, e⟩
          obtain ⟨pb, rfl⟩ := hpb
          have HC : Hid (∀ v, Ta w v g tb (some ⟨nb, 0, none⟩) n c V (ms ++ z :: l) → v.cell? ⟨tb, 0, none⟩ = some (.slice (some ⟨nb, 0, none⟩) n c) ∧ v.cell? ⟨nb, q * 3, none⟩ = some (.slice (some ⟨pb, 0, none⟩) np cp) ∧ v.cell? ⟨pb, 0, none⟩ = some (.string (pAtB z.ps 0).1) ∧ v.frozen? ⟨pb, 0, none⟩ = false ∧ ∀ s, Tf w (v.setCell ⟨pb, 0, none⟩ (.string s)) g tb (some ⟨nb, 0, none⟩) n c) := by
            obtain rfl := HQ.out
            intro v hv
            have hlt : ms.length < (ms ++ z :: l).length := by simp
            have h1 := hv.nc hlt HV.out
            have h2 := (hv.na.own _ hlt).1
            rw [nAt_append_at, HV.out] at h2
            obtain ⟨pb', e, d1, d2⟩ := own_first h2.1 (pcs_at z.ps 0 (by rw [HNP.out]; exact hp)).1 (by rw [HNP.out]; exact hp)
            cases e
            exact ⟨hv.fr.bk.cell (j := 0) rfl, h1.c0, d1, d2 0, fun s => hv.wP HV.out (by rw [HNP.out]; exact hp) s⟩
          clear HOW HV
          go_wp2_with fail
          go_cut [4] (fun x v => x = .int .i64 1 ∧ Hid (Tf w v g tb (some ⟨nb, 0, none⟩) n c))
          case first =>
            go_region_with (go_at_call 99; refine (anyKey_any g _ (T3.out.below (below_drew _)).fr.cu).mono ?_; rintro e w4 ⟨⟨s, rfl, hs⟩, hg4, hc4⟩; have T4 := (T3.out.below (below_drew _)).draw hg4 hc4; have t4 := (HC.out _ T4).1; have m4 := (HC.out _ T4).2.1; have p4 := (HC.out _ T4).2.2.1; have f4 := (HC.out _ T4).2.2.2.1)
            all_goals (go_wp2_with fail; go_meet)
            all_goals exact ⟨rfl, (HC.out _ T4).2.2.2.2 _⟩
          case rest =>
            obtain ⟨rfl, HT⟩ := hcut
            clear HC T3 m0 m1 m2 t0
            have e0 := HT.out.box
            have r0 := HT.out.res
            have rf := HT.out.free
            have d1 := HT.out.got
            have HFIN := hid HT.out.fin
            clear HT
            go_wp2
            refine bodyPost_ret (v := .agg #[.slice (some ⟨nb, 0, none⟩) n c]) ?_ rfl ?_
            · refine results_tree1 rfl _ _ _ rfl ?_
              exact d1
            · exact HFIN.out
        · have hp' : ¬ (0 : Int) < (np : Int) := by omega
          have F3 := hid T3.out.tf
          clear T3 HOW HV
          have e0 := F3.out.box
          have r0 := F3.out.res
          have rf := F3.out.free
          have d1 := F3.out.got
          have HFIN := hid F3.out.fin
          clear F3
          go_wp2
          refine bodyPost_ret (v := .agg #[.slice (some ⟨nb, 0, none⟩) n c]) ?_ rfl ?_
          · refine results_tree1 rfl _ _ _ rfl ?_
            exact d1
          · exact HFIN.out
      · by_cases x2 : x = 2
        · subst x2
          clear F3
          by_cases hp : 0 < ni
          · have hp' : (0 : Int) < (ni : Int) := by omega
            have hpb : ∃ pb, ai = some ⟨pb, 0, none⟩ := by
              obtain rfl := HQ.out
              have h2 := HOW.out
              rw [HV.out] at h2
              obtain ⟨pb, e, _⟩ := own_first h2.2.2 (first_map z.kids (Value.int .i64) (d := 0) (by rw [HNI.out]; exact hp)) (by rw [HNI.out]; exact hp)
              exact ⟨pb, e⟩
            obtain ⟨pb, rfl⟩ := hpb
            have HC : Hid (∀ v, Ta w v g tb (some ⟨nb, 0, none⟩) n c V (ms ++ z :: l) → v.cell? ⟨tb, 0, none⟩ = some (.slice (some ⟨nb, 0, none⟩) n c) ∧ v.cell? ⟨nb, q * 3 + 2, none⟩ = some (.slice (some ⟨pb, 0, none⟩) ni ci) ∧ v.cell? ⟨pb, 0, none⟩ = some (.int .i64 (z.kids[0]?.getD 0)) ∧ v.frozen? ⟨pb, 0, none⟩ = false ∧ ∀ s, Tf w (v.setCell ⟨pb, 0, none⟩ (.int .i64 s)) g tb (some ⟨nb, 0, none⟩) n c) := by
              obtain rfl := HQ.out
              intro v hv
              have hlt : ms.length < (ms ++ z :: l).length := by simp
              have h1 := hv.nc hlt HV.out
              have h2 := (hv.na.own _ hlt).1
              rw [nAt_append_at, HV.out] at h2
              obtain ⟨pb', e, d1, d2⟩ := own_first h2.2.2 (first_map z.kids (Value.int .i64) (d := 0) (by rw [HNI.out]; exact hp)) (by rw [HNI.out]; exact hp)
              cases e
              exact ⟨hv.fr.bk.cell (j := 0) rfl, h1.c2, d1, d2 0, fun s => hv.wI HV.out (by rw [HNI.out]; exact hp) s⟩
            clear HOW HV
            go_wp2_with fail
            go_cut [4] (fun x v => x = .int .i64 2 ∧ Hid (Tf w v g tb (some ⟨nb, 0, none⟩) n c))
            case first =>
              go_region_with (go_at_call 40; refine (raw_cu g _ (T3.out.below (below_drew _)).fr.cu).mono ?_; rintro e w4 ⟨⟨s, rfl, hs⟩, hg4, hc4⟩; have T4 := (T3.out.below (below_drew _)).draw hg4 hc4; have t4 := (HC.out _ T4).1; have m4 := (HC.out _ T4).2.1; have p4 := (HC.out _ T4).2.2.1; have f4 := (HC.out _ T4).2.2.2.1)
              all_goals (go_wp2_with fail; go_meet)
              all_goals exact ⟨rfl, (HC.out _ T4).2.2.2.2 _⟩
            case rest =>
              obtain ⟨rfl, HT⟩ := hcut
              clear HC T3 m0 m1 m2 t0
              have e0 := HT.out.box
              have r0 := HT.out.res
              have rf := HT.out.free
              have d1 := HT.out.got
              have HFIN := hid HT.out.fin
              clear HT
              go_wp2
              refine bodyPost_ret (v := .agg #[.slice (some ⟨nb, 0, none⟩) n c]) ?_ rfl ?_
              · refine results_tree1 rfl _ _ _ rfl ?_
                exact d1
              · exact HFIN.out
          · have hp' : ¬ (0 : Int) < (ni : Int) := by omega
            have F3 := hid T3.out.tf
            clear T3 HOW HV
            have e0 := F3.out.box
            have r0 := F3.out.res
            have rf := F3.out.free
            have d1 := F3.out.got
            have HFIN := hid F3.out.fin
            clear F3
            go_wp2
            refine bodyPost_ret (v := .agg #[.slice (some ⟨nb, 0, none⟩) n c]) ?_ rfl ?_
            · refine results_tree1 rfl _ _ _ rfl ?_
              exact d1
            · exact HFIN.out
        · by_cases x3 : x = 3
          · subst x3
            clear F3
            have TU : Hid (Ta w (w3.alloc (.cells #[.slice ap np cp, .slice ax nx cx, .slice ai ni ci] 158)).drew g tb (some ⟨nb, 0, none⟩) n c V (ms ++ z :: l)) := (T3.out.below (below_alloc _ _)).below (below_drew _)
            have HBN : Hid (Bk (w3.alloc (.cells #[.slice ap np cp, .slice ax nx cx, .slice ai ni ci] 158)).drew w3.heap.size 158 [.slice ap np cp, .slice ax nx cx, .slice ai ni ci]) := (Bk.new w3 158 [.slice ap np cp, .slice ax nx cx, .slice ai ni ci]).below (below_drew _)
            have hu1 := (T3.out.below (below_alloc w3 (.cells #[.slice ap np cp, .slice ax nx cx, .slice ai ni ci] 158))).fr.bk.cell (j := 0) rfl
            have ba3 := (T3.out.below (below_alloc w3 (.cells #[.slice ap np cp, .slice ax nx cx, .slice ai ni ci] 158))).fr.bk.cell (j := 0) rfl
            have HU1 := hid (TU.out.fr.bk.cell (j := 0) rfl)
            have HU2 := hid (TU.out.fr.bk.free 0)
            have HRW : Hid ((w3.alloc (.cells #[.slice ap np cp, .slice ax nx cx, .slice ai ni ci] 158)).drew.ownsRow 0 158 3 (.slice (some ⟨nb, 0, none⟩) n c) n (ncs V)) := by
              have := TU.out.na.row
              rwa [← hnl.out] at this
            have HNB : Hid ((Value.slice (some ⟨nb, 0, none⟩) n c).ownBlock ≠ some tb) := fun e => by cases e; exact (TU.out.lo.1 nb rfl).2 rfl
            have HFIN : Hid (∀ (a5 : Option Addr) (n5 c5 : Nat) (w5 : World), w5.ownsRow 0 158 3 (.slice a5 n5 c5) (n + 1) (ncs V ++ [.slice ap np cp, .slice ax nx cx, .slice ai ni ci]) → (w3.alloc (.cells #[.slice ap np cp, .slice ax nx cx, .slice ai ni ci] 158)).drew.grownBy w5 (Value.slice (some ⟨nb, 0, none⟩) n c).ownBlock →
                ((Value.slice a5 n5 c5).ownBlock = (Value.slice (some ⟨nb, 0, none⟩) n c).ownBlock ∨ (Value.slice a5 n5 c5).ownBlock = some (w3.alloc (.cells #[.slice ap np cp, .slice ax nx cx, .slice ai ni ci] 158)).drew.heap.size) → Tf w (w5.setCell ⟨tb, 0, none⟩ (.slice a5 n5 c5)) g tb a5 n5 c5) := by
              obtain rfl := HQ.out
              intro a5 n5 c5 w5 h1 h2 h3
              refine TU.out.wN (i := ms.length) (by simp) ?_ h2 h3
              rw [HV.out]
              rw [← hnl.out]
              exact h1
            clear T3 HOW HV
            go_wp2_with fail
            go_cut [4] (fun x v => x = .int .i64 3 ∧ Hid (∃ a5 n5 c5, Tf w v g tb a5 n5 c5))
            case first =>
              go_region_law (first
                | (refine step_append_node1 rfl _ _ rfl _ n _ rfl HRW.out w3.heap.size (.slice ap np cp, .slice ax nx cx, .slice ai ni ci) ⟨rfl, rfl, rfl⟩ rfl HBN.out (by omega) tb 0 _ HU1.out HU2.out HNB.out ?_; intro a5 n5 c5 w5 hO5 hg5 ha5 hc5 hf5))
              all_goals (go_wp2_with fail; go_meet)
              all_goals exact ⟨rfl, _, _, _, HFIN.out _ _ _ _ hO5 hg5 ha5⟩
            case rest =>
              obtain ⟨rfl, HT⟩ := hcut
              obtain ⟨a5, n5, c5, hT5⟩ := HT.out
              have HT5 := hid hT5
              clear HBN HU1 HU2 HRW HNB HFIN TU m0 m1 m2 hu1 ba3 t0 HT hT5
              have e0 := HT5.out.box
              have r0 := HT5.out.res
              have rf := HT5.out.free
              have d1 := HT5.out.got
              have HFIN := hid HT5.out.fin
              clear HT5
              go_wp2
              refine bodyPost_ret (v := .agg #[.slice a5 n5 c5]) ?_ rfl ?_
              · refine results_tree1 rfl _ _ _ rfl ?_
                exact d1
              · exact HFIN.out
          · by_cases x4 : x = 4
            · subst x4
              clear F3
              by_cases hp : 0 < nx
              · have hp' : (0 : Int) < (nx : Int) := by omega
                have hpb : ∃ pb, ax = some ⟨pb, 0, none⟩ := by
                  obtain rfl := HQ.out
                  have h2 := HOW.out
                  rw [HV.out] at h2
                  obtain ⟨pb, e, _⟩ := own_first h2.2.1 (first_map z.keys Value.string (d := ⟨#[]⟩) (by rw [HNX.out]; exact hp)) (by rw [HNX.out]; exact hp)
                  exact ⟨pb, e⟩
                obtain ⟨pb, rfl⟩ := hpb
                have HC : Hid (∀ v, Ta w v g tb (some ⟨nb, 0, none⟩) n c V (ms ++ z :: l) → v.cell? ⟨tb, 0, none⟩ = some (.slice (some ⟨nb, 0, none⟩) n c) ∧ v.cell? ⟨nb, q * 3 + 1, none⟩ = some (.slice (some ⟨pb, 0, none⟩) nx cx) ∧ v.cell? ⟨pb, 0, none⟩ = some (.string (z.keys[0]?.getD ⟨#[]⟩)) ∧ v.frozen? ⟨pb, 0, none⟩ = false ∧ ∀ s, Tf w (v.setCell ⟨pb, 0, none⟩ (.string s)) g tb (some ⟨nb, 0, none⟩) n c) := by
                  obtain rfl := HQ.out
                  intro v hv
                  have hlt : ms.length < (ms ++ z :: l).length := by simp
                  have h1 := hv.nc hlt HV.out
                  have h2 := (hv.na.own _ hlt).1
                  rw [nAt_append_at, HV.out] at h2
                  obtain ⟨pb', e, d1, d2⟩ := own_first h2.2.1 (first_map z.keys Value.string (d := ⟨#[]⟩) (by rw [HNX.out]; exact hp)) (by rw [HNX.out]; exact hp)
                  cases e
                  exact ⟨hv.fr.bk.cell (j := 0) rfl, h1.c1, d1, d2 0, fun s => hv.wK HV.out (by rw [HNX.out]; exact hp) s⟩
                clear HOW HV
                go_wp2_with fail
                go_cut [4] (fun x v => x = .int .i64 4 ∧ Hid (Tf w v g tb (some ⟨nb, 0, none⟩) n c))
                case first =>
                  go_region_with (go_at_call 100; refine (key_any g _ (T3.out.below (below_drew _)).fr.cu).mono ?_; rintro e w4 ⟨⟨s, rfl, hs⟩, hg4, hc4⟩; have T4 := (T3.out.below (below_drew _)).draw hg4 hc4; have t4 := (HC.out _ T4).1; have m4 := (HC.out _ T4).2.1; have p4 := (HC.out _ T4).2.2.1; have f4 := (HC.out _ T4).2.2.2.1)
                  all_goals (go_wp2_with fail; go_meet)
                  all_goals exact ⟨rfl, (HC.out _ T4).2.2.2.2 _⟩
                case rest =>
                  obtain ⟨rfl, HT⟩ := hcut
                  clear HC T3 m0 m1 m2 t0
                  have e0 := HT.out.box
                  have r0 := HT.out.res
                  have rf := HT.out.free
                  have d1 := HT.out.got
                  have HFIN := hid HT.out.fin
                  clear HT
                  go_wp2
                  refine bodyPost_ret (v := .agg #[.slice (some ⟨nb, 0, none⟩) n c]) ?_ rfl ?_
                  · refine results_tree1 rfl _ _ _ rfl ?_
                    exact d1
                  · exact HFIN.out
              · have hp' : ¬ (0 : Int) < (nx : Int) := by omega
                have F3 := hid T3.out.tf
                clear T3 HOW HV
                have e0 := F3.out.box
                have r0 := F3.out.res
                have rf := F3.out.free
                have d1 := F3.out.got
                have HFIN := hid F3.out.fin
                clear F3
                go_wp2
                refine bodyPost_ret (v := .agg #[.slice (some ⟨nb, 0, none⟩) n c]) ?_ rfl ?_
                · refine results_tree1 rfl _ _ _ rfl ?_
                  exact d1
                · exact HFIN.out
            · by_cases x5 : x = 5
              · subst x5
                clear F3
                by_cases hp : 0 < np
                · have hp' : (0 : Int) < (np : Int) := by omega
                  have hpb : ∃ pb, ap = some ⟨pb, 0, none⟩ ∧ np ≤ cp ∧ cp ≤ 9223372036854775807 := by
                    obtain rfl := HQ.out
                    have h2 := HOW.out
                    rw [HV.out] at h2
                    obtain ⟨pb, e, _⟩ := own_first h2.1 (pcs_at z.ps 0 (by rw [HNP.out]; exact hp)).1 (by rw [HNP.out]; exact hp)
                    exact ⟨pb, e, (Rw.len (rw_own h2.1 (S := fun _ => True) (fun _ _ _ _ => trivial))).2⟩
                  obtain ⟨pb, rfl, hcp1, hcp2⟩ := hpb
                  have TD := hid (T3.out.below (below_drew _))
                  have mf0 := mf.out (q * 3)
                  have HFIN : Hid (∀ o, (o = 2 ∨ np = 1) → Tf w (w3.drew.setCell ⟨nb, q * 3, none⟩ (.slice (some ⟨pb, o, none⟩) (np - 1) (cp - 1))) g tb (some ⟨nb, 0, none⟩) n c) := by
                    obtain rfl := HQ.out
                    exact fun o ho => TD.out.wC HV.out hp o ho
                  clear HOW HV T3 TD
                  by_cases hc1 : cp = 1
                  · have hn1 : np = 1 := by omega
                    subst hc1 hn1
                    have HF := hid (HFIN.out 0 (.inr rfl))
                    clear HFIN
                    go_wp2_with fail
                    go_cut [4] (fun x v => x = .int .i64 5 ∧ Hid (Tf w v g tb (some ⟨nb, 0, none⟩) n c))
                    case first =>
                      go_region_with (fail)
                      all_goals (go_wp2_with fail; go_meet)
                      all_goals exact ⟨rfl, HF.out⟩
                    case rest =>
                      obtain ⟨rfl, HT⟩ := hcut
                      clear HF m0 m1 m2 t0
                      have e0 := HT.out.box
                      have r0 := HT.out.res
                      have rf := HT.out.free
                      have d1 := HT.out.got
                      have HFIN := hid HT.out.fin
                      clear HT
                      go_wp2
                      refine bodyPost_ret (v := .agg #[.slice (some ⟨nb, 0, none⟩) n c]) ?_ rfl ?_
                      · refine results_tree1 rfl _ _ _ rfl ?_
                        exact d1
                      · exact HFIN.out
                  · have hc1' : ¬ 1 = cp := by omega
                    have HF := hid (HFIN.out 2 (.inl rfl))
                    clear HFIN
                    go_wp2_with fail
                    go_cut [4] (fun x v => x = .int .i64 5 ∧ Hid (Tf w v g tb (some ⟨nb, 0, none⟩) n c))
                    case first =>
                      go_region_with (fail)
                      all_goals (go_wp2_with fail; go_meet)
                      all_goals exact ⟨rfl, HF.out⟩
                    case rest =>
                      obtain ⟨rfl, HT⟩ := hcut
                      clear HF m0 m1 m2 t0
                      have e0 := HT.out.box
                      have r0 := HT.out.res
                      have rf := HT.out.free
                      have d1 := HT.out.got
                      have HFIN := hid HT.out.fin
                      clear HT
                      go_wp2
                      refine bodyPost_ret (v := .agg #[.slice (some ⟨nb, 0, none⟩) n c]) ?_ rfl ?_
                      · refine results_tree1 rfl _ _ _ rfl ?_
                        exact d1
                      · exact HFIN.out
                · have hp' : ¬ (0 : Int) < (np : Int) := by omega
                  have F3 := hid T3.out.tf
                  clear T3 HOW HV
                  have e0 := F3.out.box
                  have r0 := F3.out.res
                  have rf := F3.out.free
                  have d1 := F3.out.got
                  have HFIN := hid F3.out.fin
                  clear F3
                  go_wp2
                  refine bodyPost_ret (v := .agg #[.slice (some ⟨nb, 0, none⟩) n c]) ?_ rfl ?_
                  · refine results_tree1 rfl _ _ _ rfl ?_
                    exact d1
                  · exact HFIN.out
              · clear T3 HOW HV m0 m1 m2 t0
                have e0 := F3.out.box
                have r0 := F3.out.res
                have rf := F3.out.free
                have d1 := F3.out.got
                have HFIN := hid F3.out.fin
                clear F3
                go_wp2
                refine bodyPost_ret (v := .agg #[.slice (some ⟨nb, 0, none⟩) n c]) ?_ rfl ?_
                · refine results_tree1 rfl _ _ _ rfl ?_
                  exact d1
                · exact HFIN.out
end Go.Proofs.Ytcpdedpgjaimkaa
/-
  impl.TreeOf and spec.TreeOf: the same tree.
-/
namespace Go.Proofs.Ytcpdedpgjaimkaa
open Go.RowKit
/-- t is a right root whose pairs are l. -/
structure RootI (t : T) (l : List PB) : Prop where
  inn : PutIn t.lv true t
  all : t.all = l
  ok : pOk l = true
theorem rootI_bare : RootI bareT [] := ⟨⟨.inl ⟨rfl, rfl⟩, .inr ⟨rfl, rfl⟩, List.Pairwise.nil⟩, rfl, rfl⟩
theorem RootI.good {t : T} {l : List PB} (g : RootI t l) : t.full true = true ∨ t = bareT := g.inn.full.imp id (fun h => h.2)
theorem full_bare {t : T} {r : Bool} (h : t.full r = true) : t.bare = false := by
  cases hb : t.bare with
  | false => rfl
  | true => rw [bare_iff.1 hb] at h; cases r <;> cases h
theorem RootI.okT {t : T} {l : List PB} (g : RootI t l) : okT (layT t) = some t := by
  rcases g.good with h | h
  · have hb := full_bare h
    have e : layT t = lay 0 t := by rw [layT, if_neg (by rw [hb]; simp)]
    have hl : (layT t).length ≠ 0 := by rw [e, lay_length]; have := T.size_pos t; omega
    exact (okT_good hl).2 ⟨h, ⟨_, g.inn.ev⟩, by rw [g.all]; exact g.ok, e.symm⟩
  · rw [h]; rfl
theorem RootI.put {t : T} {l : List PB} {p : PB} (g : RootI t l) (hok : pOk (l ++ [p]) = true) : RootI (rootT (putF t.lv t p)) (l ++ [p]) := by
  obtain ⟨h1, ⟨h, h2⟩, h3⟩ := rootT_full (putF_out t.lv true t p g.inn)
  have ha := pOk_asc hok
  have he : insP t.all p = l ++ [p] := by
    rw [g.all]
    have := insP_left l (B := []) (p := p) (fun x hx => (List.pairwise_append.1 ha).2.2 x hx p (by simp))
    rw [List.append_nil, insP_nil] at this
    exact this
  rw [he] at h3
  exact ⟨⟨by rw [ev_lv h _ h2]; exact h2, .inl h1, by rw [h3]; exact ha⟩, h3, hok⟩
theorem RootI.putV {t : T} {l : List PB} {p : PB} (g : RootI t l) (hok : pOk (l ++ [p]) = true) : putV (layT t) p.1 p.2 = some (layT (rootT (putF t.lv t p))) := by
  have h1 := g.put hok
  have hm := pOk_mem hok (x := p) (by simp)
  have hl := pOk_len hok
  rw [Go.Proofs.Ytcpdedpgjaimkaa.putV, g.okT]
  simp only
  rw [if_pos hm, if_neg]
  rw [show ((p.1, p.2) : PB) = p from rfl, h1.all]
  omega
theorem pOk_take {l : List PB} (h : pOk l = true) (j : Nat) : pOk (l.take j) = true := by
  have ha := pOk_asc h
  refine pOk_of (by have := pOk_len h; rw [List.length_take]; omega) (fun x hx => pOk_mem h (List.mem_of_mem_take hx)) ?_
  have := List.take_append_drop j l
  rw [← this] at ha
  exact (List.pairwise_append.1 ha).1
/-- The tree of the first j pairs. -/
def ofT (l : List PB) : Nat → T
  | 0 => bareT
  | j + 1 => rootT (putF (ofT l j).lv (ofT l j) (pAtB l j))
theorem take_pAtB {l : List PB} {j : Nat} (h : j < l.length) : l.take (j + 1) = l.take j ++ [pAtB l j] := by rw [pAtB_lt h, List.take_succ_eq_append_getElem h]
theorem ofT_root {l : List PB} (h : pOk l = true) : ∀ j, j ≤ l.length → RootI (ofT l j) (l.take j)
  | 0, _ => by simpa [ofT] using rootI_bare
  | j + 1, hj => by
    have := ofT_root h j (by omega)
    rw [take_pAtB (by omega), ofT]
    exact this.put (by rw [← take_pAtB (by omega)]; exact pOk_take h (j + 1))
theorem ofT_putV {l : List PB} (h : pOk l = true) {j : Nat} (hj : j < l.length) : putV (layT (ofT l j)) (pAtB l j).1 (pAtB l j).2 = some (layT (ofT l (j + 1))) :=
  (ofT_root h j (by omega)).putV (by rw [← take_pAtB hj]; exact pOk_take h (j + 1))
def ofV (l : List PB) : Option (List NB) := if pOk l = true then some (layT (ofT l l.length)) else none
theorem RootI.size {t : T} {l : List PB} (g : RootI t l) : t.size ≤ 201 ∧ t.ps.length + t.ks.length ≤ 8 := by
  have hs := g.inn.small
  refine ⟨?_, by omega⟩
  rcases g.good with h | h
  · have := full_root h
    have := pOk_len g.ok
    rw [g.all] at *
    omega
  · rw [h]; decide
theorem layT_smallN {t : T} {l : List PB} (g : RootI t l) : smallN (layT t) ∧ (layT t).length ≤ 1048576 := by
  obtain ⟨h1, h2⟩ := layT_small g.good (by have := g.size.1; omega)
  exact ⟨fun i hi => by have := h1 i hi; omega, by omega⟩
def OfPost (o : Option (List NB)) (w : World) (e : Ending) (w' : World) : Prop := ∃ a n c, e = .returned (.tuple #[.agg #[.slice a n c], .bool o.isSome]) ∧ NewN w w' (.slice a n c) (o.getD []) ∧ Below w.heap.size w w'
theorem ofV_small (l : List PB) : smallK ((ofV l).getD []) ∧ ((ofV l).getD []).length ≤ 100000 := by
  unfold ofV
  split
  · rename_i h
    have g := ofT_root h l.length (Nat.le_refl _)
    exact layT_small g.good (by have := g.size.1; omega)
  · exact ⟨fun i hi => by simp at hi, by simp⟩
end Go.Proofs.Ytcpdedpgjaimkaa
/-
  DrawTreeOf: some pairs that are not too many.
-/
namespace Go.Proofs.Ytcpdedpgjaimkaa
open Go.RowKit
theorem bthn {u v w : World} (h : Below u.heap.size u v) (k : Below v.heap.size v w) : Below u.heap.size u w := h.trans (k.mono h.size)
theorem below_grown1 {u w w' : World} {X : Nat} (h : Below u.heap.size u w) (hg : w.grownBy w' (some X)) (hX : u.heap.size ≤ X) : Below u.heap.size u w' :=
  ⟨hg.os.trans h.os, hg.tape.trans h.tape, hg.output.trans h.output, Nat.le_trans h.size hg.size, fun i hi => (hg.block i (Nat.lt_of_lt_of_le hi h.size) (by intro e; cases e; omega)).trans (h.block i hi)⟩
theorem own_base {w : World} {base : Nat} {e : TypeId} {size n : Nat} {v : Value} {xs : List Value} (h : w.ownsRow base e size v n xs) (k : Nat) (hk : v.ownBlock = some k) : base ≤ k := by
  rcases h.2 with ⟨rfl, _⟩ | ⟨g, cap, cur, rfl, hb, _⟩
  · cases hk
  · cases hk; exact hb
theorem grown_refl (w : World) (row : Option Nat) : w.grownBy w row := ⟨rfl, rfl, rfl, Nat.le_refl _, fun _ _ _ => rfl⟩
/-- The first pair is written over. -/
theorem Ow.set0 {w : World} {base : Nat} {a : Option Addr} {n c : Nat} {l : List PB} (h : Ow w base (.slice a n c) l) (hp : 0 < n) (p : PB) : ∃ b, a = some ⟨b, 0, none⟩ ∧ base ≤ b ∧ (∀ o, w.frozen? ⟨b, o, none⟩ = false) ∧ Pr ((w.setCell ⟨b, 0, none⟩ (.string p.1)).setCell ⟨b, 1, none⟩ (.string p.2)) (fun _ => True) (.slice a n c) (l.set 0 p) := by
  rcases h.2 with ⟨e, _⟩ | ⟨g, cap, cur, e, hb, hg, h1, h2, h3, h4⟩
  · cases e; omega
  cases e
  have hk : Bk w g 33 cur.toList := by show w.heap[g]? = _; rw [hg]
  refine ⟨g, rfl, hb, fun o => hk.free o, ?_⟩
  have hk2 := (hk.set 0 (.string p.1)).set 1 (.string p.2)
  show Rw _ _ _ (l.set 0 p).length _
  rw [List.length_set]
  refine ⟨_, _, rfl, h1, h2, fun h0 => by omega, fun h => by (cases h), fun _ => ⟨g, 0, rfl, hk2.lt, trivial, fun j u hu => ?_⟩⟩
  rw [Nat.zero_add]
  refine hk2.cell ?_
  rw [pcs_set l p 0 hp] at hu
  have hh : pcs l = cur.toList.take (l.length * 2) := h4.symm
  rw [hh, ← List.take_set, ← List.take_set, List.getElem?_take] at hu
  split at hu
  · exact hu
  · cases hu
/-- Some pairs in an owned row of their own. -/
def ListPost (w : World) (e : Ending) (w' : World) : Prop := ∃ a n c l, e = .returned (.slice a n c) ∧ Pr w' (fun _ => True) (.slice a n c) l ∧ l.length ≤ 200 ∧ Below w.heap.size w w'
end Go.Proofs.Ytcpdedpgjaimkaa
/-
  DrawTreeAll, DrawTreeDrop: some small list of nodes, some key.
-/
namespace Go.Proofs.Ytcpdedpgjaimkaa
open Go.RowKit
theorem Bk.grown {v v' : World} {b g : Nat} {T : TypeId} {vs : List Value} (h : Bk v b T vs) (hg : v.grownBy v' (some g)) (hne : b ≠ g) : Bk v' b T vs := h.to (only_of_grown hg (R := fun y => y = g) (fun k e => by cases e; rfl)) hne
/-- A cursor g and a tree's box tb behind it; the tree's rows lie in other blocks behind g. -/
structure Dd (w v : World) (g tb : Nat) (a : Option Addr) (n c : Nat) (ns : List NB) : Prop where
  be : Below w.heap.size w v
  cu : Cu v g
  bk : Bk v tb 25 [.slice a n c]
  nr : Nr v (fun y => g < y ∧ y ≠ tb) (.slice a n c) ns
  sm : smallN ns ∧ ns.length ≤ 1048576
  ng : w.heap.size ≤ g
  nb : g < tb
theorem Dd.draw {w v v' : World} {g tb : Nat} {a : Option Addr} {n c : Nat} {ns : List NB} (h : Dd w v g tb a n c ns) (hg : v.grownBy v' (some g)) (hc : Cu v' g) : Dd w v' g tb a n c ns :=
  ⟨below_grown1 h.be hg h.ng, hc, h.bk.grown hg (by have := h.nb; omega), h.nr.to (only_of_grown hg (R := fun y => y = g) (fun k e => by cases e; rfl)) (fun y hy _ e => by have := hy.1; omega), h.sm, h.ng, h.nb⟩
theorem Dd.below {w v v' : World} {g tb : Nat} {a : Option Addr} {n c : Nat} {ns : List NB} (h : Dd w v g tb a n c ns) (hb : Below v.heap.size v v') : Dd w v' g tb a n c ns :=
  ⟨bthn h.be hb, h.cu.below hb, h.bk.below hb, h.nr.below hb, h.sm, h.ng, h.nb⟩
theorem Dd.new {w w1 w2 : World} {g : Nat} {a : Option Addr} {n c : Nat} {ns : List NB} (hb : Below w.heap.size w w1) (hg1 : g < w1.heap.size) (hw : w.heap.size ≤ g) (hg : w1.grownBy w2 (some g)) (hc : Cu w2 g) (hN : Nr w2 (fun y => w1.heap.size ≤ y) (.slice a n c) ns) (hs : smallN ns ∧ ns.length ≤ 1048576) : Dd w (w2.alloc (.cells #[.slice a n c] 25)) g w2.heap.size a n c ns := by
  have hz := hg.size
  exact ⟨bthn (below_grown1 hb hg hw) (below_alloc _ _), hc.alloc _, Bk.new w2 25 [.slice a n c], (hN.mono (R := fun y => g < y ∧ y ≠ w2.heap.size) (fun y hy hl => ⟨by omega, by omega⟩)).below (below_alloc _ _), hs, hw, by omega⟩
theorem Dd.fin {w v : World} {g tb b : Nat} {a : Option Addr} {n c : Nat} {ns : List NB} (h : Dd w v g tb a n c ns) (hb : b < g) (hw : w.heap.size ≤ b) (o : Nat) (u : Value) : Nr (v.setCell ⟨b, o, none⟩ u) (fun _ => True) (.slice a n c) ns ∧ Below w.heap.size w (v.setCell ⟨b, o, none⟩ u) :=
  ⟨(h.nr.to (only_set (R := fun y => y = b) rfl _) (fun y hy _ e => by have := hy.1; omega)).mono (fun _ _ _ => trivial), h.be.setCell hw _⟩
def DaPost (w : World) (e : Ending) (w' : World) : Prop := ∃ a n c ns, e = .returned (.agg #[.slice a n c]) ∧ Nr w' (fun _ => True) (.slice a n c) ns ∧ (smallN ns ∧ ns.length ≤ 1048576) ∧ Below w.heap.size w w'
def DkPost (w : World) (e : Ending) (w' : World) : Prop := ∃ a n c ns k, e = .returned (.tuple #[.agg #[.slice a n c], .string k]) ∧ Nr w' (fun _ => True) (.slice a n c) ns ∧ (smallN ns ∧ ns.length ≤ 1048576) ∧ Below w.heap.size w w'
end Go.Proofs.Ytcpdedpgjaimkaa
/-
  DrawTreeScan: some small list of nodes, some range.
-/
namespace Go.Proofs.Ytcpdedpgjaimkaa
open Go.RowKit
theorem results_ts {fn : Func} {p q u x : Tmp} (h : fn.results = #[.cell p 25, .cell q 27, .tmp u, .tmp x]) (tmps : Array Value) (w : World) (g1 g2 : Nat) {y b c : Value} {lo hi : ByteArray} (hp : tmps.getD p undef = .pointer (some ⟨g1, 0, none⟩)) (hq : tmps.getD q undef = .pointer (some ⟨g2, 0, none⟩)) (hb : tmps.getD u undef = b) (hc : tmps.getD x undef = c)
    (c0 : w.cell? ⟨g1, 0, none⟩ = some y) (d0 : w.cell? ⟨g2, 0, none⟩ = some (.string lo)) (d1 : w.cell? ⟨g2, 1, none⟩ = some (.string hi)) : (results fn tmps).run Try.prog w = .ok (.tuple #[.agg #[y], .agg #[.string lo, .string hi], b, c]) w := by
  have hp' : tmps[p]?.getD undef = .pointer (some ⟨g1, 0, none⟩) := by simpa using hp
  have hq' : tmps[q]?.getD undef = .pointer (some ⟨g2, 0, none⟩) := by simpa using hq
  have hb' : tmps[u]?.getD undef = b := by simpa using hb
  have hc' : tmps[x]?.getD undef = c := by simpa using hc
  have hl : (loadVar 25 ⟨g1, 0, none⟩).run Try.prog w = .ok (.agg #[y]) w := by go_simp
  have hr : (loadVar 27 ⟨g2, 0, none⟩).run Try.prog w = .ok (.agg #[.string lo, .string hi]) w := load_rng d0 d1
  simp [results, h, hp', hq', hb', hc', asAddr, hl, hr, Result.andThen]
def DsPost (w : World) (e : Ending) (w' : World) : Prop := ∃ a n c ns lo hi x y, e = .returned (.tuple #[.agg #[.slice a n c], .agg #[.string lo, .string hi], x, y]) ∧ Nr w' (fun _ => True) (.slice a n c) ns ∧ (smallN ns ∧ ns.length ≤ 1048576) ∧ Below w.heap.size w w'
set_option maxHeartbeats 4000000 in
set_option maxRecDepth 20000 in
theorem drawTreeScan_any (a : Option Addr) (n c : Nat) (zs : List Int) (w : World) (h : Rd w a n c zs) (hl : n ≤ 1048576) :
    Calls Try.prog 8 #[.slice a n c] w fun e w' => DsPost w e w' := by
  have ba0 := thn2 (below_alloc w (.cells #[.slice none 0 0] 25)) (below_alloc _ (.cells #[.string ⟨#[]⟩, .string ⟨#[]⟩] 27))
  have B0 := hid ba0
  have K0 : Hid (Bk ((w.alloc (.cells #[.slice none 0 0] 25)).alloc (.cells #[.string ⟨#[]⟩, .string ⟨#[]⟩] 27)) w.heap.size 25 [.slice none 0 0]) := (Bk.new w 25 [.slice none 0 0]).alloc _
  have R0 : Hid (Bk ((w.alloc (.cells #[.slice none 0 0] 25)).alloc (.cells #[.string ⟨#[]⟩, .string ⟨#[]⟩] 27)) (w.heap.size + 1) 27 [.string ⟨#[]⟩, .string ⟨#[]⟩]) := by
    have := Bk.new (w.alloc (.cells #[.slice none 0 0] 25)) 27 [.string ⟨#[]⟩, .string ⟨#[]⟩]
    show Bk _ _ _ _
    simpa using this
  have HR := hid (h.kept ba0)
  have HG : Hid (w.heap.size + 1 < ((w.alloc (.cells #[.slice none 0 0] 25)).alloc (.cells #[.string ⟨#[]⟩, .string ⟨#[]⟩] 27)).heap.size) := by show _ < _; simp
  clear h ba0
  go_enter Try.func8, Try.ntmps8
  go_wp2_with fail
  refine (new_any a n c zs _ HR.out hl).mono ?_
  generalize (w.alloc (.cells #[.slice none 0 0] 25)).alloc (.cells #[.string ⟨#[]⟩, .string ⟨#[]⟩] 27) = w0 at *
  rintro e w1 ⟨rfl, hb1, hc1⟩
  have HB1 := hid (bthn B0.out hb1)
  have K1 := hid (K0.out.below hb1)
  have R1 := hid (R0.out.below hb1)
  have HC1 := hid hc1
  have HGL := hid hc1.lt
  clear hb1 hc1 B0 K0 R0 HR
  generalize w0.heap.size = g at *
  clear w0
  have HNE : Hid (w.heap.size ≠ g ∧ w.heap.size + 1 ≠ g) := by have := HG.out; exact ⟨by omega, by omega⟩
  go_wp2_with fail
  refine (anyT_any g _ HC1.out).mono ?_
  rintro e w2 ⟨ta, tn, tc, ns, rfl, hg2, hc2, hN2, hs2⟩
  have D := hid (Dd.new HB1.out HGL.out (by have := HG.out; omega) hg2 hc2 hN2 hs2)
  have K2 : Hid (Bk _ w.heap.size 25 [.slice none 0 0]) := (K1.out.grown hg2 HNE.out.1).alloc (.cells #[.slice ta tn tc] 25)
  have R2 : Hid (Bk _ (w.heap.size + 1) 27 [.string ⟨#[]⟩, .string ⟨#[]⟩]) := (R1.out.grown hg2 HNE.out.2).alloc (.cells #[.slice ta tn tc] 25)
  clear hg2 hc2 hN2 hs2 HB1 K1 R1 HC1 HGL
  go_wp2_with fail
  refine (anyRange_any g _ D.out.cu).mono ?_
  generalize w2.alloc (.cells #[.slice ta tn tc] 25) = U2 at *
  generalize w2.heap.size = tb at *
  rintro e w3 ⟨⟨lo, hi, rfl⟩, hg3, hc3⟩
  have ba3 := below_alloc w3 (.cells #[.string lo, .string hi] 27)
  have D3 := hid ((D.out.draw hg3 hc3).below ba3)
  have K3 := hid ((K2.out.grown hg3 HNE.out.1).below ba3)
  have R3 := hid ((R2.out.grown hg3 HNE.out.2).below ba3)
  have X3 := hid (Bk.new w3 27 [.string lo, .string hi])
  have HXG : Hid (g < w3.heap.size) := (D.out.draw hg3 hc3).cu.lt
  clear hg3 hc3 D K2 R2 ba3
  go_wp2_with fail
  refine (below_any g 9 _ D3.out.cu (by omega) (by omega)).mono ?_
  generalize w3.alloc (.cells #[.string lo, .string hi] 27) = U3 at *
  generalize w3.heap.size = xb at *
  have HXN : Hid (xb ≠ g) := by have := HXG.out; show _ ≠ _; omega
  rintro e w4 ⟨⟨m0, rfl, hm0, hm1⟩, hg4, hc4⟩
  have D4 := hid (D3.out.draw hg4 hc4)
  have K4 := hid (K3.out.grown hg4 HNE.out.1)
  have R4 := hid (R3.out.grown hg4 HNE.out.2)
  have X4 := hid (X3.out.grown hg4 HXN.out)
  clear hg4 hc4 D3 K3 R3 X3
  go_wp2_with fail
  refine (below_any g 6 _ D4.out.cu (by omega) (by omega)).mono ?_
  rintro e w5 ⟨⟨x, rfl, hx0, hx1⟩, hg5, hc5⟩
  have D5 := hid (D4.out.draw hg5 hc5)
  have K5 := hid (K4.out.grown hg5 HNE.out.1)
  have R5 := hid (R4.out.grown hg5 HNE.out.2)
  have X5 := hid (X4.out.grown hg5 HXN.out)
  clear hg5 hc5 D4 K4 R4 X4
  have HFIN : Hid (∀ (u : World) (y z : Value), Dd w u g tb ta tn tc ns → DsPost w (.returned (.tuple #[.agg #[.slice ta tn tc], .agg #[.string lo, .string hi], y, z])) (((u.setCell ⟨w.heap.size, 0, none⟩ (.slice ta tn tc)).setCell ⟨w.heap.size + 1, 0, none⟩ (.string lo)).setCell ⟨w.heap.size + 1, 1, none⟩ (.string hi))) := by
    intro u y z hD
    have hg := HG.out
    have ho : Only (fun y => y = w.heap.size ∨ y = w.heap.size + 1) u (((u.setCell ⟨w.heap.size, 0, none⟩ (.slice ta tn tc)).setCell ⟨w.heap.size + 1, 0, none⟩ (.string lo)).setCell ⟨w.heap.size + 1, 1, none⟩ (.string hi)) := (only_set (R := fun y => y = w.heap.size ∨ y = w.heap.size + 1) (.inl rfl) _).trans ((only_set (R := fun y => y = w.heap.size ∨ y = w.heap.size + 1) (.inr rfl) _).trans (only_set (R := fun y => y = w.heap.size ∨ y = w.heap.size + 1) (.inr rfl) _))
    refine ⟨_, _, _, ns, lo, hi, y, z, rfl, (hD.nr.to ho (fun y hy _ e => by have := hy.1; omega)).mono (fun _ _ _ => trivial), hD.sm, ?_⟩
    exact ((hD.be.setCell (p := ⟨w.heap.size, 0, none⟩) (Nat.le_refl _) _).setCell (p := ⟨w.heap.size + 1, 0, none⟩) (Nat.le_succ _) _).setCell (p := ⟨w.heap.size + 1, 1, none⟩) (Nat.le_succ _) _
  obtain ⟨n0, n1, n2, n3⟩ : ¬ w.heap.size = xb ∧ ¬ w.heap.size + 1 = xb ∧ ¬ w.heap.size = tb ∧ ¬ w.heap.size + 1 = tb := by
    have h1 := HG.out
    have h2 := HXG.out
    have h3 := D5.out.nb
    exact ⟨by omega, by omega, by omega, by omega⟩
  have m0' := Ne.symm n0
  have m1' := Ne.symm n1
  have m2' := Ne.symm n2
  have m3' := Ne.symm n3
  by_cases hx : x = 0
  · subst hx
    go_wp2_with fail
    refine (raw_cu g _ D5.out.cu).mono ?_
    rintro e w6 ⟨⟨mm, rfl, hmm⟩, hg6, hc6⟩
    have D6 := hid ((D5.out.draw hg6 hc6).below (below_drew _))
    have K6 := hid ((K5.out.grown hg6 HNE.out.1).below (below_drew _))
    have R6 := hid ((R5.out.grown hg6 HNE.out.2).below (below_drew _))
    have X6 := hid ((X5.out.grown hg6 HXN.out).below (below_drew _))
    clear hg6 hc6 D5 K5 R5 X5 hmm
    have t6 := D6.out.bk.cell (j := 0) rfl
    have x6 := X6.out.cell (j := 0) rfl
    have x7 := X6.out.cell (j := 1) rfl
    go_wp2_with fail
    go_region_with (go_at_call 39; refine (below_any g 2 _ D6.out.cu (by omega) (by omega)).mono ?_; rintro e w8 ⟨⟨q, rfl, hq0, hq1⟩, hg8, hc8⟩; have D8 := D6.out.draw hg8 hc8; have K8 := K6.out.grown hg8 HNE.out.1; have R8 := R6.out.grown hg8 HNE.out.2; have X8 := X6.out.grown hg8 HXN.out; have t8 := D8.bk.cell (j := 0) rfl; have y8 := X8.cell (j := 0) rfl; have z8 := X8.cell (j := 1) rfl; have k8 := K8.cell (j := 0) rfl; have l8 := K8.free 0; have r8 := R8.cell (j := 0) rfl; have s8 := R8.cell (j := 1) rfl; have u8 := R8.free 0; have v8 := R8.free 1)
    all_goals
      have HF := hid (fun y z => HFIN.out _ y z D8)
      clear D8 K8 R8 X8 HFIN D6 K6 R6 X6 hg8 hc8
      go_wp2
      refine bodyPost_ret (results_ts (y := .slice ta tn tc) (lo := lo) (hi := hi) rfl _ _ _ _ rfl rfl rfl rfl (by go_simp) (by go_simp) (by go_simp)) rfl ?_
      exact HF.out _ _
  · have D6 := hid (D5.out.below (below_drew _))
    have K6 := hid (K5.out.below (below_drew _))
    have R6 := hid (R5.out.below (below_drew _))
    have X6 := hid (X5.out.below (below_drew _))
    clear D5 K5 R5 X5
    have t6 := D6.out.bk.cell (j := 0) rfl
    have x6 := X6.out.cell (j := 0) rfl
    have x7 := X6.out.cell (j := 1) rfl
    go_wp2_with fail
    go_region_with (go_at_call 39; refine (below_any g 2 _ D6.out.cu (by omega) (by omega)).mono ?_; rintro e w8 ⟨⟨q, rfl, hq0, hq1⟩, hg8, hc8⟩; have D8 := D6.out.draw hg8 hc8; have K8 := K6.out.grown hg8 HNE.out.1; have R8 := R6.out.grown hg8 HNE.out.2; have X8 := X6.out.grown hg8 HXN.out; have t8 := D8.bk.cell (j := 0) rfl; have y8 := X8.cell (j := 0) rfl; have z8 := X8.cell (j := 1) rfl; have k8 := K8.cell (j := 0) rfl; have l8 := K8.free 0; have r8 := R8.cell (j := 0) rfl; have s8 := R8.cell (j := 1) rfl; have u8 := R8.free 0; have v8 := R8.free 1)
    all_goals
      have HF := hid (fun y z => HFIN.out _ y z D8)
      clear D8 K8 R8 X8 HFIN D6 K6 R6 X6 hg8 hc8
      go_wp2
      refine bodyPost_ret (results_ts (y := .slice ta tn tc) (lo := lo) (hi := hi) rfl _ _ _ _ rfl rfl rfl rfl (by go_simp) (by go_simp) (by go_simp)) rfl ?_
      exact HF.out _ _
end Go.Proofs.Ytcpdedpgjaimkaa
/-
  spec.TreeGet, impl.TreeGet: the same.
-/
namespace Go.Proofs.Ytcpdedpgjaimkaa
open Go.RowKit
def getV (ns : List NB) (k : ByteArray) : Option ByteArray := if kOk k = true then fnd (alV ns) k else none
theorem okT_get {ns : List NB} {t : T} (h : okT ns = some t) : GetOk t := by
  have hf := okT_facts h
  by_cases hne : ns.length = 0
  · rw [hf.nil hne]
    exact ⟨List.Pairwise.nil, fun h => absurd rfl h, by decide⟩
  · exact full_getOk ((okT_good hne).1 h).full (pOk_asc hf.ok)
def fndF (l : List PB) (k : ByteArray) : Nat → Nat → Option ByteArray
  | 0, _ => none
  | f + 1, j => if (pAtB l j).1 = k then some (pAtB l j).2 else fndF l k f (j + 1)
theorem fndF_eq (l : List PB) (k : ByteArray) : ∀ (f j : Nat), j + f = l.length → fndF l k f j = fnd (l.drop j) k
  | 0, j, h => by rw [List.drop_eq_nil_of_le (by omega)]; rfl
  | f + 1, j, h => by
    rw [fndF, ← List.getElem_cons_drop (by omega : j < l.length), fnd, List.findSome?_cons, pAtB_lt (by omega)]
    by_cases e : l[j].1 = k
    · simp [e]
    · simp only [e, if_false]
      exact fndF_eq l k f (j + 1) (by omega)
end Go.Proofs.Ytcpdedpgjaimkaa
/-
  spec.Depth, impl.Depth: the same.
-/
namespace Go.Proofs.Ytcpdedpgjaimkaa
open Go.RowKit
theorem below_drewN (w : World) (q : Nat) : Below w.heap.size w (w.drewN q) := ⟨rfl, rfl, rfl, Nat.le_refl _, fun _ _ => rfl⟩
def dpV (ns : List NB) : Int := match okT ns with | none => -1 | some t => t.dpt
end Go.Proofs.Ytcpdedpgjaimkaa
/-
  Plain facts of trees for the laws.
-/
namespace Go.Proofs.Ytcpdedpgjaimkaa
open Go.RowKit
theorem TreePost.nr {o : Option (List NB)} {w w' : World} {v : Value} (h : TRow w w' v (o.getD [])) : Nr w' (fun _ => True) v (o.getD []) := by
  obtain ⟨V, h1, _⟩ := h
  exact h1.nr (fun _ _ => trivial)
theorem RootI.alV {t : T} {l : List PB} (g : RootI t l) : alV (layT t) = l := by rw [Go.Proofs.Ytcpdedpgjaimkaa.alV, g.okT]; exact g.all
theorem RootI.dpV {t : T} {l : List PB} (g : RootI t l) : dpV (layT t) = t.dpt := by rw [Go.Proofs.Ytcpdedpgjaimkaa.dpV, g.okT]
theorem RootI.deep {t : T} {l : List PB} (g : RootI t l) : (t.dpt = 0 ↔ l.length = 0) ∧ t.dpt ≤ 13 ∧ (2 ≤ t.dpt → 2 ^ (t.dpt - 1) ≤ l.length) := by
  have hlen := pOk_len g.ok
  rcases g.good with h | h
  · have hb := full_bare h
    have hd : t.dpt = t.lv := by rw [T.dpt, hb]; rfl
    have he := g.inn.ev
    have h1 := ev_size _ _ _ he h
    have h2 := full_root h
    have h3 := T.size_pos t
    rw [g.all] at h2
    rw [hd]
    have h13 : t.lv ≤ 13 := by
      rcases Nat.lt_or_ge 13 t.lv with h | h
      · have : 2 ^ 14 ≤ 2 ^ t.lv := Nat.pow_le_pow_right (by omega) h
        omega
      · exact h
    refine ⟨⟨fun e => ?_, fun e => by omega⟩, h13, fun e => ?_⟩
    · exfalso
      rw [e] at he
      cases t
      exact he
    · obtain ⟨m, hm⟩ : ∃ m, t.lv = m + 1 := ⟨t.lv - 1, by omega⟩
      rw [hm] at h1 ⊢
      rw [Nat.pow_succ] at h1
      simp only [Nat.add_sub_cancel]
      have : 1 ≤ 2 ^ m := Nat.one_le_two_pow
      omega
  · have ha := g.all
    rw [h] at ha
    rw [h]
    have : l = [] := ha.symm
    subst this
    exact ⟨⟨fun _ => rfl, fun _ => rfl⟩, by decide, fun h => absurd h (by decide)⟩
theorem okT_root {ns : List NB} {t : T} (h : okT ns = some t) : RootI t t.all := ⟨okT_putIn h, rfl, (okT_facts h).ok⟩
end Go.Proofs.Ytcpdedpgjaimkaa
/-
  A scan: the pairs of a list in a range, from the first on or from the last on, as many as there is room for. Nothing here speaks of the program.
-/
namespace Go.Proofs.Ytcpdedpgjaimkaa
open Go.RowKit
def dirL (back : Bool) (l : List PB) : List PB := if back = true then l.reverse else l
/-- What a scan tells. -/
def scV (l : List PB) (lo hi : ByteArray) (most : Int) (back : Bool) : List PB := ((dirL back l).filter fun p => rHas lo hi p.1).take most.toNat
def scJ (l : List PB) (lo hi : ByteArray) (most : Int) (back : Bool) (j : Nat) : List PB := (((dirL back l).take j).filter fun p => rHas lo hi p.1).take most.toNat
theorem dirL_length (back : Bool) (l : List PB) : (dirL back l).length = l.length := by cases back <;> simp [dirL]
theorem dirL_at (l : List PB) (j : Nat) (h : j < l.length) : pAtB (dirL true l) j = pAtB l (l.length - 1 - j) := by
  rw [pAtB_lt (by rw [dirL_length]; exact h), pAtB_lt (by omega)]
  simp [dirL]
theorem scJ_end (l : List PB) (lo hi : ByteArray) (most : Int) (back : Bool) : scJ l lo hi most back l.length = scV l lo hi most back := by
  have e : (dirL back l).take l.length = dirL back l := List.take_of_length_le (by rw [dirL_length]; exact Nat.le_refl _)
  rw [scJ, e]
  rfl
theorem scJ_le (l : List PB) (lo hi : ByteArray) (most : Int) (back : Bool) (j : Nat) : (scJ l lo hi most back j).length ≤ l.length := by
  rw [scJ, List.length_take]
  refine Nat.le_trans (Nat.min_le_right _ _) (Nat.le_trans (List.length_filter_le _ _) ?_)
  rw [List.length_take, dirL_length]
  omega
theorem scJ_step (l : List PB) (lo hi : ByteArray) (most : Int) (back : Bool) (j : Nat) (h : j < l.length) : scJ l lo hi most back (j + 1) =
    if ((scJ l lo hi most back j).length : Int) < most ∧ rHas lo hi (pAtB (dirL back l) j).1 = true then scJ l lo hi most back j ++ [pAtB (dirL back l) j] else scJ l lo hi most back j := by
  have hj : j < (dirL back l).length := by rw [dirL_length]; exact h
  have e : (dirL back l).take (j + 1) = (dirL back l).take j ++ [pAtB (dirL back l) j] := by rw [List.take_succ_eq_append_getElem hj, pAtB_lt hj]
  unfold scJ
  rw [e, List.filter_append]
  generalize ((dirL back l).take j).filter (fun p => rHas lo hi p.1) = X
  cases hp : rHas lo hi (pAtB (dirL back l) j).1 with
  | false => simp [hp]
  | true =>
    simp only [List.filter_cons, hp, if_true, List.filter_nil, and_true, List.length_take]
    by_cases hx : X.length < most.toNat
    · rw [if_pos (by omega), List.take_of_length_le (by simp; omega), List.take_of_length_le (by omega)]
    · rw [if_neg (by omega), List.take_append_of_le_length (by omega)]
end Go.Proofs.Ytcpdedpgjaimkaa
/-
  Plain facts of trees for the laws: what is found behind a put and behind a drop.
-/
namespace Go.Proofs.Ytcpdedpgjaimkaa
open Go.RowKit
theorem fnd_cons (x : PB) (l : List PB) (k : ByteArray) : fnd (x :: l) k = if x.1 = k then some x.2 else fnd l k := by
  rw [fnd, List.findSome?_cons]
  by_cases e : x.1 = k
  · simp [e]
  · simp [e, fnd]
theorem fnd_insP (l : List PB) (p : PB) : fnd (insP l p) p.1 = some p.2 := by
  induction l with
  | nil => rw [insP_nil, fnd_cons, if_pos rfl]
  | cons x l ih =>
    cases hk : klt x.1 p.1 with
    | true => rw [insP_lt hk, fnd_cons, if_neg (klt_ne hk), ih]
    | false =>
      by_cases e : x.1 = p.1
      · rw [insP_eq e, fnd_cons, if_pos rfl]
      · rw [insP_gt hk e, fnd_cons, if_pos rfl]
theorem fnd_insP_ne (l : List PB) (p : PB) (q : ByteArray) (h : q ≠ p.1) : fnd (insP l p) q = fnd l q := by
  induction l with
  | nil => rw [insP_nil, fnd_cons, if_neg (Ne.symm h)]
  | cons x l ih =>
    cases hk : klt x.1 p.1 with
    | true => rw [insP_lt hk, fnd_cons, fnd_cons, ih]
    | false =>
      by_cases e : x.1 = p.1
      · rw [insP_eq e, fnd_cons, fnd_cons, if_neg (Ne.symm h), if_neg (by rw [e]; exact Ne.symm h)]
      · rw [insP_gt hk e, fnd_cons, if_neg (Ne.symm h)]
theorem insP_count {l : List PB} (p : PB) (ha : Asc l) : (insP l p).length = l.length + if (fnd l p.1).isSome = true then 0 else 1 := by
  induction l with
  | nil => rw [insP_nil]; rfl
  | cons x l ih =>
    obtain ⟨h1, h2⟩ := List.pairwise_cons.1 ha
    cases hk : klt x.1 p.1 with
    | true => rw [insP_lt hk, fnd_cons, if_neg (klt_ne hk), List.length_cons, ih h2, List.length_cons]; omega
    | false =>
      by_cases e : x.1 = p.1
      · rw [insP_eq e, fnd_cons, if_pos e]; rfl
      · have hlt : klt p.1 x.1 = true := by
          cases hq : klt p.1 x.1 with
          | true => rfl
          | false => exact absurd (key_eq hk hq) e
        have hn : fnd (x :: l) p.1 = none := fnd_none (fun y hy => by
          rcases List.mem_cons.1 hy with rfl | hy
          · exact e
          · exact (klt_ne (klt_trans hlt (h1 y hy))).symm)
        rw [insP_gt hk e, hn]; rfl
theorem mem_fnd {l : List PB} (ha : Asc l) {p : PB} (hp : p ∈ l) : fnd l p.1 = some p.2 := by
  induction l with
  | nil => cases hp
  | cons x l ih =>
    obtain ⟨h1, h2⟩ := List.pairwise_cons.1 ha
    rw [fnd_cons]
    rcases List.mem_cons.1 hp with rfl | hp
    · rw [if_pos rfl]
    · rw [if_neg (klt_ne (h1 p hp)), ih h2 hp]
theorem fnd_delP {l : List PB} (k : ByteArray) (ha : Asc l) : fnd (delP l k) k = none := by
  rw [← delS_eq ha]
  refine fnd_none (fun p hp => ?_)
  have := (List.mem_filter.1 hp).2
  exact of_decide_eq_true this
theorem RootI.ins {t : T} {l : List PB} {p : PB} (g : RootI t l) (hp : kOk p.1 = true ∧ vOk p.2 = true) (hl : (rootT (putF t.lv t p)).all.length ≤ 200) : RootI (rootT (putF t.lv t p)) (insP l p) := by
  obtain ⟨h1, ⟨h, h2⟩, h3⟩ := rootT_full (putF_out t.lv true t p g.inn)
  rw [g.all] at h3
  have ha : Asc (insP l p) := insP_asc (pOk_asc g.ok)
  rw [h3] at hl
  refine ⟨⟨by rw [ev_lv h _ h2]; exact h2, .inl h1, by rw [h3]; exact ha⟩, h3, pOk_of hl (fun x hx => ?_) ha⟩
  rcases insP_mem hx with rfl | hx
  · exact hp
  · exact pOk_mem g.ok hx
theorem RootI.del {t : T} {l : List PB} (g : RootI t l) (k : ByteArray) : RootI (rootD (dropF t.lv t k)) (delP l k) := by
  obtain ⟨h1, ⟨h, h2⟩, h3⟩ := rootD_out (k := k) g.inn
  rw [g.all] at h3
  exact ⟨⟨by rw [ev_lv h _ h2]; exact h2, h1.imp id (fun h => ⟨rfl, h⟩), by rw [h3]; exact delP_asc (pOk_asc g.ok)⟩, h3, pOk_del g.ok⟩
theorem rootD_lv {h : Nat} {t : T} {k : ByteArray} (g : PutIn h true t) : (rootD (dropF h t k)).lv ≤ h := by
  obtain ⟨h1, _⟩ := dropF_out h true t k g
  have he := h1.ev
  generalize dropF h t k = y at *
  obtain ⟨ps, ks⟩ := y
  have er : rootD (.mk ps ks) = if ks.length = 1 then tAt ks 0 else .mk ps ks := rfl
  rw [er]
  split
  · rename_i e
    cases h with
    | zero => exact he.elim
    | succ h =>
      rcases he with ⟨e2, _⟩ | ⟨_, e2⟩
      · subst e2; simp at e
      · rw [ev_lv h _ (e2 _ (tAt_mem (by omega)))]; omega
  · rw [ev_lv h _ he]; exact Nat.le_refl _
theorem dpt_le (t : T) : t.dpt ≤ t.lv := by
  rw [T.dpt]; split
  · exact Nat.zero_le _
  · exact Nat.le_refl _
theorem RootI.shallow {t : T} {l : List PB} (g : RootI t l) (k : ByteArray) : (rootD (dropF t.lv t k)).dpt ≤ t.dpt := by
  rcases g.good with h | h
  · have hd : t.dpt = t.lv := by rw [T.dpt, full_bare h]; rfl
    rw [hd]
    exact Nat.le_trans (dpt_le _) (rootD_lv g.inn)
  · have hl : l = [] := by rw [← g.all, h]; rfl
    subst hl
    have := (g.del k).deep.1.2 (by rw [delP_nil]; rfl)
    omega
/-- What a put gives, where it gives something. -/
structure PutF (l : List PB) (k v : ByteArray) (ms : List NB) : Prop where
  small : smallN ms ∧ ms.length ≤ 1048576
  ok : (Go.Proofs.Ytcpdedpgjaimkaa.okT ms).isSome = true
  got : getV ms k = some v
  all : (alV ms).length = l.length + if (fnd l k).isSome = true then 0 else 1
  others : ∀ i, i < l.length → (pAtB l i).1 ≠ k → getV ms (pAtB l i).1 = some (pAtB l i).2
theorem pAtB_mem {l : List PB} {i : Nat} (h : i < l.length) : pAtB l i ∈ l := by rw [pAtB_lt h]; exact List.getElem_mem h
theorem putV_facts {ns : List NB} {k v : ByteArray} {ms : List NB} (h : putV ns k v = some ms) : PutF (alV ns) k v ms ∧ kOk k = true := by
  unfold putV at h
  split at h
  · cases h
  · rename_i t ht
    split at h
    · rename_i hkv
      split at h
      · cases h
      · rename_i hl
        cases h
        have g0 := okT_root ht
        have hal : alV ns = t.all := by unfold alV; rw [ht]
        rw [hal]
        have g := g0.ins (p := (k, v)) hkv (by omega)
        have ha := pOk_asc g0.ok
        refine ⟨⟨layT_smallN g, by rw [g.okT]; rfl, ?_, ?_, fun i hi hne => ?_⟩, hkv.1⟩
        · rw [getV, if_pos hkv.1, g.alV]; exact fnd_insP _ (k, v)
        · rw [g.alV]; exact insP_count (k, v) ha
        · rw [getV, if_pos (pOk_mem g0.ok (pAtB_mem hi)).1, g.alV, fnd_insP_ne _ (k, v) _ hne]
          exact mem_fnd ha (pAtB_mem hi)
    · cases h
/-- What a drop gives, where it gives something. -/
structure DropF (l : List PB) (k : ByteArray) (d : Int) (ms : List NB) : Prop where
  small : smallN ms ∧ ms.length ≤ 1048576
  ok : (Go.Proofs.Ytcpdedpgjaimkaa.okT ms).isSome = true
  got : getV ms k = none
  all : alV ms = delS l k
  deep : dpV ms ≤ d
theorem dropV_facts {ns : List NB} {k : ByteArray} {ms : List NB} (h : dropV ns k = some ms) : DropF (alV ns) k (dpV ns) ms := by
  unfold dropV at h
  split at h
  · cases h
  · rename_i t ht
    split at h
    · rename_i hk
      cases h
      have g0 := okT_root ht
      have hal : alV ns = t.all := by unfold alV; rw [ht]
      have hdp : dpV ns = t.dpt := by unfold dpV; rw [ht]
      rw [hal, hdp]
      have g := g0.del k
      have ha := pOk_asc g0.ok
      refine ⟨layT_smallN g, by rw [g.okT]; rfl, ?_, ?_, ?_⟩
      · rw [getV, if_pos hk, g.alV]; exact fnd_delP k ha
      · rw [g.alV, delS_eq ha]
      · rw [g.dpV]; have := g0.shallow k; omega
    · cases h
/-- Dropping one pair after the other. -/
theorem okT_layT {ns : List NB} {t : T} (h : okT ns = some t) : layT t = ns := by
  by_cases hne : ns.length = 0
  · rw [(okT_facts h).nil hne, List.eq_nil_of_length_eq_zero hne]; rfl
  · have g := (okT_good hne).1 h
    rw [layT, if_neg (by rw [full_bare g.full]; simp)]
    exact g.laid
theorem drop_next {t : T} {l : List PB} {j : Nat} (hj : j < l.length) (g : RootI t (l.drop j)) : dropV (layT t) (pAtB l j).1 = some (layT (rootD (dropF t.lv t (pAtB l j).1))) ∧ RootI (rootD (dropF t.lv t (pAtB l j).1)) (l.drop (j + 1)) := by
  have e : l.drop j = pAtB l j :: l.drop (j + 1) := by rw [pAtB_lt hj]; exact List.drop_eq_getElem_cons hj
  have h2 := g.del (pAtB l j).1
  rw [e, delP_eq rfl] at h2
  refine ⟨?_, h2⟩
  rw [dropV, g.okT]
  simp only
  rw [if_pos (pOk_mem g.ok (x := pAtB l j) (by rw [e]; simp)).1]
theorem RootI.none {t : T} (g : RootI t []) : layT t = [] := by
  have hd := g.deep.1.2 rfl
  rcases g.good with h | h
  · have := g.all
    have h2 := full_root h
    have h3 := T.size_pos t
    rw [this] at h2
    simp at h2
    omega
  · rw [h]; rfl
/-- Scans. -/
theorem scV_all {l : List PB} (hl : l.length ≤ 200) (lo hi : ByteArray) (back : Bool) : scV l lo hi 200 back = (dirL back l).filter fun p => rHas lo hi p.1 := by
  rw [scV]
  refine List.take_of_length_le ?_
  refine Nat.le_trans (List.length_filter_le _ _) ?_
  rw [dirL_length]
  exact hl
theorem scV_back {l : List PB} (hl : l.length ≤ 200) (lo hi : ByteArray) : scV l lo hi 200 true = (scV l lo hi 200 false).reverse := by
  rw [scV_all hl, scV_all hl]
  simp [dirL]
theorem scV_one {l : List PB} (hl : l.length ≤ 200) (lo hi : ByteArray) : scV l lo hi 1 true = (scV l lo hi 200 true).take 1 := by
  rw [scV_all hl]
  rfl
theorem scV_has {l : List PB} (hl : l.length ≤ 200) (lo hi : ByteArray) {i : Nat} (h : i < (scV l lo hi 200 false).length) : rHas lo hi (pAtB (scV l lo hi 200 false) i).1 = true := by
  have := pAtB_mem h
  rw [scV_all hl] at this
  have := (List.mem_filter.1 this).2
  rwa [scV_all hl]
end Go.Proofs.Ytcpdedpgjaimkaa
/-
  slices.IndexFunc, slices.DeleteFunc over pairs, with the scan's function.
-/
namespace Go.Proofs.Ytcpdedpgjaimkaa
open Go.RowKit
/-- Block b is a row whose first n pairs are X's. -/
def Ro (w : World) (b n : Nat) (X : Nat → PB) : Prop := ∃ T xs, Bk w b T xs ∧ ∀ x, x < n → xs[x * 2]? = some (.string (X x).1) ∧ xs[x * 2 + 1]? = some (.string (X x).2)
theorem Ro.below {w w' : World} {b n : Nat} {X : Nat → PB} (h : Ro w b n X) (hb : Below w.heap.size w w') : Ro w' b n X := by
  obtain ⟨T, xs, h1, h2⟩ := h
  exact ⟨T, xs, h1.below hb, h2⟩
theorem Ro.cell {w : World} {b n : Nat} {X : Nat → PB} (h : Ro w b n X) {x : Nat} (hx : x < n) : w.cell? ⟨b, x * 2, none⟩ = some (.string (X x).1) ∧ w.cell? ⟨b, x * 2 + 1, none⟩ = some (.string (X x).2) ∧ w.frozen? ⟨b, x * 2, none⟩ = false ∧ w.frozen? ⟨b, x * 2 + 1, none⟩ = false := by
  obtain ⟨T, xs, h1, h2⟩ := h
  exact ⟨h1.cell (h2 x hx).1, h1.cell (h2 x hx).2, h1.free _, h1.free _⟩
theorem Ro.lt {w : World} {b n : Nat} {X : Nat → PB} (h : Ro w b n X) : b < w.heap.size := by
  obtain ⟨T, xs, h1, h2⟩ := h
  exact h1.lt
theorem Ro.uf {w : World} {b n : Nat} {X : Nat → PB} (h : Ro w b n X) : Uf w b := by
  obtain ⟨T, xs, h1, h2⟩ := h
  exact h1.uf
def upd (X : Nat → PB) (i : Nat) (p : PB) (x : Nat) : PB := if x = i then p else X x
theorem Ro.set {w : World} {b n : Nat} {X : Nat → PB} (h : Ro w b n X) {i : Nat} (hi : i < n) (k v : ByteArray) : Ro ((w.setCell ⟨b, i * 2, none⟩ (.string k)).setCell ⟨b, i * 2 + 1, none⟩ (.string v)) b n (upd X i (k, v)) := by
  obtain ⟨T, xs, h1, h2⟩ := h
  refine ⟨T, _, (h1.set _ _).set _ _, fun x hx => ?_⟩
  have hl0 := (List.getElem?_eq_some_iff.1 (h2 i hi).1).1
  have hl1 := (List.getElem?_eq_some_iff.1 (h2 i hi).2).1
  unfold upd
  by_cases e : x = i
  · subst e
    rw [if_pos rfl]
    constructor
    · rw [List.getElem?_set_ne (by omega)]; simp [hl0]
    · simp [hl1]
  · rw [if_neg e]
    constructor
    · rw [List.getElem?_set_ne (by omega), List.getElem?_set_ne (by omega)]; exact (h2 x hx).1
    · rw [List.getElem?_set_ne (by omega), List.getElem?_set_ne (by omega)]; exact (h2 x hx).2
theorem Ro.pr {w : World} {b n : Nat} {X : Nat → PB} (h : Ro w b n X) {m c : Nat} {l : List PB} (hl : l.length = m) (hm : m ≤ n) (hc : m ≤ c) (hc2 : c ≤ 9223372036854775807) (hX : ∀ x, x < m → pAtB l x = X x) (S : Nat → Prop) (hS : S b) : Pr w S (.slice (some ⟨b, 0, none⟩) m c) l := by
  subst hl
  obtain ⟨T, xs, h1, h2⟩ := h
  refine ⟨_, c, rfl, hc, hc2, fun h0 => ?_, fun h => by (cases h), fun hp => ⟨b, 0, rfl, h1.lt, hS, fun j u hu => ?_⟩⟩
  · have : l = [] := List.eq_nil_of_length_eq_zero h0
    rw [this]; rfl
  · have hj : j < l.length * 2 := by have := (List.getElem?_eq_some_iff.1 hu).1; rwa [pcs_length] at this
    rw [Nat.zero_add]
    have hx := pcs_at l (j / 2) (by omega)
    have hy := h2 (j / 2) (by omega)
    rw [← hX (j / 2) (by omega)] at hy
    rcases Nat.mod_two_eq_zero_or_one j with e | e
    · rw [show j / 2 * 2 = j by omega] at hx hy
      rw [hu] at hx
      rw [h1.cell hy.1, hx.1]
    · rw [show j / 2 * 2 + 1 = j by omega] at hx hy
      rw [hu] at hx
      rw [h1.cell hy.2, hx.2]
theorem Ow.ro {w : World} {base : Nat} {a : Option Addr} {n c : Nat} {l : List PB} (h : Ow w base (.slice a n c) l) (hp : 0 < n) : ∃ b, a = some ⟨b, 0, none⟩ ∧ base ≤ b ∧ n = l.length ∧ n ≤ c ∧ c ≤ 9223372036854775807 ∧ Ro w b n (pAtB l) := by
  rcases h.2 with ⟨e, h0⟩ | ⟨g, cap, cur, e, h3, h4, h5, h6, h7, h8⟩
  · cases e; omega
  · cases e
    refine ⟨g, rfl, h3, rfl, h5, by unfold maxLen at h6; omega, ?_⟩
    refine ⟨_, cur.toList, by show _ = _; simpa using h4, fun x hx => ?_⟩
    obtain ⟨h1, h2⟩ := pcs_at l x hx
    rw [← h8] at h1 h2
    rw [List.getElem?_take] at h1 h2
    split at h1 <;> split at h2 <;> simp_all
theorem only_sets {R : Nat → Prop} {b : Nat} (h : R b) : ∀ (vs : List Value) (o : Nat) (w : World), Only R w (w.setCells b o vs)
  | [], _, w => Only.refl _ _
  | v :: vs, o, w => by
    rw [World.setCells]
    exact (only_set h v).trans (only_sets h vs (o + 1) _)
theorem bk_sets {b : Nat} {T : TypeId} : ∀ (vs : List Value) (o : Nat) (w : World) (xs : List Value), Bk w b T xs → ∃ ys, Bk (w.setCells b o vs) b T ys ∧ ys.length = xs.length ∧ ∀ x, x < o → ys[x]? = xs[x]?
  | [], _, w, xs, h => ⟨xs, h, rfl, fun _ _ => rfl⟩
  | v :: vs, o, w, xs, h => by
    obtain ⟨ys, h1, h2, h3⟩ := bk_sets vs (o + 1) _ _ (h.set o v)
    refine ⟨ys, h1, by rw [h2, List.length_set], fun x hx => ?_⟩
    rw [h3 x (by omega), List.getElem?_set_ne (by omega)]
theorem Ro.sets {w : World} {b n : Nat} {X : Nat → PB} (h : Ro w b n X) {i : Nat} (hi : i ≤ n) (vs : List Value) : Ro (w.setCells b (i * 2) vs) b i X := by
  obtain ⟨T, xs, h1, h2⟩ := h
  obtain ⟨ys, h3, _, h4⟩ := bk_sets vs (i * 2) w xs h1
  refine ⟨T, ys, h3, fun x hx => ?_⟩
  rw [h4 _ (by omega), h4 _ (by omega)]
  exact h2 x (by omega)
theorem run_clear_pairs (ty : TypeId) (w : World) (b o n c : Nat) (hc : ∀ j, j < n * 2 → (w.cell? ⟨b, o + j, none⟩).isSome = true) (hf : ∀ j, j < n * 2 → w.frozen? ⟨b, o + j, none⟩ = false) :
    (Builtin.clear_ #[30] ty #[.slice (some ⟨b, o, none⟩) n c]).run Try.prog w = .ok (.tuple #[]) (w.setCells b o (List.replicate (n * 2) (.string ⟨#[]⟩))) := by
  have hv : (zeroValue 33).run Try.prog w = .ok (.agg #[.string ⟨#[]⟩, .string ⟨#[]⟩]) w := by go_simp
  have hzc : (Builtin.zeroCells (Value.agg #[.string ⟨#[]⟩, .string ⟨#[]⟩]).cells n).toList = List.replicate (n * 2) (.string ⟨#[]⟩) := by
    simp [Builtin.zeroCells, Value.cells]
    apply List.ext_getElem
    · simp
    · intro i h1 h2
      simp
      rcases Nat.mod_two_eq_zero_or_one i with e | e <;> simp [e]
  have hst := run_storeCells_cells (P := Try.prog) b o (List.replicate (n * 2) (.string ⟨#[]⟩)) 0 w (by simpa using hc) (by simpa using hf) (by intro v hv'; rw [List.eq_of_mem_replicate hv']; rfl)
  simp only [Nat.add_zero] at hst
  cases n with
  | zero => simp [Builtin.clear_, World.setCells, run_underlying Try.underlying30]
  | succ m => simp [Builtin.clear_, run_underlying Try.underlying30, hv, hzc, hst]
set_option maxHeartbeats 1000000 in
theorem scan1_any (rb : Nat) (lo hi k v : ByteArray) (w : World) (hR : Bk w rb 27 [.string lo, .string hi]) :
    Calls Try.prog 104 #[.agg #[.string k, .string v], .pointer (some ⟨rb, 0, none⟩)] w fun e w' => e = .returned (.bool (!rHas lo hi k)) ∧ Below w.heap.size w w' := by
  have HB0 := hid (below_new (o := .cells #[.string k, .string v] 33) (w := w) (Below.refl _ _))
  have KR := hid (hR.below HB0.out)
  have KP := hid (Bk.new w 33 [.string k, .string v])
  have r0 := KR.out.cell (j := 0) rfl
  have r1 := KR.out.cell (j := 1) rfl
  have p0 := KP.out.cell (j := 0) rfl
  have HRH := hid (fun v => implRangeHas_any lo hi k v)
  simp only [rng] at HRH
  clear hR
  go_enter Try.func104, Try.ntmps104
  go_wp2_with fail
  refine (HRH.out _).mono ?_
  rintro e w1 ⟨rfl, hb⟩
  have HB1 := hid (Below.then' HB0.out hb (Nat.le_refl _))
  clear hb r0 r1 p0
  generalize hz : rHas lo hi k = z
  have HZ := hid hz
  clear hz
  go_wp2
  go_ret
  exact ⟨by rw [HZ.out]; rfl, HB1.out⟩
set_option maxHeartbeats 1000000 in
theorem idxF_any (S : Nat → Prop) (a : Option Addr) (n c rb : Nat) (l : List PB) (lo hi : ByteArray) (w : World) (h : Pr w S (.slice a n c) l) (hR : Bk w rb 27 [.string lo, .string hi]) (hn : n ≤ 1048576) :
    Calls Try.prog 150 #[.slice a n c, .func (.func 104) #[] #[.pointer (some ⟨rb, 0, none⟩)]] w fun e w' =>
      (∃ r : Int, e = .returned (.int .i64 r) ∧ ((r = -1 ∧ ∀ x, x < n → rHas lo hi (pAtB l x).1 = true) ∨ ∃ i : Nat, i < n ∧ r = i ∧ rHas lo hi (pAtB l i).1 = false ∧ ∀ x, x < i → rHas lo hi (pAtB l x).1 = true)) ∧ Below w.heap.size w w' := by
  have HN := hid (Rw.len h).1
  have hnc := (Rw.len h).2
  have H0 := hid h
  have KR := hid hR
  clear h hR
  go_enter Try.func150, Try.ntmps150
  go_wp2_with fail
  go_loopw [8] (fun x wr => ∃ j : Nat, x = .int .i64 j ∧ j ≤ n ∧ Hid (∀ x, x < j → rHas lo hi (pAtB l x).1 = true) ∧ Hid (Below w.heap.size w wr)) (fun x _ => n - (intOf x).toNat)
  case atStart => exact ⟨0, rfl, Nat.zero_le _, fun x h => absurd h (Nat.not_lt_zero _), Below.refl _ _⟩
  case round =>
    obtain ⟨j, rfl, hj, HA, HB⟩ := hrel
    by_cases hlt : j < n
    · have hlt' : (j : Int) < (n : Int) := by omega
      have hj0 : (0 : Int) ≤ (j : Int) := by omega
      have hp := H0.out.below HB.out
      obtain ⟨b, off, hab, _, _, _⟩ := Rw.at hp (by omega)
      subst hab
      obtain ⟨d0, d1⟩ := Pr.cells hp (i := j) (by have := HN.out; omega)
      clear hp
      go_wp2_with fail
      refine (scan1_any rb lo hi _ _ wr (KR.out.below HB.out)).mono ?_
      rintro e w1 ⟨rfl, hb⟩
      have HB1 := hid (Below.then' HB.out hb (Nat.le_refl _))
      clear hb d0 d1
      cases hh : rHas lo hi (pAtB l j).1 with
      | false =>
        have HR := hid hh
        clear hh
        go_wp2
        go_ret
        exact ⟨⟨j, rfl, .inr ⟨j, hlt, rfl, HR.out, HA.out⟩⟩, HB1.out⟩
      | true =>
        have HA1 : Hid (∀ x, x < j + 1 → rHas lo hi (pAtB l x).1 = true) := fun x hx => by
          by_cases e : x = j
          · subst e; exact hh
          · exact HA.out x (by omega)
        clear hh
        go_wp2
        go_roundw
        case rel => exact ⟨j + 1, by go_num, by omega, HA1.out, HB1.out⟩
        case measure => simp [intOf]; omega
    · have hlt' : ¬ (j : Int) < (n : Int) := by omega
      have hjn : j = n := by omega
      subst hjn
      go_wp2
      go_ret
      exact ⟨⟨-1, rfl, .inl ⟨rfl, HA.out⟩⟩, HB.out⟩
end Go.Proofs.Ytcpdedpgjaimkaa
/-
  slices.DeleteFunc over pairs, with the scan's function; slices.Reverse of pairs.
-/
namespace Go.Proofs.Ytcpdedpgjaimkaa
open Go.RowKit
/-- The slice value v is a row of its own, from its first place on, that may be written and holds f. -/
def Rp (w : World) (base : Nat) (v : Value) (f : List PB) : Prop := ∃ a m c, v = .slice a m c ∧ m = f.length ∧ m ≤ c ∧ c ≤ 9223372036854775807 ∧ (a = none → c = 0) ∧ (0 < m → ∃ b, a = some ⟨b, 0, none⟩ ∧ base ≤ b ∧ Ro w b m (pAtB f))
theorem Ow.rp {w : World} {base : Nat} {v : Value} {l : List PB} (h : Ow w base v l) : Rp w base v l := by
  obtain ⟨a, n, c, rfl, hn⟩ := h.shape'
  have hlen := Rw.len (h.pr (S := fun _ => True) (fun _ _ _ _ => trivial))
  refine ⟨a, n, c, rfl, hn.out, hlen.2.1, hlen.2.2, ?_, fun hp => ?_⟩
  · rintro rfl
    obtain ⟨a', c', e, _, _, _, h5, _⟩ := h.pr (S := fun _ => True) (fun _ _ _ _ => trivial)
    cases e
    exact h5 rfl
  · obtain ⟨b, h1, h2, _, _, _, h3⟩ := h.ro hp
    exact ⟨b, h1, h2, h3⟩
theorem Rp.pr {w : World} {base : Nat} {v : Value} {f : List PB} (h : Rp w base v f) : Pr w (fun b => base ≤ b ∧ Uf w b) v f := by
  obtain ⟨a, m, c, rfl, h1, h2, h3, h4, h5⟩ := h
  rcases Nat.eq_zero_or_pos m with h0 | hp
  · have : f = [] := List.eq_nil_of_length_eq_zero (by omega)
    subst this h0
    exact ⟨a, c, rfl, h2, h3, fun _ => rfl, h4, fun h => by simp at h⟩
  · obtain ⟨b, rfl, h6, h7⟩ := h5 hp
    exact h7.pr h1.symm (Nat.le_refl _) h2 h3 (fun _ _ => rfl) _ ⟨h6, h7.uf⟩
theorem Rp.below {w w' : World} {base : Nat} {v : Value} {f : List PB} (h : Rp w base v f) (hb : Below w.heap.size w w') : Rp w' base v f := by
  obtain ⟨a, m, c, rfl, h1, h2, h3, h4, h5⟩ := h
  refine ⟨a, m, c, rfl, h1, h2, h3, h4, fun hp => ?_⟩
  obtain ⟨b, h6, h7, h8⟩ := h5 hp
  exact ⟨b, h6, h7, h8.below hb⟩
def RpPost (base : Nat) (f : List PB) (w : World) (e : Ending) (w' : World) : Prop := ∃ a m c, e = .returned (.slice a m c) ∧ Rp w' base (.slice a m c) f ∧ Below base w w'
abbrev hasF (lo hi : ByteArray) (l : List PB) : List PB := l.filter fun p => rHas lo hi p.1
theorem hasF_step (lo hi : ByteArray) (l : List PB) (j : Nat) (h : j < l.length) : hasF lo hi (l.take (j + 1)) = if rHas lo hi (pAtB l j).1 = true then hasF lo hi (l.take j) ++ [pAtB l j] else hasF lo hi (l.take j) := by
  rw [List.take_succ_eq_append_getElem h, ← pAtB_lt h, hasF, List.filter_append]
  cases hh : rHas lo hi (pAtB l j).1 with
  | false => simp [hasF, hh]
  | true => simp [hasF, hh]
theorem hasF_le (lo hi : ByteArray) (l : List PB) (j : Nat) : (hasF lo hi (l.take j)).length ≤ j := Nat.le_trans (List.length_filter_le _ _) (by rw [List.length_take]; omega)
theorem hasF_all {lo hi : ByteArray} {l : List PB} {j : Nat} (hj : j ≤ l.length) (h : ∀ x, x < j → rHas lo hi (pAtB l x).1 = true) : hasF lo hi (l.take j) = l.take j := by
  rw [hasF, List.filter_eq_self]
  intro p hp
  obtain ⟨i, hi, rfl⟩ := List.mem_iff_getElem.1 hp
  have hi' : i < j := by rw [List.length_take] at hi; omega
  have := h i hi'
  rw [pAtB_lt (by omega)] at this
  rw [List.getElem_take]
  exact this
theorem pAtB_take {l : List PB} {j x : Nat} (h : x < j) : pAtB (l.take j) x = pAtB l x := by simp [pAtB, h]
theorem pAtB_snoc {l : List PB} {p : PB} {x : Nat} (h : x < l.length) : pAtB (l ++ [p]) x = pAtB l x := by simp [pAtB, List.getElem?_append_left h]
theorem pAtB_snoc' {l : List PB} {p : PB} : pAtB (l ++ [p]) l.length = p := by simp [pAtB]
set_option maxHeartbeats 4000000 in
set_option maxRecDepth 20000 in
theorem delF_any (a : Option Addr) (n c rb base : Nat) (l : List PB) (lo hi : ByteArray) (w : World) (hO : Ow w base (.slice a n c) l) (hbase : base ≤ w.heap.size) (hR : Bk w rb 27 [.string lo, .string hi]) (hrb : ∀ b, a = some ⟨b, 0, none⟩ → rb ≠ b) (hn : n ≤ 200) :
    Calls Try.prog 103 #[.slice a n c, .func (.func 104) #[] #[.pointer (some ⟨rb, 0, none⟩)]] w fun e w' => RpPost base (hasF lo hi l) w e w' := by
  have HO := hid hO
  have KR := hid hR
  have HBS := hid (And.intro hbase hrb)
  have hlen := Rw.len (hO.pr (S := fun _ => True) (fun _ _ _ _ => trivial))
  have HN := hid hlen.1
  have hnc := hlen.2
  clear hO hR hlen hbase hrb
  go_enter Try.func103, Try.ntmps103
  go_wp2_with fail
  refine (idxF_any (fun _ => True) a n c rb l lo hi w (HO.out.pr (fun _ _ _ _ => trivial)) KR.out (by omega)).mono ?_
  rintro e w1 ⟨⟨r, rfl, hr⟩, hb⟩
  have HO1 := hid (HO.out.kept hb)
  have KR1 := hid (KR.out.below hb)
  have HB1 : Hid (Below base w w1) := hb.mono HBS.out.1
  have HW0 : Hid (base ≤ w.heap.size) := HBS.out.1
  have HBS1 : Hid (base ≤ w1.heap.size ∧ ∀ b, a = some ⟨b, 0, none⟩ → rb ≠ b) := ⟨Nat.le_trans HBS.out.1 hb.size, HBS.out.2⟩
  clear hb HO KR HBS
  rcases hr with ⟨rfl, hall⟩ | ⟨i0, hi0, rfl, hno, hall⟩
  · have HE : Hid (hasF lo hi l = l) := by
      have := hasF_all (j := l.length) (lo := lo) (hi := hi) (Nat.le_refl _) (fun x hx => hall x (by rw [HN.out]; exact hx))
      rwa [List.take_length] at this
    clear hall
    go_wp2
    go_ret
    exact ⟨a, n, c, rfl, by rw [HE.out]; exact HO1.out.rp, HB1.out⟩
  · obtain ⟨b, rfl, hb1, -, -, -, hro⟩ := HO1.out.ro (by omega)
    have HBB : Hid (base ≤ b ∧ rb ≠ b) := ⟨hb1, HBS1.out.2 b rfl⟩
    have HRO := hid hro
    have HF0 : Hid (hasF lo hi (l.take (i0 + 1)) = l.take i0) := by
      show _ = _
      rw [hasF_step lo hi l i0 (by have := HN.out; omega), hno, if_neg (by simp), hasF_all (by have := HN.out; omega) hall]
    have hne : ((i0 : Int) == -1) = false := by simp
    clear hall hno hro HO1 hb1
    go_wp2_with fail
    go_loopw [5, 6] (fun x y wr => ∃ (i j : Nat) (X : Nat → PB), x = .int .i64 i ∧ y = .int .i64 j ∧ i < j ∧ j ≤ n ∧ Hid (i = (hasF lo hi (l.take j)).length) ∧ Hid (Ro wr b n X) ∧ Hid ((∀ x, x < i → X x = pAtB (hasF lo hi (l.take j)) x) ∧ ∀ x, j ≤ x → x < n → X x = pAtB l x) ∧ Hid (Bk wr rb 27 [.string lo, .string hi]) ∧ Hid (Below base w wr)) (fun _ y _ => n - (intOf y).toNat)
    case atStart =>
      refine ⟨i0, i0 + 1, pAtB l, rfl, by go_num, by omega, by omega, ?_, HRO.out, ⟨fun x hx => ?_, fun x _ _ => rfl⟩, KR1.out, HB1.out⟩
      · show _ = _; rw [HF0.out, List.length_take]; have := HN.out; omega
      · rw [HF0.out, pAtB_take hx]
    case round =>
      obtain ⟨i, j, X, rfl, rfl, hij, hjn, HI, HR2, HX, KR2, HB2⟩ := hrel
      by_cases hlt : j < n
      · have hlt' : (j : Int) < (n : Int) := by omega
        have hj0 : (0 : Int) ≤ (j : Int) := by omega
        obtain ⟨d0, d1, _, _⟩ := HR2.out.cell hlt
        rw [HX.out.2 j (Nat.le_refl _) hlt] at d0 d1
        have hb := below_new (o := .cells #[.string (pAtB l j).1, .string (pAtB l j).2] 33) (w := wr) (Below.refl _ _)
        have HR3 := hid (HR2.out.below hb)
        have KR3 := hid (KR2.out.below hb)
        have KP3 := hid (Bk.new wr 33 [.string (pAtB l j).1, .string (pAtB l j).2])
        have HB3 := hid (Below.then' HB2.out hb HW0.out)
        clear hb HR2 KR2 HB2
        have p0 := KP3.out.cell (j := 0) rfl
        have p1 := KP3.out.cell (j := 1) rfl
        go_wp2_with fail
        refine (scan1_any rb lo hi _ _ _ KR3.out).mono ?_
        have HST := hid (hasF_step lo hi l j (by have := HN.out; omega))
        generalize hpb : wr.heap.size = pb at *
        clear hpb
        generalize wr.alloc (.cells #[.string (pAtB l j).1, .string (pAtB l j).2] 33) = wp at *
        rintro e w3 ⟨rfl, hb⟩
        have HR4 := hid (HR3.out.below hb)
        have KR4 := hid (KR3.out.below hb)
        have KP4 := hid (KP3.out.below hb)
        have HB4 := hid (Below.then' HB3.out hb HW0.out)
        clear hb HR3 KR3 KP3 HB3 d0 d1 p0 p1
        cases hh : rHas lo hi (pAtB l j).1 with
        | false =>
          have HF1 : Hid (hasF lo hi (l.take (j + 1)) = hasF lo hi (l.take j)) := by have := HST.out; rw [hh] at this; show _ = _; simpa using this
          clear hh
          go_wp2
          go_roundw
          case rel => exact ⟨i, j + 1, X, rfl, by go_num, by omega, by omega, by rw [HF1.out]; exact HI.out, HR4.out, ⟨by rw [HF1.out]; exact HX.out.1, fun x h1 h2 => HX.out.2 x (by omega) h2⟩, KR4.out, HB4.out⟩
          case measure => simp [intOf]; omega
        | true =>
          have HF1 : Hid (hasF lo hi (l.take (j + 1)) = hasF lo hi (l.take j) ++ [pAtB l j]) := by have := HST.out; rw [hh] at this; show _ = _; simpa using this
          clear hh
          have hi' : (i : Int) < (n : Int) := by omega
          have p0 := KP4.out.cell (j := 0) rfl
          have p1 := KP4.out.cell (j := 1) rfl
          obtain ⟨d0, d1, f0, f1⟩ := HR4.out.cell (x := i) (by omega)
          generalize hX0 : X i = xi at *
          obtain ⟨x0, x1⟩ := xi
          simp only at d0 d1
          have HR5 := hid (HR4.out.set (i := i) (by omega) (pAtB l j).1 (pAtB l j).2)
          have hon : Only (fun y => y = b) w3 ((w3.setCell ⟨b, i * 2, none⟩ (.string (pAtB l j).1)).setCell ⟨b, i * 2 + 1, none⟩ (.string (pAtB l j).2)) := (only_set (R := fun y => y = b) rfl _).trans (only_set (R := fun y => y = b) rfl _)
          have KR5 := hid (KR4.out.to hon (by have := HBB.out; omega))
          have HB5 := hid (HB4.out.trans (hon.below (by have := HB4.out.size; have := HW0.out; omega) (fun y h1 h2 => by have := HBB.out; omega)))
          have HX5 : Hid ((∀ x, x < i + 1 → upd X i ((pAtB l j).1, (pAtB l j).2) x = pAtB (hasF lo hi (l.take j) ++ [pAtB l j]) x) ∧ ∀ x, j + 1 ≤ x → x < n → upd X i ((pAtB l j).1, (pAtB l j).2) x = pAtB l x) := by
            refine ⟨fun x hx => ?_, fun x h1 h2 => ?_⟩
            · unfold upd
              by_cases e : x = i
              · rw [if_pos e, e, HI.out, pAtB_snoc']
              · rw [if_neg e, pAtB_snoc (by rw [← HI.out]; omega)]
                exact HX.out.1 x (by omega)
            · unfold upd
              rw [if_neg (by omega)]
              exact HX.out.2 x (by omega) h2
          have HI5 : Hid (i + 1 = (hasF lo hi (l.take j) ++ [pAtB l j]).length) := by show _ = _; rw [List.length_append, ← HI.out]; rfl
          clear hon hX0
          generalize (pAtB l j).1 = kk at *
          generalize (pAtB l j).2 = vv at *
          go_wp2
          go_roundw
          case rel => exact ⟨i + 1, j + 1, _, by go_num, by go_num, by omega, by omega, by rw [HF1.out]; exact HI5.out, HR5.out, by rw [HF1.out]; exact HX5.out, KR5.out, HB5.out⟩
          case measure => simp [intOf]; omega
      · have hlt' : ¬ (j : Int) < (n : Int) := by omega
        have hjn' : j = n := by omega
        subst hjn'
        have HIN : Hid (hasF lo hi (l.take j) = hasF lo hi l) := by show _ = _; rw [HN.out, List.take_length]
        have hcl : ∀ ty, (Builtin.clear_ #[30] ty #[.slice (some ⟨b, i * 2, none⟩) (j - i) (c - i)]).run Try.prog wr = .ok (.tuple #[]) (wr.setCells b (i * 2) (List.replicate ((j - i) * 2) (.string ⟨#[]⟩))) := fun ty => by
          refine run_clear_pairs ty wr b (i * 2) (j - i) (c - i) (fun q hq => ?_) (fun q hq => ?_)
          · obtain ⟨d0, d1, _, _⟩ := HR2.out.cell (x := (i * 2 + q) / 2) (by omega)
            rcases Nat.mod_two_eq_zero_or_one (i * 2 + q) with e | e
            · rw [show (i * 2 + q) / 2 * 2 = i * 2 + q by omega] at d0; rw [d0]; rfl
            · rw [show (i * 2 + q) / 2 * 2 + 1 = i * 2 + q by omega] at d1; rw [d1]; rfl
          · obtain ⟨_, _, f0, f1⟩ := HR2.out.cell (x := (i * 2 + q) / 2) (by omega)
            rcases Nat.mod_two_eq_zero_or_one (i * 2 + q) with e | e
            · rw [show (i * 2 + q) / 2 * 2 = i * 2 + q by omega] at f0; exact f0
            · rw [show (i * 2 + q) / 2 * 2 + 1 = i * 2 + q by omega] at f1; exact f1
        have HR3 := hid (HR2.out.sets (i := i) (by omega) (List.replicate ((j - i) * 2) (.string ⟨#[]⟩)))
        have HB3 := hid (HB2.out.trans ((only_sets (R := fun y => y = b) rfl (List.replicate ((j - i) * 2) (.string ⟨#[]⟩)) (i * 2) wr).below (by have := HB2.out.size; have := HW0.out; omega) (fun y h1 h2 => by have := HBB.out; omega)))
        generalize wr.setCells b (i * 2) (List.replicate ((j - i) * 2) (.string ⟨#[]⟩)) = wz at *
        have hii : (i : Int) ≤ (j : Int) := by omega
        have hi0' : (0 : Int) ≤ (i : Int) := by omega
        have hic : (i : Int) ≤ (c : Int) := by omega
        go_wp2
        go_ret
        refine ⟨_, i, c, rfl, ⟨_, i, c, rfl, by rw [← HIN.out]; exact HI.out, by omega, by omega, fun h => by (cases h), fun _ => ⟨b, rfl, HBB.out.1, ?_⟩⟩, HB3.out⟩
        obtain ⟨T, xs, h1, h2⟩ := HR3.out
        refine ⟨T, xs, h1, fun x hx => ?_⟩
        rw [← HIN.out, ← HX.out.1 x hx]
        exact h2 x hx
end Go.Proofs.Ytcpdedpgjaimkaa
/-
  slices.Reverse of pairs.
-/
namespace Go.Proofs.Ytcpdedpgjaimkaa
open Go.RowKit
def revX (f : List PB) (n i : Nat) (x : Nat) : PB := if x < i ∨ n - i ≤ x then pAtB f (n - 1 - x) else pAtB f x
set_option maxHeartbeats 4000000 in
set_option maxRecDepth 20000 in
theorem rev_any (b n c : Nat) (f : List PB) (w : World) (hR : Ro w b n (pAtB f)) (hp : 0 < n) (hn : n ≤ 200) (hnc : n ≤ c) (hc : c ≤ 9223372036854775807) :
    Calls Try.prog 105 #[.slice (some ⟨b, 0, none⟩) n c] w fun e w' => e = .returned (.tuple #[]) ∧ Ro w' b n (fun x => pAtB f (n - 1 - x)) ∧ Only (fun y => y = b) w w' := by
  have HR := hid hR
  clear hR
  go_enter Try.func105, Try.ntmps105
  go_wp2_with fail
  go_loopw [2, 3] (fun x y wr => ∃ (i j : Nat), x = .int .i64 i ∧ y = .int .i64 j ∧ i + j = n - 1 ∧ i ≤ j + 1 ∧ Hid (Ro wr b n (revX f n i)) ∧ Hid (Only (fun y => y = b) w wr)) (fun _ y _ => (intOf y).toNat)
  case atStart =>
    refine ⟨0, n - 1, rfl, by go_num, by omega, by omega, ?_, Only.refl _ _⟩
    obtain ⟨T, xs, h1, h2⟩ := HR.out
    refine ⟨T, xs, h1, fun x hx => ?_⟩
    rw [revX, if_neg (by omega)]
    exact h2 x hx
  case round =>
    obtain ⟨i, j, rfl, rfl, hij, hle, HX, HO⟩ := hrel
    by_cases hlt : i < j
    · have hlt' : (i : Int) < (j : Int) := by omega
      have hi0 : (0 : Int) ≤ (i : Int) := by omega
      have hj0 : (0 : Int) ≤ (j : Int) := by omega
      have hin : (i : Int) < (n : Int) := by omega
      have hjn : (j : Int) < (n : Int) := by omega
      obtain ⟨a0, a1, a2, a3⟩ := HX.out.cell (x := i) (by omega)
      obtain ⟨b0, b1, b2, b3⟩ := HX.out.cell (x := j) (by omega)
      generalize hxi : revX f n i i = xi at *
      generalize hxj : revX f n i j = xj at *
      obtain ⟨k0, v0⟩ := xi
      obtain ⟨k1, v1⟩ := xj
      simp only at a0 a1 b0 b1
      have hxi' := hid hxi
      have hxj' := hid hxj
      clear hxi hxj
      go_wp2_with fail
      go_region
      have HX1 : Hid (Ro ((((wr.setCell ⟨b, i * 2, none⟩ (.string k1)).setCell ⟨b, i * 2 + 1, none⟩ (.string v1)).setCell ⟨b, j * 2, none⟩ (.string k0)).setCell ⟨b, j * 2 + 1, none⟩ (.string v0)).drew b n (revX f n (i + 1))) := by
        obtain ⟨T, xs, h1, h2⟩ := ((HX.out.set (i := i) (by omega) k1 v1).set (i := j) (by omega) k0 v0).below (below_drew _)
        refine ⟨T, xs, h1, fun x hx => ?_⟩
        have e : revX f n (i + 1) x = upd (upd (revX f n i) i (k1, v1)) j (k0, v0) x := by
          unfold upd
          by_cases e1 : x = j
          · rw [if_pos e1, ← hxi'.out, e1]
            simp only [revX]
            rw [if_pos (by omega), if_neg (by omega), show n - 1 - j = i by omega]
          · rw [if_neg e1]
            by_cases e2 : x = i
            · rw [if_pos e2, ← hxj'.out, e2]
              simp only [revX]
              rw [if_pos (by omega), if_neg (by omega), show n - 1 - i = j by omega]
            · rw [if_neg e2]
              simp only [revX]
              by_cases e3 : x < i ∨ n - i ≤ x
              · rw [if_pos e3, if_pos (by omega)]
              · rw [if_neg e3, if_neg (by omega)]
        rw [e]
        exact h2 x hx
      have HO1 : Hid (Only (fun y => y = b) w ((((wr.setCell ⟨b, i * 2, none⟩ (.string k1)).setCell ⟨b, i * 2 + 1, none⟩ (.string v1)).setCell ⟨b, j * 2, none⟩ (.string k0)).setCell ⟨b, j * 2 + 1, none⟩ (.string v0)).drew) :=
        (((((HO.out.trans (only_set (R := fun y => y = b) rfl _)).trans (only_set (R := fun y => y = b) rfl _)).trans (only_set (R := fun y => y = b) rfl _)).trans (only_set (R := fun y => y = b) rfl _))).trans (only_of_below (below_drew _) _)
      generalize ((((wr.setCell ⟨b, i * 2, none⟩ (.string k1)).setCell ⟨b, i * 2 + 1, none⟩ (.string v1)).setCell ⟨b, j * 2, none⟩ (.string k0)).setCell ⟨b, j * 2 + 1, none⟩ (.string v0)).drew = wz at *
      clear a0 a1 a2 a3 b0 b1 b2 b3
      have hjw : (j : Int) - 1 = ((j - 1 : Nat) : Int) := by omega
      go_wp2
      go_roundw
      case rel => exact ⟨i + 1, j - 1, by go_num, by rw [← hjw], by omega, by omega, HX1.out, HO1.out⟩
      case measure => simp [intOf]; omega
    · have hlt' : ¬ (i : Int) < (j : Int) := by omega
      have HE : Hid (Ro wr b n (fun x => pAtB f (n - 1 - x))) := by
        obtain ⟨T, xs, h1, h2⟩ := HX.out
        refine ⟨T, xs, h1, fun x hx => ?_⟩
        have := h2 x hx
        have e : revX f n i x = pAtB f (n - 1 - x) := by
          rw [revX]
          split
          · rfl
          · rw [show n - 1 - x = x by omega]
        rwa [e] at this
      go_wp2
      go_end0
      exact ⟨rfl, HE.out, HO.out⟩
set_option maxHeartbeats 1000000 in
theorem rev0_any (a : Option Addr) (c : Nat) (w : World) : Calls Try.prog 105 #[.slice a 0 c] w fun e w' => e = .returned (.tuple #[]) ∧ w' = w := by
  go_enter Try.func105, Try.ntmps105
  go_wp2_with fail
  go_loop [2, 3] (fun x y => x = .int .i64 0 ∧ y = .int .i64 (-1)) (fun _ _ => 0)
  case atStart => exact ⟨rfl, rfl⟩
  case round =>
    obtain ⟨rfl, rfl⟩ := hrel
    go_wp2
    go_end0
    exact ⟨rfl, rfl⟩
end Go.Proofs.Ytcpdedpgjaimkaa
/-
  impl.TreeScan.
-/
namespace Go.Proofs.Ytcpdedpgjaimkaa
open Go.RowKit
theorem filt_rev (lo hi : ByteArray) (l : List PB) (most : Int) : scV l lo hi most true = (hasF lo hi l).reverse.take most.toNat := by
  unfold scV dirL hasF
  simp
theorem pAtB_rev {f : List PB} {n x : Nat} (hn : n = f.length) (hx : x < n) : pAtB f.reverse x = pAtB f (n - 1 - x) := by
  rw [pAtB_lt (by simp; omega), pAtB_lt (by omega)]
  simp [hn]
theorem Rp.take {w : World} {base : Nat} {a : Option Addr} {m c : Nat} {f : List PB} (h : Rp w base (.slice a m c) f) {q : Nat} (hq : q ≤ m) : Rp w base (.slice a q c) (f.take q) := by
  obtain ⟨a', m', c', e, h1, h2, h3, h4, h5⟩ := h
  cases e
  refine ⟨a, q, c, rfl, by rw [List.length_take]; omega, by omega, h3, h4, fun hp => ?_⟩
  obtain ⟨b, h6, h7, T, xs, h8, h9⟩ := h5 (by omega)
  exact ⟨b, h6, h7, T, xs, h8, fun x hx => by rw [pAtB_take hx]; exact h9 x (by omega)⟩
theorem own_mono_rp {w : World} {base base' : Nat} {v : Value} {f : List PB} (h : Rp w base v f) (hb : base' ≤ base) : Rp w base' v f := by
  obtain ⟨a, m, c, h1, h2, h3, h4, h5, h6⟩ := h
  refine ⟨a, m, c, h1, h2, h3, h4, h5, fun hp => ?_⟩
  obtain ⟨b, h7, h8, h9⟩ := h6 hp
  exact ⟨b, h7, Nat.le_trans hb h8, h9⟩
set_option maxHeartbeats 4000000 in
/-- Rising pairs of one's own, scanned. -/
theorem scanPairs_any (a : Option Addr) (n c base : Nat) (l : List PB) (lo hi : ByteArray) (most : Int) (back : Bool) (w : World) (hO : Ow w base (.slice a n c) l) (hbase : base ≤ w.heap.size) (hnl : n ≤ 200) (hm : -9223372036854775808 ≤ most ∧ most ≤ 9223372036854775807) :
    Calls Try.prog 41 #[.slice a n c, .agg #[.string lo, .string hi], .int .i64 most, .bool back] w fun e w' => RpPost base (scV l lo hi most back) w e w' := by
  have HB1' : Hid (Below w.heap.size w (w.alloc (.cells #[.string lo, .string hi] 27))) := below_new (Below.refl _ _)
  have HB1 : Hid (Below base w (w.alloc (.cells #[.string lo, .string hi] 27))) := HB1'.out.mono hbase
  have HO1 := hid (hO.kept HB1'.out)
  have KR1 := hid (Bk.new w 27 [.string lo, .string hi])
  have HS1 : Hid (base ≤ (w.alloc (.cells #[.string lo, .string hi] 27)).heap.size) := Nat.le_trans hbase HB1'.out.size
  have HRB : Hid (∀ b, a = some ⟨b, 0, none⟩ → w.heap.size ≠ b) := by
    intro b e
    subst e
    have := (World.ownsRow.lt hO b rfl).2
    omega
  clear hO hbase
  by_cases hm1 : most < 1
  · have HE : Hid (scV l lo hi most back = []) := by show _ = _; rw [scV, show most.toNat = 0 by omega]; simp
    go_enter Try.func41, Try.ntmps41
    go_wp2
    go_ret
    exact ⟨none, 0, 0, rfl, by rw [HE.out]; exact (ow_nil _ _).rp, HB1.out⟩
  have hm1' : ¬ most < 1 := hm1
  go_enter Try.func41, Try.ntmps41
  go_wp2_with fail
  refine (delF_any a n c w.heap.size base l lo hi _ HO1.out HS1.out KR1.out HRB.out hnl).mono ?_
  generalize w.alloc (.cells #[.string lo, .string hi] 27) = w1 at *
  rintro e w2 ⟨a2, n2, c2, rfl, hrp, hb⟩
  have HB2 := hid (HB1.out.trans hb)
  have HR2 := hid hrp
  obtain ⟨_, _, _, hsh, hn2, hnc2, hc2, _, hro⟩ := hrp
  cases hsh
  have HN2 := hid hn2
  have hn2' : n2 ≤ 200 := by
    rw [hn2]
    refine Nat.le_trans (List.length_filter_le _ _) ?_
    have := (Rw.len (HO1.out.pr (S := fun _ => True) (fun _ _ _ _ => trivial))).1
    omega
  have HRO := hid hro
  have HSZ := hid hb.size
  clear hb hro hn2 KR1 HO1 HB1 HB1' HRB
  obtain ⟨q, hq⟩ : ∃ q : Nat, most = (q : Int) := ⟨most.toNat, by omega⟩
  subst hq
  have HQ : Hid (∀ f : List PB, (f.take (Int.toNat (q : Int))) = f.take q) := by
    intro f
    rw [Int.toNat_natCast]
  cases back with
  | false =>
    have HE : Hid (scV l lo hi (q : Int) false = (hasF lo hi l).take q) := by
      show _ = _
      rw [← HQ.out]
      rfl
    by_cases hqn : q ≤ n2
    · have hqn' : (q : Int) ≤ (n2 : Int) := by omega
      have hqc : (q : Int) ≤ (c2 : Int) := by omega
      have HR3 := hid (HR2.out.take hqn)
      go_wp2
      go_ret
      exact ⟨_, _, _, rfl, by rw [HE.out]; exact HR3.out, HB2.out⟩
    · have hqn' : ¬ (q : Int) ≤ (n2 : Int) := by omega
      have hqn'' : (n2 : Int) ≤ (q : Int) := by omega
      have HE2 : Hid ((hasF lo hi l).take q = hasF lo hi l) := List.take_of_length_le (by rw [← HN2.out]; omega)
      have hcc : (n2 : Int) ≤ (c2 : Int) := by omega
      go_wp2
      go_ret
      exact ⟨_, _, _, rfl, by rw [HE.out, HE2.out]; exact HR2.out, HB2.out⟩
  | true =>
    have HE : Hid (scV l lo hi (q : Int) true = (hasF lo hi l).reverse.take q) := by
      show _ = _
      rw [filt_rev, HQ.out]
    have HRV : Hid (Calls Try.prog 105 #[.slice a2 n2 c2] w2 fun e w' => e = .returned (.tuple #[]) ∧ Rp w' base (.slice a2 n2 c2) (hasF lo hi l).reverse ∧ Below base w2 w') := by
      show Calls _ _ _ _ _
      rcases Nat.eq_zero_or_pos n2 with h0 | hp
      · subst h0
        refine (rev0_any a2 c2 w2).mono ?_
        rintro e w3 ⟨rfl, rfl⟩
        have : hasF lo hi l = [] := List.eq_nil_of_length_eq_zero HN2.out.symm
        refine ⟨rfl, ?_, Below.refl _ _⟩
        rw [this]
        have h3 := HR2.out
        rw [this] at h3
        exact h3
      · obtain ⟨b, rfl, hbb, hrr⟩ := HRO.out hp
        refine (rev_any b n2 c2 _ w2 hrr hp hn2' hnc2 hc2).mono ?_
        rintro e w3 ⟨rfl, hr3, ho3⟩
        refine ⟨rfl, ⟨_, n2, c2, rfl, by rw [List.length_reverse]; exact HN2.out, hnc2, hc2, fun h => by (cases h), fun _ => ⟨b, rfl, hbb, ?_⟩⟩, ho3.below (by have h1 := HS1.out; have h2 := HSZ.out; omega) (fun y h1 h2 => by omega)⟩
        obtain ⟨T, xs, g1, g2⟩ := hr3
        exact ⟨T, xs, g1, fun x hx => by rw [pAtB_rev HN2.out hx]; exact g2 x hx⟩
    go_wp2_with fail
    refine HRV.out.mono ?_
    rintro e w3 ⟨rfl, hr3, hb3⟩
    have HB3 := hid (HB2.out.trans hb3)
    have HR3 := hid hr3
    clear hr3 hb3 HRV HRO
    by_cases hqn : q ≤ n2
    · have hqn' : (q : Int) ≤ (n2 : Int) := by omega
      have hqc : (q : Int) ≤ (c2 : Int) := by omega
      have HR4 := hid (HR3.out.take hqn)
      go_wp2
      go_ret
      exact ⟨_, _, _, rfl, by rw [HE.out]; exact HR4.out, HB3.out⟩
    · have hqn' : ¬ (q : Int) ≤ (n2 : Int) := by omega
      have hqn'' : (n2 : Int) ≤ (q : Int) := by omega
      have HE2 : Hid ((hasF lo hi l).reverse.take q = (hasF lo hi l).reverse) := List.take_of_length_le (by rw [List.length_reverse, ← HN2.out]; omega)
      have hcc : (n2 : Int) ≤ (c2 : Int) := by omega
      go_wp2
      go_ret
      exact ⟨_, _, _, rfl, by rw [HE.out, HE2.out]; exact HR3.out, HB3.out⟩
theorem only_of_below' {B : Nat} {w w' : World} (h : Below B w w') (_hB : B ≤ w.heap.size) : Only (fun y => B ≤ y) w w' := ⟨h.os, h.tape, h.output, h.size, fun b hb hn => h.block b (by omega)⟩
set_option maxHeartbeats 4000000 in
theorem implTreeScan_any (S : Nat → Prop) (an : Option Addr) (nn cn : Nat) (ns : List NB) (lo hi : ByteArray) (most : Int) (back : Bool) (w : World) (hN : Nr w S (.slice an nn cn) ns) (hm : -9223372036854775808 ≤ most ∧ most ≤ 9223372036854775807) :
    Calls Try.prog 9 #[.agg #[.slice an nn cn], .agg #[.string lo, .string hi], .int .i64 most, .bool back] w fun e w' => RpPost w.heap.size (scV (alV ns) lo hi most back) w e w' := by
  have h1 := hN.len.2.1
  have h2 := hN.len.2.2
  have HBU : Hid (Below w.heap.size w ((w.alloc (.cells #[.slice an nn cn] 25)).alloc (.cells #[.string lo, .string hi] 27))) := below_new (below_new (Below.refl _ _))
  have H0 := hid (hN.below HBU.out)
  have K0 : Hid (Bk ((w.alloc (.cells #[.slice an nn cn] 25)).alloc (.cells #[.string lo, .string hi] 27)) w.heap.size 25 [.slice an nn cn]) := (Bk.new w 25 [.slice an nn cn]).alloc _
  have R0 : Hid (Bk ((w.alloc (.cells #[.slice an nn cn] 25)).alloc (.cells #[.string lo, .string hi] 27)) (w.heap.size + 1) 27 [.string lo, .string hi]) := by
    have := Bk.new (w.alloc (.cells #[.slice an nn cn] 25)) 27 [.string lo, .string hi]
    show Bk _ _ _ _
    simpa using this
  have HUZ : Hid (w.heap.size + 1 < ((w.alloc (.cells #[.slice an nn cn] 25)).alloc (.cells #[.string lo, .string hi] 27)).heap.size) := R0.out.lt
  clear hN
  go_enter Try.func9, Try.ntmps9
  go_wp2_with fail
  generalize (w.alloc (.cells #[.slice an nn cn] 25)).alloc (.cells #[.string lo, .string hi] 27) = U at *
  refine wp_region_noPanic ?_
  refine wp_region_held_drew (S := fun v => v.cell? ⟨w.heap.size, 0, none⟩ = some (.slice an nn cn) ∧ v.cell? ⟨w.heap.size + 1, 0, none⟩ = some (.string lo) ∧ v.cell? ⟨w.heap.size + 1, 1, none⟩ = some (.string hi)) (by kernel_rfl) (⟨(K0.out.below (below_drew _)).cell (j := 0) rfl, (R0.out.below (below_drew _)).cell (j := 0) rfl, (R0.out.below (below_drew _)).cell (j := 1) rfl⟩) (fun hHeld => ?_)
  simp only [List.size_toArray, List.length_cons, List.length_nil, Array.replicate_succ, Array.replicate_zero, Nat.reduceAdd, List.push_toArray, List.nil_append, List.cons_append]
  refine wpAnyH_take (i := 0) (v := (.agg #[.slice an nn cn])) rfl (by kernel_rfl) (by kernel_rfl) (by kernel_rfl) (fun _ _ _ h => h) (Or.inl ⟨by rfl, ?_⟩) (by assumption) ?_
  · intro w hSw
    (try dsimp only at hSw)
    go_simp
  try simp only [List.getElem_toArray]
  try simp only [List.getElem_cons_succ]
  try simp only [List.getElem_cons_zero]
  try simp only [Act.put]
  try simp only [List.setIfInBounds_toArray]
  try simp only [List.set_cons_succ]
  try simp only [List.set_cons_zero]
  refine wpAnyH_take (i := 2) (v := (.agg #[.string lo, .string hi])) rfl (by kernel_rfl) (by kernel_rfl) (by kernel_rfl) (fun _ _ _ h => h) (Or.inl ⟨by rfl, ?_⟩) (by assumption) ?_
  · intro w hSw
    (try dsimp only at hSw)
    go_simp
  try simp only [List.getElem_toArray]
  try simp only [List.getElem_cons_succ]
  try simp only [List.getElem_cons_zero]
  try simp only [Act.put]
  try simp only [List.setIfInBounds_toArray]
  try simp only [List.set_cons_succ]
  try simp only [List.set_cons_zero]
  refine wpAnyH_take (i := 3) (v := (.int .i64 most)) rfl (by kernel_rfl) (by kernel_rfl) (by kernel_rfl) (fun _ _ _ h => h) (Or.inl ⟨by rfl, ?_⟩) (by assumption) ?_
  · intro w hSw
    (try dsimp only at hSw)
    go_simp
  try simp only [List.getElem_toArray]
  try simp only [List.getElem_cons_succ]
  try simp only [List.getElem_cons_zero]
  try simp only [Act.put]
  try simp only [List.setIfInBounds_toArray]
  try simp only [List.set_cons_succ]
  try simp only [List.set_cons_zero]
  refine wpAnyH_take (i := 4) (v := (.bool back)) rfl (by kernel_rfl) (by kernel_rfl) (by kernel_rfl) (fun _ _ _ h => h) (Or.inl ⟨by rfl, ?_⟩) (by assumption) ?_
  · intro w hSw
    (try dsimp only at hSw)
    go_simp
  try simp only [List.getElem_toArray]
  try simp only [List.getElem_cons_succ]
  try simp only [List.getElem_cons_zero]
  try simp only [Act.put]
  try simp only [List.setIfInBounds_toArray]
  try simp only [List.set_cons_succ]
  try simp only [List.set_cons_zero]
  refine wpAnyH_ready (rs := [1]) (by kernel_rfl) (by simp) ?_
  refine AllReadyH.cons rfl (fun K1 hK => ?_) AllReadyH.nil
  go_simp
  refine (implTreeAll_any S an nn cn ns _ (H0.out.below (below_drew _))).mono ?_
  rintro r w1 ⟨vl, rfl, hO, hb⟩
  obtain ⟨a, n, c, hv, hn⟩ := hO.shape'
  subst hv
  have hnl : n ≤ 200 := by rw [hn.out]; exact alV_len ns
  have K1' := hid ((K0.out.below (below_drew _)).below hb)
  have R1' := hid ((R0.out.below (below_drew _)).below hb)
  have B1' := hid (HBU.out.trans (((below_drew U).trans hb).mono HBU.out.size))
  have O1' : Hid (Ow w1 U.heap.size (.slice a n c) (alV ns)) := hO
  have S1' : Hid (U.heap.size ≤ w1.heap.size) := hb.size
  clear hO hb hn
  go_wp2_with fail
  refine hK.out _ _ ?_ (fun hHeld => ?_)
  · exact ⟨K1'.out.cell (j := 0) rfl, R1'.out.cell (j := 0) rfl, R1'.out.cell (j := 1) rfl⟩
  clear hK K1
  try simp only [List.getElem_toArray]
  try simp only [List.getElem_cons_succ]
  try simp only [List.getElem_cons_zero]
  try simp only [Act.put]
  try simp only [List.setIfInBounds_toArray]
  try simp only [List.set_cons_succ]
  try simp only [List.set_cons_zero]
  refine wpAnyH_ready (rs := [5]) (by kernel_rfl) (by simp) ?_
  refine AllReadyH.cons rfl (fun K1 hK => ?_) AllReadyH.nil
  go_simp
  refine (scanPairs_any a n c U.heap.size (alV ns) lo hi most back w1 O1'.out S1'.out hnl hm).mono ?_
  rintro r w2 ⟨a2, n2, c2, rfl, hrp, hb⟩
  have K2' := hid (K1'.out.to (only_of_below' hb S1'.out) (by have := HUZ.out; omega))
  have R2' := hid (R1'.out.to (only_of_below' hb S1'.out) (by have := HUZ.out; omega))
  have B2' := hid (B1'.out.trans (hb.mono HBU.out.size))
  have P2' := hid (own_mono_rp hrp HBU.out.size)
  clear hrp hb
  go_wp2_with fail
  refine hK.out _ _ ?_ (fun hHeld => ?_)
  · exact ⟨K2'.out.cell (j := 0) rfl, R2'.out.cell (j := 0) rfl, R2'.out.cell (j := 1) rfl⟩
  clear hK K1
  try simp only [List.getElem_toArray]
  try simp only [List.getElem_cons_succ]
  try simp only [List.getElem_cons_zero]
  try simp only [Act.put]
  try simp only [List.setIfInBounds_toArray]
  try simp only [List.set_cons_succ]
  try simp only [List.set_cons_zero]
  refine wpAnyH_take (i := 6) (v := (.slice a2 n2 c2)) rfl (by kernel_rfl) (by kernel_rfl) (by kernel_rfl) (fun _ _ _ h => h) (Or.inl ⟨by rfl, ?_⟩) (by assumption) ?_
  · intro w hSw
    (try dsimp only at hSw)
    go_simp
  try simp only [List.getElem_toArray]
  try simp only [List.getElem_cons_succ]
  try simp only [List.getElem_cons_zero]
  try simp only [Act.put]
  try simp only [List.setIfInBounds_toArray]
  try simp only [List.set_cons_succ]
  try simp only [List.set_cons_zero]
  refine wpAnyH_done (by kernel_rfl) ?_ _
  refine NoPanic.normal ?_
  go_wp2
  go_ret
  exact ⟨_, _, _, rfl, P2'.out, B2'.out⟩
end Go.Proofs.Ytcpdedpgjaimkaa
/-
  spec.TreeScan.
-/
namespace Go.Proofs.Ytcpdedpgjaimkaa
open Go.RowKit
theorem wpList_append_pair1 {w : World} {ops : Array Oper} {rest : List Oper} {o : Oper} {a : Act} {Q : Exit → Act → World → Prop} (hgd : o.guard = none) (s x : Operand)
    (ho : o.op = .call { callee := .builtin .append, args := #[s, x], argTypes := #[30, 30] }) (base : Nat) (v : Value) (l : List PB) (hs : a.eval s = v) (hown : Ow w base v l)
    (g : Nat) (y z : ByteArray) (hx : a.eval x = .slice (some ⟨g, 0, none⟩) 1 1) (hB : Bk w g 33 [.string y, .string z]) (hb : l.length ≤ 1048576) (hbase : base ≤ w.heap.size)
    (h : ∀ a' n' c' w', Ow w' base (.slice a' n' c') (l ++ [(y, z)]) → w.grownBy w' v.ownBlock → ((Value.slice a' n' c').ownBlock = v.ownBlock ∨ (Value.slice a' n' c').ownBlock = some w.heap.size) → wpList Try.prog ops Q rest (a.put o.dst (.slice a' n' c')) w') : wpList Try.prog ops Q (o :: rest) a w := by
  obtain ⟨i, hi, hz, hsz, hby⟩ := info_of infoPairI
  refine wpList_append_row_at hgd s x 30 ho base 33 i _ 2 32 Try.underlying30 hi hz hsz hby rfl (by decide) v l.length (pcs l) hs hown (fun _ => True) _ 1 [.string y, .string z] hx (hB.rw (Nat.le_refl _) (by omega) (fun h => by omega) _ trivial) rfl
    (by intro u hu; simp at hu; rcases hu with rfl | rfl <;> rfl) (by unfold maxLen; omega) (by omega) hbase ?_
  intro v' w' k1 k2 k3
  obtain ⟨a', c', rfl⟩ := own_shape k1
  refine h a' _ c' w' ?_ k2 k3
  unfold Ow
  rw [List.length_append, pcs_append]
  exact k1
set_option maxHeartbeats 8000000 in
theorem specTreeScan_any (ns : List NB) (hlen : ns.length ≤ 1048576) (hsm : smallN ns) (S : Nat → Prop) (an : Option Addr) (nn cn : Nat) (lo hi : ByteArray) (most : Int) (back : Bool) (w : World) (hN : Nr w S (.slice an nn cn) ns) :
    Calls Try.prog 10 #[.agg #[.slice an nn cn], .agg #[.string lo, .string hi], .int .i64 most, .bool back] w fun e w' => OwPost (scV (alV ns) lo hi most back) w e w' := by
  have HLS := hid (And.intro hlen hsm)
  have h1 := hN.len.2.1
  have h2 := hN.len.2.2
  have HBU : Hid (Below w.heap.size w (((w.alloc (.cells #[.slice an nn cn] 25)).alloc (.cells #[.string lo, .string hi] 27)).alloc (.cells #[] 33))) := below_new (below_new (below_new (Below.refl _ _)))
  have H0 := hid (hN.below HBU.out)
  have K0 : Hid (Bk (((w.alloc (.cells #[.slice an nn cn] 25)).alloc (.cells #[.string lo, .string hi] 27)).alloc (.cells #[] 33)) w.heap.size 25 [.slice an nn cn]) := ((Bk.new w 25 [.slice an nn cn]).alloc _).alloc _
  have KR : Hid (Bk (((w.alloc (.cells #[.slice an nn cn] 25)).alloc (.cells #[.string lo, .string hi] 27)).alloc (.cells #[] 33)) (w.heap.size + 1) 27 [.string lo, .string hi]) := by
    have := (Bk.new (w.alloc (.cells #[.slice an nn cn] 25)) 27 [.string lo, .string hi]).alloc (.cells #[] 33)
    show Bk _ _ _ _
    simpa using this
  have HO : Hid (Ow (((w.alloc (.cells #[.slice an nn cn] 25)).alloc (.cells #[.string lo, .string hi] 27)).alloc (.cells #[] 33)) (w.heap.size + 2) (.slice (some ⟨w.heap.size + 2, 0, none⟩) 0 0) []) := by
    have := ow_new ((w.alloc (.cells #[.slice an nn cn] 25)).alloc (.cells #[.string lo, .string hi] 27)) (w.heap.size + 2) (by simp)
    show Ow _ _ _ _
    simpa using this
  have HUZ : Hid (w.heap.size + 2 ≤ (((w.alloc (.cells #[.slice an nn cn] 25)).alloc (.cells #[.string lo, .string hi] 27)).alloc (.cells #[] 33)).heap.size) := by show _ ≤ _; simp
  clear hN hlen hsm
  go_enter Try.func10, Try.ntmps10
  have c0 := K0.out.cell (j := 0) rfl
  go_wp2_with fail
  refine (specTreeAll_any ns HLS.out.1 HLS.out.2 S an nn cn _ H0.out).mono ?_
  generalize ((w.alloc (.cells #[.slice an nn cn] 25)).alloc (.cells #[.string lo, .string hi] 27)).alloc (.cells #[] 33) = U at *
  rintro e w1 ⟨vl, rfl, hO, hb⟩
  obtain ⟨a, n, c, hv, hn⟩ := hO.shape'
  subst hv
  have hnl : n ≤ 200 := by rw [hn.out]; exact alV_len ns
  have HNL : Hid ((alV ns).length = n) := hn.out.symm
  obtain ⟨B, hB⟩ : ∃ B, B = w.heap.size + 2 := ⟨_, rfl⟩
  have HBL : Hid (w.heap.size < B ∧ w.heap.size + 1 < B) := ⟨by omega, by omega⟩
  have HB1 : Hid (Below B U w1) := by rw [hB]; exact hb.mono HUZ.out
  have HO1 : Hid (Ow w1 B (.slice (some ⟨w.heap.size + 2, 0, none⟩) 0 0) []) := by rw [hB]; exact HO.out.kept hb
  have HP1 : Hid (Pr w1 (fun b => (Value.slice (some ⟨w.heap.size + 2, 0, none⟩) 0 0).ownBlock ≠ some b) (.slice a n c) (alV ns)) := hO.pr (fun k _ h1 _ e => by
    have h3 := (World.ownsRow.lt HO.out k e).2
    omega)
  have KR1 := hid (KR.out.below hb)
  have hnc := (Rw.len HP1.out).2
  rw [← hB] at HUZ
  clear hb hO c0 H0 K0 KR HO hB hn
  generalize hll : alV ns = l at *
  have HLE := hid hll
  clear hll
  generalize hgz : w.heap.size + 2 = z2 at *
  clear hgz
  go_wp2_with fail
  go_loopw [9, 18] (fun x i wr => ∃ (j : Nat) (av : Option Addr) (nv cv : Nat), j ≤ n ∧ i = .int .i64 j ∧ x = .slice av nv cv ∧ Hid (nv = (scJ l lo hi most back j).length) ∧ Hid (Ow wr B (.slice av nv cv) (scJ l lo hi most back j)) ∧ Hid (Pr wr (fun b => (Value.slice av nv cv).ownBlock ≠ some b) (.slice a n c) l) ∧ Hid (Bk wr (w.heap.size + 1) 27 [.string lo, .string hi]) ∧ Hid (Below B U wr)) (fun _ i _ => n - (intOf i).toNat)
  case atStart => exact ⟨0, _, 0, 0, Nat.zero_le _, rfl, rfl, by show _ = _; simp [scJ], by show Ow _ _ _ _; simpa [scJ] using HO1.out, HP1.out, KR1.out, HB1.out⟩
  case round =>
    obtain ⟨j, av, nv, cv, hj, rfl, rfl, HNV, HO2, HP2, KR2, HB2⟩ := hrel
    by_cases hlt : j < n
    · have hlt' : (j : Int) < (n : Int) := by omega
      have hj0 : (0 : Int) ≤ (j : Int) := by omega
      have hnv : nv ≤ 200 := by rw [HNV.out]; have := scJ_le l lo hi most back j; have := HNL.out; omega
      have hcv := (Rw.len (HO2.out.pr (S := fun _ => True) (fun _ _ _ _ => trivial))).2
      obtain ⟨b, off, hab, _, _, _⟩ := Rw.at HP2.out (by omega)
      subst hab
      obtain ⟨d0, d1⟩ := Pr.cells HP2.out (i := j) (by have := HNL.out; omega)
      cases back with
      | false =>
        have HPJ : Hid (pAtB (dirL false l) j = ((pAtB l j).1, (pAtB l j).2)) := rfl
        have hb := below_new (o := .cells #[.string (pAtB l j).1, .string (pAtB l j).2] 33) (w := wr) (Below.refl _ _)
        have HO3 := hid (HO2.out.kept hb)
        have HP3 := hid (HP2.out.below hb)
        have KR3 := hid (KR2.out.below hb)
        have KP3 := hid (Bk.new wr 33 [.string (pAtB l j).1, .string (pAtB l j).2])
        have HB3 := hid (Below.then' HB2.out hb HUZ.out)
        clear hb HO2 HP2 KR2 HB2
        generalize (pAtB l j).1 = kk at *
        generalize (pAtB l j).2 = vv at *
        have HD : Hid (scJ l lo hi most false (j + 1) = if ((scJ l lo hi most false j).length : Int) < most ∧ rHas lo hi kk = true then scJ l lo hi most false j ++ [(kk, vv)] else scJ l lo hi most false j) := by
          have := scJ_step l lo hi most false j (by have := HNL.out; omega)
          rw [HPJ.out] at this
          exact this
        by_cases hm : (nv : Int) < most
        · have r0 := KR3.out.cell (j := 0) rfl
          have r1 := KR3.out.cell (j := 1) rfl
          have p0 := KP3.out.cell (j := 0) rfl
          have HRH := hid (fun v => specRangeHas_any lo hi kk v)
          simp only [rng] at HRH
          go_wp2_with fail
          refine (HRH.out _).mono ?_
          rintro e w5 ⟨rfl, hb⟩
          have HO5 := hid (HO3.out.kept hb)
          have HP5 := hid (HP3.out.below hb)
          have KR5 := hid (KR3.out.below hb)
          have KP5 := hid (KP3.out.below hb)
          have HB5 := hid (Below.then' HB3.out hb HUZ.out)
          have HG5 := hid hb.size
          clear hb r0 r1 p0 HO3 HP3 KR3 KP3 HB3
          cases hh : rHas lo hi kk with
          | false =>
            have HD2 : Hid (scJ l lo hi most false (j + 1) = scJ l lo hi most false j) := by have := HD.out; rw [hh] at this; show _ = _; simpa using this
            clear hh
            go_wp2
            go_roundw
            case rel => exact ⟨j + 1, av, nv, cv, by omega, by go_num, rfl, by rw [HD2.out]; exact HNV.out, by rw [HD2.out]; exact HO5.out, HP5.out, KR5.out, HB5.out⟩
            case measure => simp [intOf]; omega
          | true =>
            have HD2 : Hid (scJ l lo hi most false (j + 1) = scJ l lo hi most false j ++ [(kk, vv)]) := by
              have := HD.out
              rw [hh, if_pos ⟨by rw [← HNV.out]; exact hm, rfl⟩] at this
              exact this
            clear hh
            have p0 := KP5.out.cell (j := 0) rfl
            have p1 := KP5.out.cell (j := 1) rfl
            have hb := below_new (o := .cells #[.string kk, .string vv] 33) (w := w5) (Below.refl _ _)
            have KS6 := hid (Bk.new w5 33 [.string kk, .string vv])
            have HO6 := hid (HO5.out.kept hb)
            have HP6 := hid (HP5.out.below hb)
            have KR6 := hid (KR5.out.below hb)
            have HB6 := hid (Below.then' HB5.out hb HUZ.out)
            clear hb HO5 HP5 KR5 KP5 HB5
            go_wp2_with (at_builtin; refine wpList_append_pair1 rfl _ _ rfl B _ (scJ l lo hi most false j) rfl HO6.out w5.heap.size kk vv rfl KS6.out ?q1 ?q2 ?_)
            case q1 => have := scJ_le l lo hi most false j; have := HNL.out; omega
            case q2 => have h1 := HB6.out.size; have h2 := HUZ.out; omega
            intro a7 n7 c7 w7 hO7 hg7 hown7
            have HB7 : Hid (Below B U w7) := HB6.out.trans (grown_belowB HO6.out hg7 (by have h1 := HB6.out.size; have h2 := HUZ.out; omega))
            have hon := only_of_grown hg7 (R := fun b => (Value.slice av nv cv).ownBlock = some b) (fun k hk => hk)
            have HP7 : Hid (Pr w7 (fun b => (Value.slice a7 n7 c7).ownBlock ≠ some b) (.slice (some ⟨b, off, none⟩) n c) l) := by
              refine Rw.mono (R := fun b => (Value.slice a7 n7 c7).ownBlock ≠ some b) (Rw.to (S := fun b => (Value.slice av nv cv).ownBlock ≠ some b ∧ b < (w5.alloc (.cells #[.string kk, .string vv] 33)).heap.size) (Rw.mono HP6.out (fun b h1 h2 => ⟨h1, h2⟩)) hon (fun b hb _ hr => hb.1 hr)) (fun b hb _ => ?_)
              rcases hown7 with e | e
              · rw [e]; exact hb.1
              · rw [e]; intro h; cases h; exact absurd hb.2 (by simp)
            have KR7 : Hid (Bk w7 (w.heap.size + 1) 27 [.string lo, .string hi]) := KR6.out.to hon (by
              intro h
              have := World.ownsRow.lt HO6.out _ h
              have := HBL.out
              omega)
            have HO7 : Hid (Ow w7 B (.slice a7 n7 c7) (scJ l lo hi most false j ++ [(kk, vv)])) := hO7
            obtain ⟨_, _, _, hsh, HN7⟩ := hO7.shape'
            cases hsh
            clear hO7 hg7 hown7 hon HO6 HP6 KR6 HB6 KS6 p0 p1
            generalize hdj : scJ l lo hi most false j ++ [(kk, vv)] = dj at *
            clear hdj
            go_wp2
            go_roundw
            case rel => exact ⟨j + 1, a7, n7, c7, by omega, by go_num, rfl, by rw [HD2.out]; exact HN7.out, by rw [HD2.out]; exact HO7.out, HP7.out, KR7.out, HB7.out⟩
            case measure => simp [intOf]; omega
        · have HD2 : Hid (scJ l lo hi most false (j + 1) = scJ l lo hi most false j) := by
            have := HD.out
            rw [if_neg (by rw [← HNV.out]; exact fun h => hm h.1)] at this
            exact this
          go_wp2
          go_roundw
          case rel => exact ⟨j + 1, av, nv, cv, by omega, by go_num, rfl, by rw [HD2.out]; exact HNV.out, by rw [HD2.out]; exact HO3.out, HP3.out, KR3.out, HB3.out⟩
          case measure => simp [intOf]; omega
      | true =>
        have HPJ : Hid (pAtB (dirL true l) j = ((pAtB l (n - 1 - j)).1, (pAtB l (n - 1 - j)).2)) := by
          show _ = _
          rw [dirL_at l j (by have := HNL.out; omega), HNL.out]
        have hjn : (n : Int) - 1 - (j : Int) = ((n - 1 - j : Nat) : Int) := by omega
        obtain ⟨f0, f1⟩ := Pr.cells HP2.out (i := n - 1 - j) (by have := HNL.out; omega)
        have hq : ((n - 1 - j : Nat) : Int) < (n : Int) := by omega
        generalize n - 1 - j = q at *
        have hb := below_new (o := .cells #[.string (pAtB l j).1, .string (pAtB l j).2] 33) (w := wr) (Below.refl _ _)
        have KP2 := hid (Bk.new wr 33 [.string (pAtB l j).1, .string (pAtB l j).2])
        have g0 : (wr.alloc (.cells #[.string (pAtB l j).1, .string (pAtB l j).2] 33)).cell? ⟨b, off + q * 2, none⟩ = some (.string (pAtB l q).1) := by rw [hb.cell (p := ⟨b, off + q * 2, none⟩) (block_lt f0)]; exact f0
        have g1 : (wr.alloc (.cells #[.string (pAtB l j).1, .string (pAtB l j).2] 33)).cell? ⟨b, off + q * 2 + 1, none⟩ = some (.string (pAtB l q).2) := by rw [hb.cell (p := ⟨b, off + q * 2 + 1, none⟩) (block_lt f1)]; exact f1
        have hbs := below_new (o := .cells #[.string (pAtB l q).1, .string (pAtB l q).2] 33) (w := wr) (Below.refl _ _)
        have HO3 := hid (HO2.out.kept hbs)
        have HP3 := hid (HP2.out.below hbs)
        have KR3 := hid (KR2.out.below hbs)
        have KP3 := hid (Bk.new wr 33 [.string (pAtB l q).1, .string (pAtB l q).2])
        have HB3 := hid (Below.then' HB2.out hbs HUZ.out)
        have w0 := KP2.out.cell (j := 0) rfl
        have w1' := KP2.out.cell (j := 1) rfl
        have z0 := KP2.out.free 0
        have z1 := KP2.out.free 1
        clear hb hbs HO2 HP2 KR2 HB2 KP2 f0 f1
        generalize (pAtB l j).1 = k0 at *
        generalize (pAtB l j).2 = v0 at *
        generalize (pAtB l q).1 = kk at *
        generalize (pAtB l q).2 = vv at *
        have HD : Hid (scJ l lo hi most true (j + 1) = if ((scJ l lo hi most true j).length : Int) < most ∧ rHas lo hi kk = true then scJ l lo hi most true j ++ [(kk, vv)] else scJ l lo hi most true j) := by
          have := scJ_step l lo hi most true j (by have := HNL.out; omega)
          rw [HPJ.out] at this
          exact this
        by_cases hm : (nv : Int) < most
        · have r0 := KR3.out.cell (j := 0) rfl
          have r1 := KR3.out.cell (j := 1) rfl
          have p0 := KP3.out.cell (j := 0) rfl
          have HRH := hid (fun v => specRangeHas_any lo hi kk v)
          simp only [rng] at HRH
          go_wp2_with fail
          refine (HRH.out _).mono ?_
          rintro e w5 ⟨rfl, hb⟩
          have HO5 := hid (HO3.out.kept hb)
          have HP5 := hid (HP3.out.below hb)
          have KR5 := hid (KR3.out.below hb)
          have KP5 := hid (KP3.out.below hb)
          have HB5 := hid (Below.then' HB3.out hb HUZ.out)
          have HG5 := hid hb.size
          clear hb r0 r1 p0 HO3 HP3 KR3 KP3 HB3
          cases hh : rHas lo hi kk with
          | false =>
            have HD2 : Hid (scJ l lo hi most true (j + 1) = scJ l lo hi most true j) := by have := HD.out; rw [hh] at this; show _ = _; simpa using this
            clear hh
            go_wp2
            go_roundw
            case rel => exact ⟨j + 1, av, nv, cv, by omega, by go_num, rfl, by rw [HD2.out]; exact HNV.out, by rw [HD2.out]; exact HO5.out, HP5.out, KR5.out, HB5.out⟩
            case measure => simp [intOf]; omega
          | true =>
            have HD2 : Hid (scJ l lo hi most true (j + 1) = scJ l lo hi most true j ++ [(kk, vv)]) := by
              have := HD.out
              rw [hh, if_pos ⟨by rw [← HNV.out]; exact hm, rfl⟩] at this
              exact this
            clear hh
            have p0 := KP5.out.cell (j := 0) rfl
            have p1 := KP5.out.cell (j := 1) rfl
            have hb := below_new (o := .cells #[.string kk, .string vv] 33) (w := w5) (Below.refl _ _)
            have KS6 := hid (Bk.new w5 33 [.string kk, .string vv])
            have HO6 := hid (HO5.out.kept hb)
            have HP6 := hid (HP5.out.below hb)
            have KR6 := hid (KR5.out.below hb)
            have HB6 := hid (Below.then' HB5.out hb HUZ.out)
            clear hb HO5 HP5 KR5 KP5 HB5
            go_wp2_with (at_builtin; refine wpList_append_pair1 rfl _ _ rfl B _ (scJ l lo hi most true j) rfl HO6.out w5.heap.size kk vv rfl KS6.out ?q1 ?q2 ?_)
            case q1 => have := scJ_le l lo hi most true j; have := HNL.out; omega
            case q2 => have h1 := HB6.out.size; have h2 := HUZ.out; omega
            intro a7 n7 c7 w7 hO7 hg7 hown7
            have HB7 : Hid (Below B U w7) := HB6.out.trans (grown_belowB HO6.out hg7 (by have h1 := HB6.out.size; have h2 := HUZ.out; omega))
            have hon := only_of_grown hg7 (R := fun b => (Value.slice av nv cv).ownBlock = some b) (fun k hk => hk)
            have HP7 : Hid (Pr w7 (fun b => (Value.slice a7 n7 c7).ownBlock ≠ some b) (.slice (some ⟨b, off, none⟩) n c) l) := by
              refine Rw.mono (R := fun b => (Value.slice a7 n7 c7).ownBlock ≠ some b) (Rw.to (S := fun b => (Value.slice av nv cv).ownBlock ≠ some b ∧ b < (w5.alloc (.cells #[.string kk, .string vv] 33)).heap.size) (Rw.mono HP6.out (fun b h1 h2 => ⟨h1, h2⟩)) hon (fun b hb _ hr => hb.1 hr)) (fun b hb _ => ?_)
              rcases hown7 with e | e
              · rw [e]; exact hb.1
              · rw [e]; intro h; cases h; exact absurd hb.2 (by simp)
            have KR7 : Hid (Bk w7 (w.heap.size + 1) 27 [.string lo, .string hi]) := KR6.out.to hon (by
              intro h
              have := World.ownsRow.lt HO6.out _ h
              have := HBL.out
              omega)
            have HO7 : Hid (Ow w7 B (.slice a7 n7 c7) (scJ l lo hi most true j ++ [(kk, vv)])) := hO7
            obtain ⟨_, _, _, hsh, HN7⟩ := hO7.shape'
            cases hsh
            clear hO7 hg7 hown7 hon HO6 HP6 KR6 HB6 KS6 p0 p1
            generalize hdj : scJ l lo hi most true j ++ [(kk, vv)] = dj at *
            clear hdj
            go_wp2
            go_roundw
            case rel => exact ⟨j + 1, a7, n7, c7, by omega, by go_num, rfl, by rw [HD2.out]; exact HN7.out, by rw [HD2.out]; exact HO7.out, HP7.out, KR7.out, HB7.out⟩
            case measure => simp [intOf]; omega
        · have HD2 : Hid (scJ l lo hi most true (j + 1) = scJ l lo hi most true j) := by
            have := HD.out
            rw [if_neg (by rw [← HNV.out]; exact fun h => hm h.1)] at this
            exact this
          go_wp2
          go_roundw
          case rel => exact ⟨j + 1, av, nv, cv, by omega, by go_num, rfl, by rw [HD2.out]; exact HNV.out, by rw [HD2.out]; exact HO3.out, HP3.out, KR3.out, HB3.out⟩
          case measure => simp [intOf]; omega
    · have hlt' : ¬ (j : Int) < (n : Int) := by omega
      have hjn : j = n := by omega
      have HE : Hid (scJ l lo hi most back j = scV l lo hi most back) := by show _ = _; rw [hjn, ← HNL.out]; exact scJ_end l lo hi most back
      go_wp2
      go_ret
      refine ⟨_, rfl, ?_, ?_⟩
      · rw [HLE.out, ← HE.out]; exact own_mono HO2.out (by have := HBL.out; omega)
      · exact HBU.out.trans (HB2.out.mono (by have := HBL.out; omega))
end Go.Proofs.Ytcpdedpgjaimkaa
/-
  The law FnScan answers true at every slice of bytes, and writes nothing that was there.
-/
namespace Go.Proofs.Ytcpdedpgjaimkaa
open Go.RowKit
theorem eql_pair (a b : ByteArray) (w : World) : (binOp .eql 33 (.agg #[.string a, .string b]) (.agg #[.string a, .string b])).run Try.prog w = .ok (.bool true) w := by
  have u9 := Try.underlying9
  have hS : Try.prog.underlying 33 = some (.struct (Try.prog.fieldsOf 33)) := by kernel_rfl
  have hp : Try.prog.stoodInHeld 33 = false := by kernel_rfl
  rw [run_eql_struct, show (10000 : Nat) = 9999 + 1 from rfl, run_equalIn_agg w 9999 33 _ _ hS hp]
  simp only [Program.fieldsOf, Try.underlying33]
  go_simp
theorem neq_pair_same (a b : ByteArray) (w : World) : (binOp .neq 33 (.agg #[.string a, .string b]) (.agg #[.string a, .string b])).run Try.prog w = .ok (.bool false) w := by
  rw [neq_pair, decide_eq_true rfl]; rfl
/-- The drawn tree and range, in their boxes. -/
structure Ls (w v : World) (tb xb : Nat) (ta : Option Addr) (tn tc : Nat) (ns : List NB) (lo hi : ByteArray) : Prop where
  be : Below w.heap.size w v
  bt : Bk v tb 25 [.slice ta tn tc]
  nt : Nr v (fun _ => True) (.slice ta tn tc) ns
  bx : Bk v xb 27 [.string lo, .string hi]
theorem Ls.below {w v v' : World} {tb xb : Nat} {ta : Option Addr} {tn tc : Nat} {ns : List NB} {lo hi : ByteArray} (h : Ls w v tb xb ta tn tc ns lo hi) (hb : Below v.heap.size v v') : Ls w v' tb xb ta tn tc ns lo hi :=
  ⟨bthn h.be hb, h.bt.below hb, h.nt.below hb, h.bx.below hb⟩
theorem Ls.ct {w v : World} {tb xb : Nat} {ta : Option Addr} {tn tc : Nat} {ns : List NB} {lo hi : ByteArray} (h : Ls w v tb xb ta tn tc ns lo hi) : v.cell? ⟨tb, 0, none⟩ = some (.slice ta tn tc) ∧ v.cell? ⟨xb, 0, none⟩ = some (.string lo) ∧ v.cell? ⟨xb, 1, none⟩ = some (.string hi) := ⟨h.bt.cell (j := 0) rfl, h.bx.cell (j := 0) rfl, h.bx.cell (j := 1) rfl⟩
theorem rev_at {l : List PB} {i : Nat} (h : i < l.length) : pAtB l.reverse (l.length - 1 - i) = pAtB l i := by
  rw [pAtB_lt h, pAtB_lt (by rw [List.length_reverse]; omega), List.getElem_reverse]
  congr 1
  omega
theorem take1_at {l : List PB} (h : 0 < l.length) : pAtB (l.take 1) 0 = pAtB l 0 := by
  cases l with
  | nil => simp at h
  | cons x l => rfl
set_option maxHeartbeats 8000000 in
set_option maxRecDepth 20000 in
theorem lawFScan_walk (a : Option Addr) (n c : Nat) (z0 : List Int) (w : World) (w0 : IsRow .u8 w a n c z0) :
    Calls Try.prog 3 #[.slice a n c] w fun e w' => e = .returned (.bool true) ∧ Below w.heap.size w w' := by
  by_cases hbig : 1048576 < n
  · have hb' : (1048576 : Int) < (n : Int) := by omega
    clear w0
    go_enter Try.func3, Try.ntmps3
    go_wp2
    go_ret
    exact ⟨rfl, Below.refl _ _⟩
  · have hrd := rd_of_row w0 (by omega)
    generalize z0.take n = zs at hrd
    have hns : ¬ (1048576 : Int) < (n : Int) := by omega
    clear w0
    have HR : Hid (Rd w a n c zs) := hrd
    clear hrd
    go_enter Try.func3, Try.ntmps3
    go_wp2_with fail
    refine (drawTreeScan_any a n c zs _ HR.out (by omega)).mono ?_
    rintro e w1 ⟨ta, tn, tc, ns, lo, hi, x0, y0, rfl, hN1, hs1, hb1⟩
    have HS := hid hs1
    have L1 : Hid (Ls w ((w1.alloc (.cells #[.slice ta tn tc] 25)).alloc (.cells #[.string lo, .string hi] 27)) w1.heap.size (w1.heap.size + 1) ta tn tc ns lo hi) := by
      have b1 := below_alloc w1 (.cells #[.slice ta tn tc] 25)
      have b2 := below_alloc (w1.alloc (.cells #[.slice ta tn tc] 25)) (.cells #[.string lo, .string hi] 27)
      refine ⟨bthn (bthn hb1 b1) b2, (Bk.new w1 25 [.slice ta tn tc]).below b2, (hN1.below b1).below b2, ?_⟩
      have := Bk.new (w1.alloc (.cells #[.slice ta tn tc] 25)) 27 [.string lo, .string hi]
      simpa using this
    have HLN := hid (alV_len ns)
    clear hN1 hs1 hb1 HR
    obtain ⟨t1, x1, x2⟩ := L1.out.ct
    go_wp2_with fail
    refine (implTreeScan_any _ ta tn tc ns lo hi 200 false _ L1.out.nt (by omega)).mono ?_
    generalize (w1.alloc (.cells #[.slice ta tn tc] 25)).alloc (.cells #[.string lo, .string hi] 27) = U1 at *
    generalize w1.heap.size + 1 = xb at *
    generalize w1.heap.size = tb at *
    rintro e w2 ⟨aa, an, ac, rfl, hA2, hb2⟩
    have L2 := hid (L1.out.below hb2)
    have A2 := hid (Rw.mono hA2.pr (R := fun _ => True) (fun _ _ _ => trivial))
    clear hA2 hb2 L1 t1 x1 x2
    obtain ⟨t1, x1, x2⟩ := L2.out.ct
    go_wp2_with fail
    refine (implTreeScan_any _ ta tn tc ns lo hi 200 true _ L2.out.nt (by omega)).mono ?_
    rintro e w3 ⟨ba, bn, bc, rfl, hB3, hb3⟩
    have L3 := hid (L2.out.below hb3)
    have A3 := hid (Rw.below A2.out hb3)
    have B3 := hid (Rw.mono hB3.pr (R := fun _ => True) (fun _ _ _ => trivial))
    clear hB3 hb3 L2 A2 t1 x1 x2
    obtain ⟨t1, x1, x2⟩ := L3.out.ct
    go_wp2_with fail
    refine (specTreeScan_any ns HS.out.2 HS.out.1 _ ta tn tc lo hi 200 false _ L3.out.nt).mono ?_
    rintro e w4 ⟨v4, rfl, hO4, hb4⟩
    obtain ⟨sa, sn, sc, rfl, hsn⟩ := hO4.shape'
    have L4 := hid (L3.out.below hb4)
    have A4 := hid (Rw.below A3.out hb4)
    have B4 := hid (Rw.below B3.out hb4)
    clear hO4 hb4 L3 A3 B3 t1 x1 x2
    have HONE := hid (scV_one HLN.out lo hi)
    have HBK := hid (scV_back HLN.out lo hi)
    have HHA := hid (fun (i : Nat) h => scV_has HLN.out lo hi (i := i) h)
    have HLA : Hid ((scV (alV ns) lo hi 200 false).length ≤ 200) := by
      show _ ≤ _
      rw [scV, List.length_take]
      exact Nat.le_trans (Nat.min_le_left _ _) (by decide)
    rw [HBK.out] at HONE B4
    generalize scV (alV ns) lo hi 200 false = A at *
    have han : Hid (an = A.length) := (Rw.len A4.out).1
    have hbn : Hid (bn = A.length) := by have := (Rw.len B4.out).1; rw [List.length_reverse] at this; exact this
    obtain rfl : sn = an := by rw [hsn.out, han.out]
    obtain rfl : bn = sn := by rw [hbn.out, han.out]
    have hac := (Rw.len A4.out).2
    have hbc := (Rw.len B4.out).2
    have hn2 : bn ≤ 200 := by rw [hbn.out]; exact HLA.out
    have hnn : ((bn : Int) != (bn : Int)) = false := by simp
    clear hsn HLA hbn HLN
    go_wp2_with fail
    go_loopw [43] (fun i wr => ∃ (j : Nat), j ≤ bn ∧ i = .int .i64 j ∧ Hid (Pr wr (fun _ => True) (.slice aa bn ac) A) ∧ Hid (Pr wr (fun _ => True) (.slice ba bn bc) A.reverse) ∧ Hid (Ls w wr tb xb ta tn tc ns lo hi)) (fun i _ => bn - (intOf i).toNat)
    case atStart => exact ⟨0, Nat.zero_le _, rfl, A4.out, B4.out, L4.out⟩
    case round =>
      obtain ⟨j, hj, rfl, A5, B5, L5⟩ := hrel
      clear A4 B4 L4
      by_cases hlt : j < bn
      · have hlt' : (j : Int) < (bn : Int) := by omega
        have hjA : j < A.length := by rw [← han.out]; exact hlt
        have HC : Hid (∀ v, Below wr.heap.size wr v → ∃ pb po qb qo, aa = some ⟨pb, po, none⟩ ∧ ba = some ⟨qb, qo, none⟩ ∧ v.cell? ⟨pb, po + j * 2, none⟩ = some (.string (pAtB A j).1) ∧ v.cell? ⟨pb, po + j * 2 + 1, none⟩ = some (.string (pAtB A j).2) ∧ v.cell? ⟨qb, qo + (bn - 1 - j) * 2, none⟩ = some (.string (pAtB A j).1) ∧ v.cell? ⟨qb, qo + (bn - 1 - j) * 2 + 1, none⟩ = some (.string (pAtB A j).2)) := by
          intro v hb
          obtain ⟨pb, po, e1, -, -, hc⟩ := (Pr.at (Rw.below A5.out hb) (by omega))
          obtain ⟨qb, qo, e2, -, -, hd⟩ := (Pr.at (Rw.below B5.out hb) (by omega))
          have e3 : pAtB A.reverse (bn - 1 - j) = pAtB A j := by rw [han.out]; exact rev_at hjA
          have hd' := hd (bn - 1 - j) (by omega)
          rw [e3] at hd'
          exact ⟨pb, po, qb, qo, e1, e2, (hc j hlt).1, (hc j hlt).2, hd'.1, hd'.2⟩
        obtain ⟨pb, po, qb, qo, rfl, rfl, m0, m1, m2, m3⟩ := HC.out _ (below_drew _)
        have HRH : Hid (∀ v, Calls Try.prog 11 #[.agg #[.string lo, .string hi], .string (pAtB A j).1] v fun e w' => e = .returned (.bool true) ∧ Below v.heap.size v w') := fun v => by
          have := implRangeHas_any lo hi (pAtB A j).1 v
          rwa [HHA.out j hjA] at this
        have hw1 : IntKind.i64.wrap ((bn : Int) - 1) = (bn : Int) - 1 := by simp [IntKind.wrap, IntKind.signed, IntKind.bits]; omega
        obtain ⟨d, hd⟩ : ∃ d, d = bn - 1 - j := ⟨_, rfl⟩
        rw [← hd] at m2 m3
        have hdd : (bn : Int) - 1 - (j : Int) = (d : Int) := by omega
        have hw2 : IntKind.i64.wrap ((bn : Int) - 1 - (j : Int)) = (d : Int) := by rw [hdd]; simp [IntKind.wrap, IntKind.signed, IntKind.bits]; omega
        have hdl : (d : Int) < (bn : Int) := by omega
        have hw3 : IntKind.i64.wrap (d : Int) = (d : Int) := by simp [IntKind.wrap, IntKind.signed, IntKind.bits]; omega
        clear HC hd hdd
        generalize (pAtB A j).1 = kk at *
        generalize (pAtB A j).2 = vv at *
        have hnq := neq_pair_same kk vv
        have L6 := hid (L5.out.below (below_drew _))
        have A6 := hid (Rw.below A5.out (below_drew _))
        have B6 := hid (Rw.below B5.out (below_drew _))
        clear L5 A5 B5
        obtain ⟨t6, y6, z6⟩ := L6.out.ct
        go_wp2_with fail
        go_region_with (go_at_call 11; refine (HRH.out _).mono ?_; rintro e w8 ⟨rfl, hb8⟩; have L8 := L6.out.below hb8; have A8 := Rw.below A6.out hb8; have B8 := Rw.below B6.out hb8)
        all_goals
          have L9 := hid L8
          have A9 := hid A8
          have B9 := hid B8
          clear L8 A8 B8 hb8 L6 A6 B6
          go_wp2
          go_roundw
          case rel => exact ⟨j + 1, by omega, by go_num, A9.out, B9.out, L9.out⟩
          case measure => simp [intOf]; omega
      · have hlt' : ¬ (j : Int) < (bn : Int) := by omega
        obtain ⟨t6, y6, z6⟩ := L5.out.ct
        clear HHA hj
        go_wp2_with fail
        refine (implTreeScan_any _ ta tn tc ns lo hi 1 true _ L5.out.nt (by omega)).mono ?_
        rw [HONE.out]
        rintro e w7 ⟨oa, on, oc, rfl, hO7, hb7⟩
        have HB7 := hid (L5.out.below hb7).be
        have O7 := hid (Rw.mono hO7.pr (R := fun _ => True) (fun _ _ _ => trivial))
        have B7 := hid (Rw.below B5.out hb7)
        have hon : on = (A.reverse.take 1).length := (Rw.len O7.out).1
        rw [List.length_take, List.length_reverse, ← han.out] at hon
        clear hO7 hb7 L5 A5 B5 t6 y6 z6
        by_cases hz : bn = 0
        · subst hz
          have h0 : on = 0 := by omega
          subst h0
          clear O7 B7 hlt' hon
          go_wp2_with fail
          go_quiet (fail)
          go_wp2
          go_ret
          exact ⟨rfl, bthn HB7.out (below_drewN _ _)⟩
        · have h1 : on = 1 := by omega
          subst h1
          have hz' : ¬ (bn : Int) = 0 := by omega
          obtain ⟨pb, po, e1, -, -, hc⟩ := Pr.at O7.out (by omega)
          obtain ⟨qb, qo, e2, -, -, hd⟩ := Pr.at B7.out (by omega)
          subst e1 e2
          have e3 : pAtB (A.reverse.take 1) 0 = pAtB A.reverse 0 := take1_at (by rw [List.length_reverse, ← han.out]; omega)
          have c0 := (hc 0 (by omega)).1
          have c1 := (hc 0 (by omega)).2
          have d0 := (hd 0 (by omega)).1
          have d1 := (hd 0 (by omega)).2
          rw [e3] at c0 c1
          generalize (pAtB A.reverse 0).1 = kk at *
          generalize (pAtB A.reverse 0).2 = vv at *
          simp only [Nat.zero_mul, Nat.add_zero] at c0 c1 d0 d1
          have heq := eql_pair kk vv
          have hb0 : (0 : Int) < (bn : Int) := by omega
          have hb1 : 0 < bn := by omega
          have e1 : ((bn : Int) == 0) = false := by simp; omega
          have e2 : decide ((bn : Int) = 0) = false := decide_eq_false hz'
          have e4 : decide (bn = 0) = false := decide_eq_false hz
          clear hc hd e3 O7 B7 hlt' hon
          go_wp2_with fail
          go_quiet (fail)
          go_wp2
          go_ret
          exact ⟨rfl, bthn HB7.out (below_drewN _ _)⟩
end Go.Proofs.Ytcpdedpgjaimkaa
