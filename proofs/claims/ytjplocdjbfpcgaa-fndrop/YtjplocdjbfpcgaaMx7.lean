/-
  What the laws of put and drop hold in hand: the drawn tree and what came of it.
-/
import Derived.Test.YtjplocdjbfpcgaaMx5
import Derived.Test.YtjplocdjbfpcgaaMx6
namespace Go.Proofs.Ytjplocdjbfpcgaa
open Go.RowKit
structure Lw (w v : World) (tb : Nat) (ta : Option Addr) (tn tc : Nat) (ns : List NB) (ub : Nat) (ua : Option Addr) (un uc : Nat) (ms : List NB) : Prop where
  be : Below w.heap.size w v
  bt : Bk v tb 25 [.slice ta tn tc]
  nt : Nr v (fun _ => True) (.slice ta tn tc) ns
  bu : Bk v ub 25 [.slice ua un uc]
  nu : Nr v (fun _ => True) (.slice ua un uc) ms
theorem Lw.below {w v v' : World} {tb : Nat} {ta : Option Addr} {tn tc : Nat} {ns : List NB} {ub : Nat} {ua : Option Addr} {un uc : Nat} {ms : List NB} (h : Lw w v tb ta tn tc ns ub ua un uc ms) (hb : Below v.heap.size v v') : Lw w v' tb ta tn tc ns ub ua un uc ms :=
  ⟨bthn h.be hb, h.bt.below hb, h.nt.below hb, h.bu.below hb, h.nu.below hb⟩
theorem Lw.ct {w v : World} {tb : Nat} {ta : Option Addr} {tn tc : Nat} {ns : List NB} {ub : Nat} {ua : Option Addr} {un uc : Nat} {ms : List NB} (h : Lw w v tb ta tn tc ns ub ua un uc ms) : v.cell? ⟨tb, 0, none⟩ = some (.slice ta tn tc) := h.bt.cell (j := 0) rfl
theorem Lw.cu {w v : World} {tb : Nat} {ta : Option Addr} {tn tc : Nat} {ns : List NB} {ub : Nat} {ua : Option Addr} {un uc : Nat} {ms : List NB} (h : Lw w v tb ta tn tc ns ub ua un uc ms) : v.cell? ⟨ub, 0, none⟩ = some (.slice ua un uc) := h.bu.cell (j := 0) rfl
theorem dpV_bounds (ms ns : List NB) : -1 ≤ dpV ms ∧ dpV ns ≤ 1048576 := by
  constructor
  · unfold dpV
    split
    · exact Int.le_refl _
    · omega
  · unfold dpV
    split
    · omega
    · rename_i t h
      have h1 := (okT_facts h).lv
      have h2 := dpt_le t
      omega
theorem delS_step {l : List PB} {j : Nat} (hj : j < l.length) (k : ByteArray) : delS (l.take (j + 1)) k = if (pAtB l j).1 = k then delS (l.take j) k else delS (l.take j) k ++ [((pAtB l j).1, (pAtB l j).2)] := by
  rw [delS, List.take_succ_eq_append_getElem hj, ← pAtB_lt hj, List.filter_append]
  by_cases e : (pAtB l j).1 = k
  · simp [e, delS]
  · simp [e, delS]
theorem delS_le (l : List PB) (k : ByteArray) : (delS l k).length ≤ l.length := List.length_filter_le _ _
end Go.Proofs.Ytjplocdjbfpcgaa
/-
  l03Big, DrawTreePut: some small list of nodes, some key, some value.
-/
namespace Go.Proofs.Ytjplocdjbfpcgaa
open Go.RowKit
theorem Ow.grownOther {w w' : World} {base b : Nat} {T : TypeId} {vs : List Value} {v : Value} {l : List PB} (h : Bk w b T vs) (ho : Ow w base v l) (hg : w.grownBy w' v.ownBlock) (hb : b < base) : Bk w' b T vs := h.to (only_of_grown hg (R := fun y => v.ownBlock = some y) (fun k e => e)) (fun e => by have := own_base ho b e; omega)
def BgPost (w : World) (e : Ending) (w' : World) : Prop := ∃ a n c ns, e = .returned (.agg #[.slice a n c]) ∧ Nr w' (fun y => w.heap.size < y) (.slice a n c) ns ∧ (smallN ns ∧ ns.length ≤ 1048576) ∧ Below w.heap.size w w'
set_option maxHeartbeats 4000000 in
set_option maxRecDepth 20000 in
theorem big_any (m : Nat) (w : World) (hm : m ≤ 200) : Calls Try.prog 39 #[.int .i64 (m : Int)] w fun e w' => BgPost w e w' := by
  have HBU : Hid (Below w.heap.size w ((w.alloc (.cells #[.slice none 0 0] 25)).alloc (.cells #[] 35))) := below_new (below_new (Below.refl _ _))
  have K0 : Hid (Bk ((w.alloc (.cells #[.slice none 0 0] 25)).alloc (.cells #[] 35)) w.heap.size 25 [.slice none 0 0]) := (Bk.new w 25 [.slice none 0 0]).alloc _
  have HO : Hid (Ow ((w.alloc (.cells #[.slice none 0 0] 25)).alloc (.cells #[] 35)) (w.heap.size + 1) (.slice (some ⟨w.heap.size + 1, 0, none⟩) 0 0) []) := by
    have := ow_new (w.alloc (.cells #[.slice none 0 0] 25)) (w.heap.size + 1) (by simp)
    show Ow _ _ _ _
    simpa using this
  have HZ0 : Hid (w.heap.size + 1 ≤ ((w.alloc (.cells #[.slice none 0 0] 25)).alloc (.cells #[] 35)).heap.size) := by show _ ≤ _; simp
  go_enter Try.func39, Try.ntmps39
  go_wp2_with fail
  generalize (w.alloc (.cells #[.slice none 0 0] 25)).alloc (.cells #[] 35) = U at *
  generalize hB : w.heap.size + 1 = B at *
  have HBB : Hid (w.heap.size < B) := by show _ < _; omega
  clear hB
  go_loopw [3, 4] (fun x i wr => ∃ (j : Nat) (av : Option Addr) (nv cv : Nat) (l : List PB), j ≤ m ∧ i = .int .i64 j ∧ x = .slice av nv cv ∧ Hid (Ow wr B (.slice av nv cv) l) ∧ Hid (l.length = j) ∧ Hid (Bk wr w.heap.size 25 [.slice none 0 0]) ∧ Hid (Below w.heap.size w wr) ∧ Hid (B ≤ wr.heap.size)) (fun _ i _ => m - (intOf i).toNat)
  case atStart => exact ⟨0, _, _, _, [], Nat.zero_le _, rfl, rfl, HO.out, rfl, K0.out, HBU.out, HZ0.out⟩
  case round =>
    obtain ⟨j, av, nv, cv, l, hj, rfl, rfl, O1, L1, K1, B1, Z1⟩ := hrel
    clear HBU K0 HO HZ0
    by_cases hlt : j < m
    · have hlt' : (j : Int) < (m : Int) := by omega
      go_wp2_with fail
      refine (numText4 ((1000 : Int) + (j : Int)) _ (by omega) (by omega)).mono ?_
      rintro e w1 ⟨⟨s, rfl, hs⟩, hb1⟩
      have ba := below_new (o := .cells #[.string (ByteArray.append ⟨#[107]⟩ s), .string ⟨#[]⟩] 35) (w := w1) (Below.refl _ _)
      have O2 := hid ((O1.out.kept hb1).kept ba)
      have K2 := hid ((K1.out.below hb1).below ba)
      have B2 := hid (bthn (bthn B1.out hb1) ba)
      have Z2 : Hid (B ≤ (w1.alloc (.cells #[.string (ByteArray.append ⟨#[107]⟩ s), .string ⟨#[]⟩] 35)).heap.size) := Nat.le_trans (Nat.le_trans Z1.out hb1.size) ba.size
      have P2 := hid (Bk.new w1 35 [.string (ByteArray.append ⟨#[107]⟩ s), .string ⟨#[]⟩])
      have hll : l.length ≤ 1048576 := by rw [L1.out]; omega
      clear hb1 ba O1 K1 B1 Z1
      go_wp2_with (at_builtin; refine wpList_append_pair1 rfl _ _ rfl B _ l rfl O2.out w1.heap.size _ _ rfl P2.out hll Z2.out ?_)
      intro a3 n3 c3 w3 hO3 hg3 ha3
      have O3 := hid hO3
      have K3 := hid (Ow.grownOther K2.out O2.out hg3 HBB.out)
      have B3 : Hid (Below w.heap.size w w3) := by
        have hon : Only (fun y => (Value.slice av nv cv).ownBlock = some y) _ w3 := only_of_grown hg3 (fun k e => e)
        exact B2.out.trans (hon.below (Nat.le_trans (Nat.le_of_lt HBB.out) Z2.out) (fun b hb e => by have := own_base O2.out b e; have := HBB.out; omega))
      have Z3 : Hid (B ≤ w3.heap.size) := Nat.le_trans Z2.out hg3.size
      clear hO3 hg3 ha3 O2 K2 B2 Z2 P2
      go_wp2
      go_roundw
      case rel => exact ⟨j + 1, a3, n3, c3, _, by omega, by go_num, rfl, O3.out, by show _ = _; simp [L1.out], K3.out, B3.out, Z3.out⟩
      case measure => simp [intOf]; omega
    · have hlt' : ¬ (j : Int) < (m : Int) := by omega
      have P1 := hid (O1.out.pr (S := fun _ => True) (fun _ _ _ _ => trivial))
      have hcc := (Rw.len P1.out).2
      clear O1
      go_wp2_with fail
      refine (specTreeOf_any _ av nv cv l _ P1.out).mono ?_
      rintro e w2 ⟨a2, n2, c2, rfl, hN2, hb2⟩
      have HS := hid (small_smallN (ofV_small l))
      have ba := below_alloc w2 (.cells #[.slice a2 n2 c2] 25)
      have K2 := hid ((K1.out.below hb2).below ba)
      have T2 := hid (Bk.new w2 25 [.slice a2 n2 c2])
      have hN3 : Nr (w2.alloc (.cells #[.slice a2 n2 c2] 25)) (fun y => w.heap.size < y) (.slice a2 n2 c2) ((ofV l).getD []) := (Nr.mono hN2 (fun y hy _ => by have := hy.1; have := K1.out.lt; omega)).below ba
      have HF : Hid (Nr ((w2.alloc (.cells #[.slice a2 n2 c2] 25)).setCell ⟨w.heap.size, 0, none⟩ (.slice a2 n2 c2)) (fun y => w.heap.size < y) (.slice a2 n2 c2) ((ofV l).getD []) ∧ Below w.heap.size w ((w2.alloc (.cells #[.slice a2 n2 c2] 25)).setCell ⟨w.heap.size, 0, none⟩ (.slice a2 n2 c2))) :=
        ⟨hN3.to (only_set (R := fun y => y = w.heap.size) rfl _) (fun y hy _ e => by omega), (bthn (bthn B1.out hb2) ba).setCell (Nat.le_refl _) _⟩
      clear hN2 hN3 hb2 ba K1 B1 Z1 P1
      generalize (ofV l).isSome = bb at *
      have t0 := T2.out.cell (j := 0) rfl
      have r0 := K2.out.cell (j := 0) rfl
      have rf := K2.out.free 0
      have d1 := (K2.out.set 0 (.slice a2 n2 c2)).cell (j := 0) rfl
      clear T2 K2
      go_wp2
      refine bodyPost_ret (v := .agg #[.slice a2 n2 c2]) ?_ rfl ?_
      · refine results_tree1 rfl _ _ _ rfl ?_
        exact d1
      · exact ⟨_, _, _, _, rfl, HF.out.1, HS.out, HF.out.2⟩
set_option maxHeartbeats 4000000 in
theorem anyVal_any (g : Nat) (w : World) (h : Cu w g) : Calls Try.prog 40 #[.pointer (some ⟨g, 0, none⟩)] w fun e w' => (∃ s : ByteArray, e = .returned (.string s)) ∧ w.grownBy w' (some g) ∧ Cu w' g := by
  have HC := hid h
  clear h
  go_enter Try.func40, Try.ntmps40
  go_wp2_with fail
  refine (below_any g 14 w HC.out (by omega) (by omega)).mono ?_
  rintro e w1 ⟨⟨x, rfl, hx0, hx1⟩, hg1, hc1⟩
  have HG1 := hid hg1
  have HC1 := hid hc1
  clear hg1 hc1 HC
  by_cases h0 : x = 0
  · subst h0
    have hmk := made_any 61 61 (by omega) (by omega)
    have hst := run_str (rd_made w1 61 (by omega))
    generalize strOf (List.replicate 61 0) = s6 at hst
    go_wp2
    go_ret
    exact ⟨⟨_, rfl⟩, grownBy_trans HG1.out (grownBy_alloc _ _ _), HC1.out.alloc _⟩
  · go_wp2_with fail
    refine (val_any g w1 HC1.out).mono ?_
    rintro e w2 ⟨⟨s, rfl⟩, hg2, hc2⟩
    have HG2 := hid (grownBy_trans HG1.out hg2)
    have HC2 := hid hc2
    clear hg2 hc2
    go_wp2
    go_ret
    exact ⟨⟨_, rfl⟩, HG2.out, HC2.out⟩
theorem results_tree3 {fn : Func} {p u x : Tmp} (h : fn.results = #[.cell p 25, .tmp u, .tmp x]) (tmps : Array Value) (w : World) (g : Nat) {y b c : Value} (hp : tmps.getD p undef = .pointer (some ⟨g, 0, none⟩)) (hb : tmps.getD u undef = b) (hc : tmps.getD x undef = c)
    (c0 : w.cell? ⟨g, 0, none⟩ = some y) : (results fn tmps).run Try.prog w = .ok (.tuple #[.agg #[y], b, c]) w := by
  have hp' : tmps[p]?.getD undef = .pointer (some ⟨g, 0, none⟩) := by simpa using hp
  have hb' : tmps[u]?.getD undef = b := by simpa using hb
  have hc' : tmps[x]?.getD undef = c := by simpa using hc
  have hl : (loadVar 25 ⟨g, 0, none⟩).run Try.prog w = .ok (.agg #[y]) w := by go_simp
  simp [results, h, hp', hb', hc', asAddr, hl, Result.andThen]
theorem Dd.setBox {w v v' : World} {g tb : Nat} {a a' : Option Addr} {n c n' c' : Nat} {ns ns' : List NB} (h : Dd w v g tb a n c ns) (hb : Below v.heap.size v v') (hN : Nr v' (fun y => v.heap.size < y) (.slice a' n' c') ns') (hs : smallN ns' ∧ ns'.length ≤ 1048576) : Dd w (v'.setCell ⟨tb, 0, none⟩ (.slice a' n' c')) g tb a' n' c' ns' := by
  have h2 := h.below hb
  have hlt := h.bk.lt
  have hng := h.ng
  have hnb := h.nb
  refine ⟨h2.be.setCell (p := ⟨tb, 0, none⟩) (by show _ ≤ tb; omega) _, h2.cu.set _ _ _ (by omega), h2.bk.set 0 _, ?_, hs, hng, hnb⟩
  exact (hN.to (only_set (R := fun y => y = tb) rfl _) (fun y hy _ e => by omega)).mono (fun y hy _ => ⟨by omega, by omega⟩)
def DpPost (w : World) (e : Ending) (w' : World) : Prop := ∃ a n c ns k v, e = .returned (.tuple #[.agg #[.slice a n c], .string k, .string v]) ∧ Nr w' (fun _ => True) (.slice a n c) ns ∧ (smallN ns ∧ ns.length ≤ 1048576) ∧ Below w.heap.size w w'
set_option maxHeartbeats 4000000 in
set_option maxRecDepth 20000 in
theorem drawTreePut_any (a : Option Addr) (n c : Nat) (zs : List Int) (w : World) (h : Rd w a n c zs) (hl : n ≤ 1048576) :
    Calls Try.prog 9 #[.slice a n c] w fun e w' => DpPost w e w' := by
  have B0 := hid (below_alloc w (.cells #[.slice none 0 0] 25))
  have K0 := hid (Bk.new w 25 [.slice none 0 0])
  have HR := hid (h.kept (below_alloc w (.cells #[.slice none 0 0] 25)))
  have HG : Hid (w.heap.size < (w.alloc (.cells #[.slice none 0 0] 25)).heap.size) := by show _ < _; simp
  clear h
  go_enter Try.func9, Try.ntmps9
  go_wp2_with fail
  refine (new_any a n c zs _ HR.out hl).mono ?_
  generalize w.alloc (.cells #[.slice none 0 0] 25) = w0 at *
  rintro e w1 ⟨rfl, hb1, hc1⟩
  have HB1 := hid (bthn B0.out hb1)
  have K1 := hid (K0.out.below hb1)
  have HC1 := hid hc1
  have HGL := hid hc1.lt
  clear hb1 hc1 B0 K0 HR
  generalize w0.heap.size = g at *
  clear w0
  have HNE : Hid (w.heap.size ≠ g) := by have := HG.out; show _ ≠ _; omega
  go_wp2_with fail
  refine (anyT_any g _ HC1.out).mono ?_
  rintro e w2 ⟨ta, tn, tc, ns, rfl, hg2, hc2, hN2, hs2⟩
  have D := hid (Dd.new HB1.out HGL.out (Nat.le_of_lt HG.out) hg2 hc2 hN2 hs2)
  have K2 : Hid (Bk _ w.heap.size 25 [.slice none 0 0]) := (K1.out.grown hg2 HNE.out).alloc (.cells #[.slice ta tn tc] 25)
  clear hg2 hc2 hN2 hs2 HB1 K1 HC1 HGL
  go_wp2_with fail
  refine (anyKey_any g _ D.out.cu).mono ?_
  generalize w2.alloc (.cells #[.slice ta tn tc] 25) = U2 at *
  generalize w2.heap.size = tb at *
  rintro e w3 ⟨⟨k, rfl, hk⟩, hg3, hc3⟩
  have D3 := hid (D.out.draw hg3 hc3)
  have K3 := hid (K2.out.grown hg3 HNE.out)
  clear hg3 hc3 D K2 hk
  have HFIN : Hid (∀ (u : World) (x : ByteArray) (ta : Option Addr) (tn tc : Nat) (ns : List NB), Dd w u g tb ta tn tc ns → DpPost w (.returned (.tuple #[.agg #[.slice ta tn tc], .string k, .string x])) (u.setCell ⟨w.heap.size, 0, none⟩ (.slice ta tn tc))) := by
    intro u x ta tn tc ns hD
    have HF := hD.fin HG.out (Nat.le_refl _) 0 (.slice ta tn tc)
    exact ⟨_, _, _, ns, k, x, rfl, HF.1, hD.sm, HF.2⟩
  go_wp2_with fail
  refine (below_any g 60 _ D3.out.cu (by omega) (by omega)).mono ?_
  rintro e w4 ⟨⟨x, rfl, hx0, hx1⟩, hg4, hc4⟩
  have D4 := hid (D3.out.draw hg4 hc4)
  have K4 := hid (K3.out.grown hg4 HNE.out)
  clear hg4 hc4 D3 K3
  by_cases hx : x = 0
  · subst hx
    clear hx0 hx1
    go_wp2_with fail
    refine (below_any g 2 _ D4.out.cu (by omega) (by omega)).mono ?_
    rintro e w5 ⟨⟨y, rfl, hy0, hy1⟩, hg5, hc5⟩
    have D5 := hid (D4.out.draw hg5 hc5)
    have K5 := hid (K4.out.grown hg5 HNE.out)
    clear hg5 hc5 D4 K4
    obtain ⟨m, hm, hm2⟩ : ∃ m : Nat, (200 : Int) - y = m ∧ m ≤ 200 := ⟨(200 - y).toNat, by omega, by omega⟩
    go_wp2_with fail
    refine (big_any m _ hm2).mono ?_
    rintro e w6 ⟨ba, bn, bc, bs, rfl, hN6, hs6, hb6⟩
    have D6 := hid (D5.out.setBox hb6 hN6 hs6)
    have K6 := hid (K5.out.below hb6)
    have HNT : Hid (w.heap.size ≠ tb) := by have := D5.out.nb; have := HG.out; show _ ≠ _; omega
    have t6 := (D5.out.below hb6).bk.cell (j := 0) rfl
    have f6 := (D5.out.below hb6).bk.free 0
    have K7 := hid (K6.out.setOther HNT.out 0 (.slice ba bn bc))
    clear hN6 hs6 hb6 D5 K5 K6 hm hm2
    go_wp2_with fail
    clear t6 f6
    generalize w6.setCell ⟨tb, 0, none⟩ (.slice ba bn bc) = U6 at *
    have D7 := hid (D6.out.below (below_drew _))
    have K8 := hid (K7.out.below (below_drew _))
    clear D6 K7
    have t7 := D7.out.bk.cell (j := 0) rfl
    go_region_with (go_at_call 40; refine (anyVal_any g _ D7.out.cu).mono ?_; rintro e w8 ⟨⟨s, rfl⟩, hg8, hc8⟩; have D8 := D7.out.draw hg8 hc8; have K9 := K8.out.grown hg8 HNE.out; have t8 := D8.bk.cell (j := 0) rfl; have r8 := K9.cell (j := 0) rfl; have f8 := K9.free 0)
    all_goals
      have d1 := (K9.set 0 (.slice ba bn bc)).cell (j := 0) rfl
      have HF := hid (HFIN.out _ s _ _ _ _ D8)
      clear D8 K9 HFIN D7 K8 hg8 hc8
      go_wp2
      refine bodyPost_ret (v := .tuple #[.agg #[.slice ba bn bc], .string k, .string s]) ?_ rfl ?_
      · refine results_tree3 rfl _ _ _ rfl rfl rfl ?_
        exact d1
      · exact HF.out
  · go_wp2_with fail
    have D7 := hid (D4.out.below (below_drew _))
    have K8 := hid (K4.out.below (below_drew _))
    clear D4 K4
    have t7 := D7.out.bk.cell (j := 0) rfl
    go_region_with (go_at_call 40; refine (anyVal_any g _ D7.out.cu).mono ?_; rintro e w8 ⟨⟨s, rfl⟩, hg8, hc8⟩; have D8 := D7.out.draw hg8 hc8; have K9 := K8.out.grown hg8 HNE.out; have t8 := D8.bk.cell (j := 0) rfl; have r8 := K9.cell (j := 0) rfl; have f8 := K9.free 0)
    all_goals
      have d1 := (K9.set 0 (.slice ta tn tc)).cell (j := 0) rfl
      have HF := hid (HFIN.out _ s _ _ _ _ D8)
      clear D8 K9 HFIN D7 K8 hg8 hc8
      go_wp2
      refine bodyPost_ret (v := .tuple #[.agg #[.slice ta tn tc], .string k, .string s]) ?_ rfl ?_
      · refine results_tree3 rfl _ _ _ rfl rfl rfl ?_
        exact d1
      · exact HF.out
end Go.Proofs.Ytjplocdjbfpcgaa
/-
  The law FnTree answers true at every slice of bytes, and writes nothing that was there.
-/
namespace Go.Proofs.Ytjplocdjbfpcgaa
open Go.RowKit
set_option maxHeartbeats 8000000 in
set_option maxRecDepth 20000 in
theorem lawFTree_walk (a : Option Addr) (n c : Nat) (z0 : List Int) (w : World) (w0 : IsRow .u8 w a n c z0) :
    Calls Try.prog 3 #[.slice a n c] w fun e w' => e = .returned (.bool true) ∧ Below w.heap.size w w' := by
  by_cases hbig : 1048576 < n
  · have hb' : (1048576 : Int) < (n : Int) := by omega
    clear w0
    go_enter Try.func3, Try.ntmps3
    go_wp2
    go_ret
    exact ⟨rfl, Below.refl _ _⟩
  · have hrd := rd_of_row w0 (by omega)
    generalize z0.take n = zs at hrd
    have hns : ¬ (1048576 : Int) < (n : Int) := by omega
    clear w0
    have HR : Hid (Rd w a n c zs) := hrd
    clear hrd
    go_enter Try.func3, Try.ntmps3
    go_wp2_with fail
    refine (drawTreePut_any a n c zs _ HR.out (by omega)).mono ?_
    rintro e w1 ⟨ta, tn, tc, ns, k, v, rfl, hN1, hs1, hb1⟩
    have HB1 := hid (bthn hb1 (below_alloc w1 (.cells #[.slice ta tn tc] 25)))
    have HN1 := hid (hN1.below (below_alloc w1 (.cells #[.slice ta tn tc] 25)))
    have K1 := hid (Bk.new w1 25 [.slice ta tn tc])
    have HS := hid hs1
    clear hN1 hs1 hb1 HR
    have t0 := K1.out.cell (j := 0) rfl
    go_wp2_with fail
    refine (implTreePut_any _ ta tn tc ns k v _ HN1.out).mono ?_
    generalize w1.alloc (.cells #[.slice ta tn tc] 25) = U1 at *
    generalize w1.heap.size = tb at *
    rintro e w2 ⟨v2, rfl, hT2, hb2⟩
    obtain ⟨ua, un, uc, rfl, hun⟩ := hT2.shape
    have ba2 := below_alloc w2 (.cells #[.slice ua un uc] 25)
    have L2 : Hid (Lw w (w2.alloc (.cells #[.slice ua un uc] 25)) tb ta tn tc ns w2.heap.size ua un uc ((putV ns k v).getD [])) := ⟨bthn (bthn HB1.out hb2) ba2, (K1.out.below hb2).below ba2, (HN1.out.below hb2).below ba2, Bk.new w2 25 [.slice ua un uc], (TreePost.nr hT2).below ba2⟩
    clear hT2 hb2 ba2 HB1 HN1 K1 t0
    have t2 := L2.out.ct
    go_wp2_with fail
    refine (specTreePut_any ns HS.out.2 HS.out.1 _ ta tn tc k v _ L2.out.nt).mono ?_
    generalize w2.alloc (.cells #[.slice ua un uc] 25) = U2 at *
    generalize w2.heap.size = ub at *
    rintro e w3 ⟨a3, n3, c3, rfl, hN3, hb3⟩
    have L3 : Hid (Lw w (w3.alloc (.cells #[.slice a3 n3 c3] 25)) tb ta tn tc ns ub ua un uc ((putV ns k v).getD [])) := (L2.out.below hb3).below (below_alloc _ _)
    clear hN3 hb3 L2 t2
    cases hdr : putV ns k v with
    | none =>
      rw [hdr] at hun
      have h0 : un = 0 := hun.out
      subst h0
      clear hun hdr
      have u3 := L3.out.cu
      have HB3 := hid L3.out.be
      clear L3
      go_wp2
      go_ret
      exact ⟨rfl, HB3.out⟩
    | some ms =>
      rw [hdr] at L3 hun
      obtain ⟨F, hko⟩ := putV_facts hdr
      have L4 : Hid (Lw w (w3.alloc (.cells #[.slice a3 n3 c3] 25)) tb ta tn tc ns ub ua un uc ms) := L3.out
      have HGT := hid F.got
      have HOK := hid F.ok
      have HAL := hid F.all
      have HOT := hid F.others
      have HAN := hid (alV_len ns)
      have HAM := hid (alV_len ms)
      have HGN : Hid (getV ns k = fnd (alV ns) k) := by show _ = _; rw [getV, if_pos hko]
      clear F L3 hdr hun hko
      have u4 := L4.out.cu
      go_wp2_with fail
      refine (implTreeGet_any _ ua un uc ms k _ L4.out.nu).mono ?_
      generalize w3.alloc (.cells #[.slice a3 n3 c3] 25) = U3 at *
      rintro e w4 ⟨he, hb4⟩
      rw [HGT.out] at he
      simp only [gotV] at he
      subst he
      have L5 := hid (L4.out.below hb4)
      clear hb4 L4 u4
      have t5 := L5.out.ct
      go_wp2_with fail
      refine (specTreeAll_any ns HS.out.2 HS.out.1 _ ta tn tc _ L5.out.nt).mono ?_
      rintro e w7 ⟨vl, rfl, hO7, hb7⟩
      obtain ⟨la, ln, lc, hv, hln⟩ := hO7.shape'
      subst hv
      have hl2 : ln ≤ 200 := by rw [hln.out]; exact HAN.out
      have HP7 := hid (hO7.pr (S := fun _ => True) (fun _ _ _ _ => trivial))
      have L7 := hid (L5.out.below hb7)
      have hlc := (Rw.len HP7.out).2
      clear hO7 hb7 L5 t5
      generalize hll : alV ns = l at *
      have HLE := hid hll
      clear hll
      go_wp2_with fail
      go_loopw [60] (fun i wr => ∃ (j : Nat), j ≤ ln ∧ i = .int .i64 j ∧ Hid (Pr wr (fun _ => True) (.slice la ln lc) l) ∧ Hid (Lw w wr tb ta tn tc ns ub ua un uc ms)) (fun i _ => ln - (intOf i).toNat)
      case atStart => exact ⟨0, Nat.zero_le _, rfl, HP7.out, L7.out⟩
      case round =>
        obtain ⟨j, hj, rfl, P1, L1⟩ := hrel
        clear HP7 L7
        by_cases hlt : j < ln
        · have hlt' : (j : Int) < (ln : Int) := by omega
          have hjl : j < l.length := by rw [← hln.out]; exact hlt
          obtain ⟨pb, off, hla, -, -, hc⟩ := P1.out.at (by omega)
          subst hla
          have m0 := (hc j hlt).1
          have m1 := (hc j hlt).2
          have HO := hid (HOT.out j hjl)
          clear hc
          generalize (pAtB l j).1 = kk at *
          generalize (pAtB l j).2 = vv at *
          have ba := below_alloc wr (.cells #[.string kk, .string vv] 35)
          have P2 := hid (Rw.below P1.out ba)
          have L2 := hid (L1.out.below ba)
          have Q2 := hid (Bk.new wr 35 [.string kk, .string vv])
          clear P1 L1 ba
          have u2 := L2.out.cu
          have q2 := Q2.out.cell (j := 0) rfl
          go_wp2_with fail
          refine (implTreeGet_any _ ua un uc ms kk _ L2.out.nu).mono ?_
          generalize wr.alloc (.cells #[.string kk, .string vv] 35) = UU at *
          generalize wr.heap.size = qb at *
          rintro e w5 ⟨he, hb5⟩
          have P5 := hid (Rw.below P2.out hb5)
          have L5 := hid (L2.out.below hb5)
          have q5 := (Q2.out.below hb5).cell (j := 0) rfl
          have q6 := (Q2.out.below hb5).cell (j := 1) rfl
          clear P2 L2 Q2 hb5 u2 q2
          by_cases hk : kk = k
          · subst hk
            rw [HGT.out] at he
            simp only [gotV] at he
            subst he
            clear HO
            go_wp2
            go_roundw
            case rel => exact ⟨j + 1, by omega, by go_num, P5.out, L5.out⟩
            case measure => simp [intOf]; omega
          · have hne : (kk.toList == k.toList) = false := by
              rw [beq_eq_false_iff_ne]
              exact fun e => hk (str_ext e)
            rw [HO.out hk] at he
            simp only [gotV] at he
            subst he
            clear HO hk
            go_wp2
            go_roundw
            case rel => exact ⟨j + 1, by omega, by go_num, P5.out, L5.out⟩
            case measure => simp [intOf]; omega
        · have hlt' : ¬ (j : Int) < (ln : Int) := by omega
          clear P1 HOT HGT
          have t1 := L1.out.ct
          go_wp2_with fail
          refine (specTreeGet_any ns HS.out.2 HS.out.1 _ ta tn tc k _ L1.out.nt).mono ?_
          rintro e w5 ⟨he, hb5⟩
          rw [HGN.out] at he
          have L5 := hid (L1.out.below hb5)
          clear hb5 L1 t1 HGN
          have HAS : Hid (∀ w, Nr w (fun _ => True) (.slice ta tn tc) ns → Calls Try.prog 13 #[.agg #[.slice ta tn tc]] w fun e w' => OwPost l w e w') := fun v hv => by
            have := specTreeAll_any ns HS.out.2 HS.out.1 _ ta tn tc v hv
            rwa [HLE.out] at this
          have HIO : Hid (∀ v, Nr v (fun _ => True) (.slice ua un uc) ms → Calls Try.prog 15 #[.agg #[.slice ua un uc]] v fun e w' => e = .returned (.bool true) ∧ Below v.heap.size v w') := fun v hv => HOK.out ▸ implTreeOk_any _ ua un uc ms v hv
          clear HOK
          have t5 := L5.out.ct
          cases hfd : fnd l k with
          | none =>
            have hcnt : (alV ms).length = l.length + 1 := by have := HAL.out; rw [hfd] at this; exact this
            rw [hfd] at he
            simp only [gotV] at he
            subst he
            clear HAL hfd
            have HCNT := hid hcnt
            clear hcnt
            go_wp2_with fail
            refine (HAS.out _ L5.out.nt).mono ?_
            rintro e w6 ⟨v6, rfl, hO6, hb6⟩
            obtain ⟨xa, xn, xc, rfl, hxn⟩ := hO6.shape'
            have hx2 : xn ≤ 200 := by rw [hxn.out, ← hln.out]; exact hl2
            have L6 := hid (L5.out.below hb6)
            clear hO6 hb6 L5 t5
            have u6 := L6.out.cu
            go_wp2_with fail
            refine (HIO.out _ L6.out.nu).mono ?_
            rintro e w8 ⟨rfl, hb8⟩
            have L8 := hid (L6.out.below hb8)
            clear hb8 L6 u6
            have u8 := L8.out.cu
            go_wp2_with fail
            refine (implTreeAll_any _ ua un uc ms _ L8.out.nu).mono ?_
            rintro e w9 ⟨v9, rfl, hO9, hb9⟩
            obtain ⟨ya, yn, yc, rfl, hyn⟩ := hO9.shape'
            have hyx : (yn : Int) = (xn : Int) + 1 := by rw [hyn.out, HCNT.out, ← hxn.out]; rfl
            have HB9 := hid (L8.out.below hb9).be
            clear hO9 hb9 L8 u8
            go_wp2
            go_ret
            exact ⟨rfl, HB9.out⟩
          | some vo =>
            have hcnt : (alV ms).length = l.length := by have := HAL.out; rw [hfd] at this; exact this
            rw [hfd] at he
            simp only [gotV] at he
            subst he
            clear HAL hfd
            have HCNT := hid hcnt
            clear hcnt
            go_wp2_with fail
            refine (HAS.out _ L5.out.nt).mono ?_
            rintro e w6 ⟨v6, rfl, hO6, hb6⟩
            obtain ⟨xa, xn, xc, rfl, hxn⟩ := hO6.shape'
            have hx2 : xn ≤ 200 := by rw [hxn.out, ← hln.out]; exact hl2
            have L6 := hid (L5.out.below hb6)
            clear hO6 hb6 L5 t5
            have u6 := L6.out.cu
            go_wp2_with fail
            refine (HIO.out _ L6.out.nu).mono ?_
            rintro e w8 ⟨rfl, hb8⟩
            have L8 := hid (L6.out.below hb8)
            clear hb8 L6 u6
            have u8 := L8.out.cu
            go_wp2_with fail
            refine (implTreeAll_any _ ua un uc ms _ L8.out.nu).mono ?_
            rintro e w9 ⟨v9, rfl, hO9, hb9⟩
            obtain ⟨ya, yn, yc, rfl, hyn⟩ := hO9.shape'
            obtain rfl : yn = xn := by rw [hyn.out, HCNT.out, ← hxn.out]
            have HB9 := hid (L8.out.below hb9).be
            clear hO9 hb9 L8 u8
            go_wp2
            go_ret
            exact ⟨rfl, HB9.out⟩
end Go.Proofs.Ytjplocdjbfpcgaa
/-
  The law FnDrop answers true at every slice of bytes, and writes nothing that was there.
-/
namespace Go.Proofs.Ytjplocdjbfpcgaa
open Go.RowKit
set_option maxHeartbeats 8000000 in
set_option maxRecDepth 20000 in
theorem lawFDrop_walk (a : Option Addr) (n c : Nat) (z0 : List Int) (w : World) (w0 : IsRow .u8 w a n c z0) :
    Calls Try.prog 4 #[.slice a n c] w fun e w' => e = .returned (.bool true) ∧ Below w.heap.size w w' := by
  by_cases hbig : 1048576 < n
  · have hb' : (1048576 : Int) < (n : Int) := by omega
    clear w0
    go_enter Try.func4, Try.ntmps4
    go_wp2
    go_ret
    exact ⟨rfl, Below.refl _ _⟩
  · have hrd := rd_of_row w0 (by omega)
    generalize z0.take n = zs at hrd
    have hns : ¬ (1048576 : Int) < (n : Int) := by omega
    clear w0
    have HR : Hid (Rd w a n c zs) := hrd
    clear hrd
    go_enter Try.func4, Try.ntmps4
    go_wp2_with fail
    refine (drawTreeDrop_any a n c zs _ HR.out (by omega)).mono ?_
    rintro e w1 ⟨ta, tn, tc, ns, k, rfl, hN1, hs1, hb1⟩
    have HB1 := hid (bthn hb1 (below_alloc w1 (.cells #[.slice ta tn tc] 25)))
    have HN1 := hid (hN1.below (below_alloc w1 (.cells #[.slice ta tn tc] 25)))
    have K1 := hid (Bk.new w1 25 [.slice ta tn tc])
    have HS := hid hs1
    clear hN1 hs1 hb1 HR
    have t0 := K1.out.cell (j := 0) rfl
    go_wp2_with fail
    refine (implTreeDrop_any _ ta tn tc ns k _ HN1.out).mono ?_
    generalize w1.alloc (.cells #[.slice ta tn tc] 25) = U1 at *
    generalize w1.heap.size = tb at *
    rintro e w2 ⟨v2, rfl, hT2, hb2⟩
    obtain ⟨ua, un, uc, rfl, hun⟩ := hT2.shape
    have ba2 := below_alloc w2 (.cells #[.slice ua un uc] 25)
    have L2 : Hid (Lw w (w2.alloc (.cells #[.slice ua un uc] 25)) tb ta tn tc ns w2.heap.size ua un uc ((dropV ns k).getD [])) := ⟨bthn (bthn HB1.out hb2) ba2, (K1.out.below hb2).below ba2, (HN1.out.below hb2).below ba2, Bk.new w2 25 [.slice ua un uc], (TreePost.nr hT2).below ba2⟩
    clear hT2 hb2 ba2 HB1 HN1 K1 t0
    have t2 := L2.out.ct
    go_wp2_with fail
    refine (specTreeDrop_any ns HS.out.2 HS.out.1 _ ta tn tc k _ L2.out.nt).mono ?_
    generalize w2.alloc (.cells #[.slice ua un uc] 25) = U2 at *
    generalize w2.heap.size = ub at *
    rintro e w3 ⟨a3, n3, c3, rfl, hN3, hb3⟩
    have L3 : Hid (Lw w (w3.alloc (.cells #[.slice a3 n3 c3] 25)) tb ta tn tc ns ub ua un uc ((dropV ns k).getD [])) := (L2.out.below hb3).below (below_alloc _ _)
    clear hN3 hb3 L2 t2
    cases hdr : dropV ns k with
    | none =>
      rw [hdr] at hun
      have h0 : un = 0 := hun.out
      subst h0
      clear hun hdr
      have u3 := L3.out.cu
      have HB3 := hid L3.out.be
      clear L3
      go_wp2
      go_ret
      exact ⟨rfl, HB3.out⟩
    | some ms =>
      rw [hdr] at L3 hun
      have F := dropV_facts hdr
      have L4 : Hid (Lw w (w3.alloc (.cells #[.slice a3 n3 c3] 25)) tb ta tn tc ns ub ua un uc ms) := L3.out
      have HGT := hid F.got
      have HOK := hid F.ok
      have HAL := hid F.all
      have HDP := hid F.deep
      have HAN := hid (alV_len ns)
      have HDB : Hid (-1 ≤ dpV ms ∧ dpV ns ≤ 1048576) := dpV_bounds ms ns
      clear F L3 hdr hun
      have u4 := L4.out.cu
      go_wp2_with fail
      refine (implTreeGet_any _ ua un uc ms k _ L4.out.nu).mono ?_
      generalize w3.alloc (.cells #[.slice a3 n3 c3] 25) = U3 at *
      rintro e w4 ⟨he, hb4⟩
      rw [HGT.out] at he
      simp only [gotV] at he
      subst he
      have L5 := hid (L4.out.below hb4)
      clear hb4 L4 u4 HGT
      have hO5 := ow_new w4 w4.heap.size (Nat.le_refl _)
      have ba := below_alloc w4 (.cells #[] 35)
      have L6 := hid (L5.out.below ba)
      have t6 := L6.out.ct
      have HO6 := hid hO5
      have HB6 := hid ba
      clear hO5 ba
      go_wp2_with fail
      refine (specTreeAll_any ns HS.out.2 HS.out.1 _ ta tn tc _ L6.out.nt).mono ?_
      rintro e w7 ⟨vl, rfl, hO7, hb7⟩
      obtain ⟨la, ln, lc, hv, hln⟩ := hO7.shape'
      subst hv
      have hl2 : ln ≤ 200 := by rw [hln.out]; exact HAN.out
      have HP7 : Hid (Pr w7 (fun b => (Value.slice (some ⟨w4.heap.size, 0, none⟩) 0 0).ownBlock ≠ some b) (.slice la ln lc) (alV ns)) := hO7.pr (fun y _ h1 _ e => by
        have h3 := (World.ownsRow.lt HO6.out y e).2
        omega)
      have HO7 := hid (HO6.out.kept hb7)
      have HB7 := hid (bthn HB6.out hb7)
      have hlc := (Rw.len HP7.out).2
      clear hO7 hb7 HO6 HB6 L6 t6
      generalize hll : alV ns = l at *
      have HLE := hid hll
      clear hll
      go_wp2_with fail
      go_loopw [11, 53] (fun x i wr => ∃ (j : Nat) (av : Option Addr) (nv cv : Nat), j ≤ ln ∧ i = .int .i64 j ∧ x = .slice av nv cv ∧ Hid (Ow wr w4.heap.size (.slice av nv cv) (delS (l.take j) k)) ∧ Hid (Pr wr (fun b => (Value.slice av nv cv).ownBlock ≠ some b) (.slice la ln lc) l) ∧ Hid (Below w4.heap.size w4 wr)) (fun _ i _ => ln - (intOf i).toNat)
      case atStart => exact ⟨0, _, _, _, Nat.zero_le _, rfl, rfl, HO7.out, HP7.out, HB7.out⟩
      case round =>
        obtain ⟨j, av, nv, cv, hj, rfl, rfl, O1, P1, B1⟩ := hrel
        clear HO7 HP7 HB7
        by_cases hlt : j < ln
        · have hlt' : (j : Int) < (ln : Int) := by omega
          have hjl : j < l.length := by rw [← hln.out]; exact hlt
          obtain ⟨pb, off, hla, -, -, hc⟩ := P1.out.at (by omega)
          subst hla
          have m0 := (hc j hlt).1
          have m1 := (hc j hlt).2
          have HST := hid (delS_step hjl k)
          clear hc
          generalize (pAtB l j).1 = kk at *
          generalize (pAtB l j).2 = vv at *
          by_cases hk : kk = k
          · subst hk
            have HST2 : Hid (delS (l.take (j + 1)) kk = delS (l.take j) kk) := by rw [HST.out, if_pos rfl]; exact rfl
            have ba := below_alloc wr (.cells #[.string kk, .string vv] 35)
            have O2 := hid (O1.out.kept ba)
            have P2 := hid (Rw.below P1.out ba)
            have B2 := hid (bthn B1.out ba)
            clear HST O1 P1 B1 ba
            go_wp2
            go_roundw
            case rel => exact ⟨j + 1, av, nv, cv, by omega, by go_num, rfl, by rw [HST2.out]; exact O2.out, P2.out, B2.out⟩
            case measure => simp [intOf]; omega
          · have HST2 : Hid (delS (l.take (j + 1)) k = delS (l.take j) k ++ [(kk, vv)]) := by rw [HST.out, if_neg hk]; exact rfl
            have hne : (kk.toList == k.toList) = false := by
              rw [beq_eq_false_iff_ne]
              exact fun e => hk (str_ext e)
            have ba := below_new (o := .cells #[.string kk, .string vv] 35) (w := wr) (below_new (o := .cells #[.string kk, .string vv] 35) (Below.refl _ _))
            have O2 := hid (O1.out.kept ba)
            have P2 := hid (Rw.below P1.out ba)
            have B2 := hid (bthn B1.out ba)
            have Q2 : Hid (Bk ((wr.alloc (.cells #[.string kk, .string vv] 35)).alloc (.cells #[.string kk, .string vv] 35)) (wr.heap.size + 1) 35 [.string kk, .string vv]) := by
              have := Bk.new (wr.alloc (.cells #[.string kk, .string vv] 35)) 35 [.string kk, .string vv]
              show Bk _ _ _ _
              simpa using this
            have Z2 : Hid (w4.heap.size ≤ ((wr.alloc (.cells #[.string kk, .string vv] 35)).alloc (.cells #[.string kk, .string vv] 35)).heap.size) := B2.out.size
            have hdl : (delS (l.take j) k).length ≤ 1048576 := by have := delS_le (l.take j) k; rw [List.length_take] at this; omega
            clear HST O1 P1 B1 ba hk
            go_wp2_with (at_builtin; refine wpList_append_pair1 rfl _ _ rfl w4.heap.size _ (delS (l.take j) k) rfl O2.out (wr.heap.size + 1) kk vv rfl Q2.out hdl Z2.out ?_)
            have HUZ : Hid (((wr.alloc (.cells #[.string kk, .string vv] 35)).alloc (.cells #[.string kk, .string vv] 35)).heap.size = wr.heap.size + 1 + 1) := by show _ = _; simp
            generalize (wr.alloc (.cells #[.string kk, .string vv] 35)).alloc (.cells #[.string kk, .string vv] 35) = UU at *
            intro a5 n5 c5 w5 hO5 hg5 ha5
            have hon : Only (fun y => (Value.slice av nv cv).ownBlock = some y) UU w5 := only_of_grown hg5 (fun k e => e)
            have O5 := hid hO5
            have P5 : Hid (Pr w5 (fun b => (Value.slice a5 n5 c5).ownBlock ≠ some b) (.slice (some ⟨pb, off, none⟩) ln lc) l) := by
              refine Rw.mono (Rw.to (Rw.mono P2.out (R := fun b => (Value.slice av nv cv).ownBlock ≠ some b ∧ b < UU.heap.size) (fun y hy hl => ⟨hy, hl⟩)) hon (fun y hy _ e => hy.1 e)) (fun y hy _ => ?_)
              rcases ha5 with e | e
              · rw [e]; exact hy.1
              · rw [e]
                intro e2
                cases e2
                have h5 := hy.2
                have h6 := HUZ.out
                omega
            have B5 : Hid (Below w4.heap.size w4 w5) := B2.out.trans (hon.below Z2.out (fun b hb e => by have := own_base O2.out b e; omega))
            clear hO5 hg5 ha5 hon O2 P2 B2 Q2 Z2
            go_wp2
            go_roundw
            case rel => exact ⟨j + 1, a5, n5, c5, by omega, by go_num, rfl, by rw [HST2.out]; exact O5.out, P5.out, B5.out⟩
            case measure => simp [intOf]; omega
        · have hlt' : ¬ (j : Int) < (ln : Int) := by omega
          have hjn : l.take j = l := List.take_of_length_le (by rw [← hln.out]; omega)
          rw [hjn] at O1
          clear P1
          have L8 := hid (L5.out.below B1.out)
          have PX := hid (O1.out.pr (S := fun _ => True) (fun _ _ _ _ => trivial))
          have hcx := (Rw.len PX.out).2
          clear L5 B1 O1 hjn
          have HIO : Hid (∀ v, Nr v (fun _ => True) (.slice ua un uc) ms → Calls Try.prog 15 #[.agg #[.slice ua un uc]] v fun e w' => e = .returned (.bool true) ∧ Below v.heap.size v w') := fun v hv => HOK.out ▸ implTreeOk_any _ ua un uc ms v hv
          have HIA : Hid (∀ v, Nr v (fun _ => True) (.slice ua un uc) ms → Calls Try.prog 16 #[.agg #[.slice ua un uc]] v fun e w' => OwPost (delS l k) v e w') := fun v hv => by
            have := implTreeAll_any _ ua un uc ms v hv
            rwa [HAL.out] at this
          have HSP : Hid (∀ (v : World) (xa : Option Addr) (xn xc : Nat), Pr v (fun _ => True) (.slice xa xn xc) (delS l k) → Pr v (fun _ => True) (.slice av nv cv) (delS l k) → Calls Try.prog 20 #[.slice xa xn xc, .slice av nv cv] v fun e w' => e = .returned (.bool true) ∧ Below v.heap.size v w') := fun v xa xn xc h1 h2 => by
            have := samePairs_any _ _ xa av xn nv xc cv (delS l k) (delS l k) v h1 h2
            rwa [decide_eq_true (rfl : delS l k = delS l k)] at this
          have HD1 := hid (fun v hv => implDepth_any (fun _ => True) ua un uc ms v hv)
          have HD2 := hid (fun v hv => implDepth_any (fun _ => True) ta tn tc ns v hv)
          have hdle : dpV ms ≤ dpV ns := HDP.out
          have hdb := HDB.out
          clear HOK HAL HDP HDB
          generalize dpV ms = dm at *
          generalize dpV ns = dn at *
          have L9 := hid (L8.out.below (below_drew _))
          have P9 := hid (Rw.below PX.out (below_drew _))
          clear L8 PX
          have t9 := L9.out.ct
          have u9 := L9.out.cu
          go_wp2_with fail
          go_region_with (first
            | (go_at_call 15; refine (HIO.out _ L9.out.nu).mono ?_; rintro e v1 ⟨rfl, hb1⟩; have M1 := L9.out.below hb1; have P1 := Rw.below P9.out hb1; have t1 := M1.ct; have u1 := M1.cu)
            | (go_at_call 16; refine (HIA.out _ M1.nu).mono ?_; rintro e v2 ⟨vx, rfl, hO2, hb2⟩; obtain ⟨xa, xn, xc, rfl, hxn⟩ := hO2.shape'; have X2 := hO2.pr (S := fun _ => True) (fun _ _ _ _ => trivial); have M2 := M1.below hb2; have P2 := Rw.below P1 hb2; have t2 := M2.ct; have u2 := M2.cu)
            | (go_at_call 20; refine (HSP.out _ xa xn xc X2 P2).mono ?_; rintro e v3 ⟨rfl, hb3⟩; have M3 := M2.below hb3; have t3 := M3.ct; have u3 := M3.cu)
            | (go_at_call 21; refine (HD2.out _ M4.nt).mono ?_; rintro e v5 ⟨rfl, hb5⟩; have M5 := M4.below hb5)
            | (go_at_call 21; refine (HD1.out _ M3.nu).mono ?_; rintro e v4 ⟨rfl, hb4⟩; have M4 := M3.below hb4; have t4 := M4.ct; have u4 := M4.cu))
          all_goals
            have HB9 := hid M5.be
            clear M1 M2 M3 M4 M5 HIO HIA HSP HD1 HD2
            go_wp2
            go_ret
            exact ⟨rfl, HB9.out⟩
end Go.Proofs.Ytjplocdjbfpcgaa
