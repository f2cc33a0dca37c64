/-
  The law FnExactReplyText answers true at every reply.
-/
import Derived.Test.YtjddkofpfmjojaaDoorMb3
import Derived.Test.YtjddkofpfmjojaaDoorMb1
import Derived.Deep.SlicePairs
import Derived.WideShapes
import Derived.ChangeSame
import Derived.ProofKit
import Derived.OpenShut
import Derived.Deep.Strs
import Derived.Deep.Slices
import Derived.ChangeSlices
namespace Go.Proofs.YtjddkofpfmjojaaDoor
open Go.RowKit
set_option linter.unusedVariables false
theorem pr_bk {w : World} {g n : Nat} {l : List PB} (hl : n = l.length) (hn : n ≤ 1048576) (h : Bk w g 76 (pcs l)) : Pr w (fun _ => True) (.slice (some ⟨g, 0, none⟩) n n) l := (oqw_bk (B := 0) h hl (by omega) (Nat.zero_le _)).r
set_option maxHeartbeats 8000000 in
set_option maxRecDepth 20000 in
theorem lawReplyText_walk (kd c e n k : Int) (ky vl lo hi : ByteArray) (mo : Int) (bk : Bool) (co : Int) (pa : Option Addr) (pn pc : Nat) (ps : List PB) (w : World) (h : Pr w (fun _ => True) (.slice pa pn pc) ps ∧ szOkP ps ∧ ky.size ≤ maxLen ∧ vl.size ≤ maxLen ∧ lo.size ≤ maxLen ∧ hi.size ≤ maxLen) (ht : Tab w) (he : Err w 0) (hg : 0 < w.heap.size) (hq : 2 < w.heap.size) :
    Calls Tryd.prog 4 #[.agg #[.int .i64 kd, .int .i64 c, .int .i64 e, .int .i64 n, .int .i64 k, .string ky, .string vl, .string lo, .string hi, .int .i64 mo, .bool bk, .int .i64 co, .slice pa pn pc]] w fun e w' => e = .returned (.bool true) ∧ Below w.heap.size w w' := by
  have hw : GW w := ⟨ht, he, hq, hg⟩
  have hl := h.2.2
  unfold maxLen at hl
  have hzz := h.2.1
  have HN : Hid (pn = ps.length) := (Rw.len h.1).1
  have B0 := hid (below_new (o := .cells #[.int .i64 kd, .int .i64 c, .int .i64 e, .int .i64 n, .int .i64 k, .string ky, .string vl, .string lo, .string hi, .int .i64 mo, .bool bk, .int .i64 co, .slice pa pn pc] 47) (w := w) (Below.refl _ _))
  have K0 := hid (Bk.new w 47 [.int .i64 kd, .int .i64 c, .int .i64 e, .int .i64 n, .int .i64 k, .string ky, .string vl, .string lo, .string hi, .int .i64 mo, .bool bk, .int .i64 co, .slice pa pn pc])
  have G0 := hid (hw.to B0.out)
  have H0 := hid (h.1.below B0.out)
  have CS := hid (fun w h => szReply_big (fun _ => True) ps kd c e n k ky vl lo hi mo bk co pa pn pc 1048576 w h hzz (by omega) (by omega) hl)
  clear hw ht he hg hq
  have x0 := K0.out.cell (j := 0) rfl
  have x1 := K0.out.cell (j := 1) rfl
  have x2 := K0.out.cell (j := 2) rfl
  have x3 := K0.out.cell (j := 3) rfl
  have x4 := K0.out.cell (j := 4) rfl
  have x5 := K0.out.cell (j := 5) rfl
  have x6 := K0.out.cell (j := 6) rfl
  have x7 := K0.out.cell (j := 7) rfl
  have x8 := K0.out.cell (j := 8) rfl
  have x9 := K0.out.cell (j := 9) rfl
  have x10 := K0.out.cell (j := 10) rfl
  have x11 := K0.out.cell (j := 11) rfl
  have x12 := K0.out.cell (j := 12) rfl
  clear h
  go_enter Tryd.func4, Tryd.ntmps4
  go_wp2_with fail
  refine (CS.out _ H0.out).mono ?_
  generalize w.alloc (.cells #[.int .i64 kd, .int .i64 c, .int .i64 e, .int .i64 n, .int .i64 k, .string ky, .string vl, .string lo, .string hi, .int .i64 mo, .bool bk, .int .i64 co, .slice pa pn pc] 47) = U at *
  rintro r w1 ⟨⟨x, rfl, hx1, hx2, hx3⟩, hb⟩
  have B1 := hid (B0.out.trans (hb.mono B0.out.size))
  have K1 := hid (K0.out.below hb)
  have G1 := hid (G0.out.to hb)
  have H1 := hid (H0.out.below hb)
  have HX := hid hx3
  clear hb hx3 B0 K0 G0 H0 x0 x1 x2 x3 x4 x5 x6 x7 x8 x9 x10 x11 x12
  by_cases hneg : x < 0
  · go_wp2
    go_ret
    exact ⟨rfl, B1.out⟩
  have hkn := HX.out (by omega)
  have CT := hid (fun w h => toReply_any (fun _ => True) ps kd c e n k ky vl lo hi mo bk co pa pn pc w h hkn.1)
  clear HX
  have x0 := K1.out.cell (j := 0) rfl
  have x1 := K1.out.cell (j := 1) rfl
  have x2 := K1.out.cell (j := 2) rfl
  have x3 := K1.out.cell (j := 3) rfl
  have x4 := K1.out.cell (j := 4) rfl
  have x5 := K1.out.cell (j := 5) rfl
  have x6 := K1.out.cell (j := 6) rfl
  have x7 := K1.out.cell (j := 7) rfl
  have x8 := K1.out.cell (j := 8) rfl
  have x9 := K1.out.cell (j := 9) rfl
  have x10 := K1.out.cell (j := 10) rfl
  have x11 := K1.out.cell (j := 11) rfl
  have x12 := K1.out.cell (j := 12) rfl
  go_wp2_with fail
  refine (CT.out _ H1.out).mono ?_
  rintro r w2 ⟨gA, rfl, ⟨hgA, hbk⟩, hb⟩
  have RA := hid (pr_bk HN.out hkn.1 hbk)
  clear hbk hgA
  have K2 := hid (K1.out.below hb)
  have G2 := hid (G1.out.to hb)
  have H2 := hid (H1.out.below hb)
  have B2 := hid (B1.out.trans (hb.mono B1.out.size))
  clear hb K1 G1 H1 B1 x0 x1 x2 x3 x4 x5 x6 x7 x8 x9 x10 x11 x12
  go_wp2_with fail
  refine (specReplyText_any _ kd c e n k ky vl lo hi mo bk co _ pn pn ps _ RA.out hkn.1 hkn.2).mono ?_
  rintro r w3 ⟨rfl, hb⟩
  clear RA
  have K3 := hid (K2.out.below hb)
  have G3 := hid (G2.out.to hb)
  have H3 := hid (H2.out.below hb)
  have B3 := hid (B2.out.trans (hb.mono B2.out.size))
  clear hb K2 G2 H2 B2
  have x0 := K3.out.cell (j := 0) rfl
  have x1 := K3.out.cell (j := 1) rfl
  have x2 := K3.out.cell (j := 2) rfl
  have x3 := K3.out.cell (j := 3) rfl
  have x4 := K3.out.cell (j := 4) rfl
  have x5 := K3.out.cell (j := 5) rfl
  have x6 := K3.out.cell (j := 6) rfl
  have x7 := K3.out.cell (j := 7) rfl
  have x8 := K3.out.cell (j := 8) rfl
  have x9 := K3.out.cell (j := 9) rfl
  have x10 := K3.out.cell (j := 10) rfl
  have x11 := K3.out.cell (j := 11) rfl
  have x12 := K3.out.cell (j := 12) rfl
  go_wp2_with fail
  refine (CT.out _ H3.out).mono ?_
  rintro r w4 ⟨gB, rfl, ⟨hgB, hbk⟩, hb⟩
  have EB := hid hbk
  clear hbk hgB
  have K4 := hid (K3.out.below hb)
  have G4 := hid (G3.out.to hb)
  have H4 := hid (H3.out.below hb)
  have B4 := hid (B3.out.trans (hb.mono B3.out.size))
  clear hb K3 G3 H3 B3 x0 x1 x2 x3 x4 x5 x6 x7 x8 x9 x10 x11 x12
  have hb := below_new (o := .cells #[.int .i64 kd, .int .i64 c, .int .i64 e, .int .i64 n, .int .i64 k, .string ky, .string vl, .string lo, .string hi, .int .i64 mo, .bool bk, .int .i64 co, .slice (some ⟨gB, 0, none⟩) pn pn] 53) (w := w4) (Below.refl _ _)
  have X5 := hid (Bk.new w4 53 [.int .i64 kd, .int .i64 c, .int .i64 e, .int .i64 n, .int .i64 k, .string ky, .string vl, .string lo, .string hi, .int .i64 mo, .bool bk, .int .i64 co, .slice (some ⟨gB, 0, none⟩) pn pn])
  have E5 := hid (EB.out.below hb)
  have K5 := hid (K4.out.below hb)
  have G5 := hid (G4.out.to hb)
  have H5 := hid (H4.out.below hb)
  have B5 := hid (B4.out.trans (hb.mono B4.out.size))
  have R5 := hid (pr_bk HN.out hkn.1 E5.out)
  clear hb EB K4 G4 H4 B4
  have y0 := X5.out.cell (j := 0) rfl
  have y1 := X5.out.cell (j := 1) rfl
  have y2 := X5.out.cell (j := 2) rfl
  have y3 := X5.out.cell (j := 3) rfl
  have y4 := X5.out.cell (j := 4) rfl
  have y5 := X5.out.cell (j := 5) rfl
  have y6 := X5.out.cell (j := 6) rfl
  have y7 := X5.out.cell (j := 7) rfl
  have y8 := X5.out.cell (j := 8) rfl
  have y9 := X5.out.cell (j := 9) rfl
  have y10 := X5.out.cell (j := 10) rfl
  have y11 := X5.out.cell (j := 11) rfl
  have y12 := X5.out.cell (j := 12) rfl
  go_wp2_with fail
  refine (implReplyText_any _ kd c e n k ky vl lo hi mo bk co _ pn pn ps _ R5.out hkn.1 hkn.2 G5.out).mono ?_
  generalize w4.alloc (.cells #[.int .i64 kd, .int .i64 c, .int .i64 e, .int .i64 n, .int .i64 k, .string ky, .string vl, .string lo, .string hi, .int .i64 mo, .bool bk, .int .i64 co, .slice (some ⟨gB, 0, none⟩) pn pn] 53) = w5 at *
  generalize w4.heap.size = gX at *
  rintro r w6 ⟨rfl, hb⟩
  have X6 := hid (X5.out.below hb)
  have E6 := hid (E5.out.below hb)
  have K6 := hid (K5.out.below hb)
  have H6 := hid (H5.out.below hb)
  have B6 := hid (B5.out.trans (hb.mono B5.out.size))
  clear hb X5 E5 K5 G5 H5 B5 R5 y0 y1 y2 y3 y4 y5 y6 y7 y8 y9 y10 y11 y12
  have HV : Hid (∃ z, z = rpT kd c e n co ps) := ⟨_, rfl⟩
  obtain ⟨z, hz⟩ := HV.out
  rw [← hz]
  have hzl := bl_same z
  clear hz HV
  go_wp2_with fail
  clear hzl
  refine wp_region_noPanic ?_
  refine wp_region_held_drew (S := fun v => v.cell? ⟨gX, 0, none⟩ = some (.int .i64 kd) ∧ v.cell? ⟨gX, 1, none⟩ = some (.int .i64 c) ∧ v.cell? ⟨gX, 2, none⟩ = some (.int .i64 e) ∧ v.cell? ⟨gX, 3, none⟩ = some (.int .i64 n) ∧ v.cell? ⟨gX, 4, none⟩ = some (.int .i64 k) ∧ v.cell? ⟨gX, 5, none⟩ = some (.string ky) ∧ v.cell? ⟨gX, 6, none⟩ = some (.string vl) ∧ v.cell? ⟨gX, 7, none⟩ = some (.string lo) ∧ v.cell? ⟨gX, 8, none⟩ = some (.string hi) ∧ v.cell? ⟨gX, 9, none⟩ = some (.int .i64 mo) ∧ v.cell? ⟨gX, 10, none⟩ = some (.bool bk) ∧ v.cell? ⟨gX, 11, none⟩ = some (.int .i64 co) ∧ v.cell? ⟨gX, 12, none⟩ = some (.slice (some ⟨gB, 0, none⟩) pn pn) ∧ v.cell? ⟨w.heap.size, 0, none⟩ = some (.int .i64 kd) ∧ v.cell? ⟨w.heap.size, 1, none⟩ = some (.int .i64 c) ∧ v.cell? ⟨w.heap.size, 2, none⟩ = some (.int .i64 e) ∧ v.cell? ⟨w.heap.size, 3, none⟩ = some (.int .i64 n) ∧ v.cell? ⟨w.heap.size, 4, none⟩ = some (.int .i64 k) ∧ v.cell? ⟨w.heap.size, 5, none⟩ = some (.string ky) ∧ v.cell? ⟨w.heap.size, 6, none⟩ = some (.string vl) ∧ v.cell? ⟨w.heap.size, 7, none⟩ = some (.string lo) ∧ v.cell? ⟨w.heap.size, 8, none⟩ = some (.string hi) ∧ v.cell? ⟨w.heap.size, 9, none⟩ = some (.int .i64 mo) ∧ v.cell? ⟨w.heap.size, 10, none⟩ = some (.bool bk) ∧ v.cell? ⟨w.heap.size, 11, none⟩ = some (.int .i64 co) ∧ v.cell? ⟨w.heap.size, 12, none⟩ = some (.slice pa pn pc)) (by kernel_rfl) (⟨(X6.out.below (below_drew _)).cell (j := 0) rfl, (X6.out.below (below_drew _)).cell (j := 1) rfl, (X6.out.below (below_drew _)).cell (j := 2) rfl, (X6.out.below (below_drew _)).cell (j := 3) rfl, (X6.out.below (below_drew _)).cell (j := 4) rfl, (X6.out.below (below_drew _)).cell (j := 5) rfl, (X6.out.below (below_drew _)).cell (j := 6) rfl, (X6.out.below (below_drew _)).cell (j := 7) rfl, (X6.out.below (below_drew _)).cell (j := 8) rfl, (X6.out.below (below_drew _)).cell (j := 9) rfl, (X6.out.below (below_drew _)).cell (j := 10) rfl, (X6.out.below (below_drew _)).cell (j := 11) rfl, (X6.out.below (below_drew _)).cell (j := 12) rfl, (K6.out.below (below_drew _)).cell (j := 0) rfl, (K6.out.below (below_drew _)).cell (j := 1) rfl, (K6.out.below (below_drew _)).cell (j := 2) rfl, (K6.out.below (below_drew _)).cell (j := 3) rfl, (K6.out.below (below_drew _)).cell (j := 4) rfl, (K6.out.below (below_drew _)).cell (j := 5) rfl, (K6.out.below (below_drew _)).cell (j := 6) rfl, (K6.out.below (below_drew _)).cell (j := 7) rfl, (K6.out.below (below_drew _)).cell (j := 8) rfl, (K6.out.below (below_drew _)).cell (j := 9) rfl, (K6.out.below (below_drew _)).cell (j := 10) rfl, (K6.out.below (below_drew _)).cell (j := 11) rfl, (K6.out.below (below_drew _)).cell (j := 12) rfl⟩) (fun hHeld => ?_)
  simp only [List.size_toArray, List.length_cons, List.length_nil, Array.replicate_succ, Array.replicate_zero, Nat.reduceAdd, List.push_toArray, List.nil_append, List.cons_append]
  refine wpAnyH_take (i := 0) (v := (.agg #[.int .i64 kd, .int .i64 c, .int .i64 e, .int .i64 n, .int .i64 k, .string ky, .string vl, .string lo, .string hi, .int .i64 mo, .bool bk, .int .i64 co, .slice (some ⟨gB, 0, none⟩) pn pn])) rfl (by kernel_rfl) (by kernel_rfl) (by kernel_rfl) (fun _ _ _ h => h) (Or.inl ⟨by rfl, ?_⟩) (by assumption) ?_
  · intro w hSw
    (try dsimp only at hSw)
    go_simp
  try simp only [List.getElem_toArray]
  try simp only [List.getElem_cons_succ]
  try simp only [List.getElem_cons_zero]
  try simp only [Act.put]
  try simp only [List.setIfInBounds_toArray]
  try simp only [List.set_cons_succ]
  try simp only [List.set_cons_zero]
  refine wpAnyH_take (i := 1) (v := (.agg #[.int .i64 kd, .int .i64 c, .int .i64 e, .int .i64 n, .int .i64 k, .string ky, .string vl, .string lo, .string hi, .int .i64 mo, .bool bk, .int .i64 co, .slice pa pn pc])) rfl (by kernel_rfl) (by kernel_rfl) (by kernel_rfl) (fun _ _ _ h => h) (Or.inl ⟨by rfl, ?_⟩) (by assumption) ?_
  · intro w hSw
    (try dsimp only at hSw)
    go_simp
  try simp only [List.getElem_toArray]
  try simp only [List.getElem_cons_succ]
  try simp only [List.getElem_cons_zero]
  try simp only [Act.put]
  try simp only [List.setIfInBounds_toArray]
  try simp only [List.set_cons_succ]
  try simp only [List.set_cons_zero]
  have X7 := hid (X6.out.below (below_drew _))
  have K7 := hid (K6.out.below (below_drew _))
  have E7 := hid (E6.out.below (below_drew _))
  have H7 := hid (H6.out.below (below_drew _))
  have B7 := hid (B6.out.trans ((below_drew w6).mono B6.out.size))
  clear X6 K6 E6 H6 B6
  generalize w6.drew = w7 at *
  refine wpAnyH_ready (rs := [2]) (by kernel_rfl) (by simp) ?_
  refine AllReadyH.cons rfl (fun K1 hK => ?_) AllReadyH.nil
  go_simp
  refine (CT.out _ H7.out).mono ?_
  rintro r w8 ⟨gC, rfl, ⟨hgC, hbk⟩, hb⟩
  go_wp2_with fail
  have R8 := hid (pr_bk HN.out hkn.1 hbk)
  have X8 := hid (X7.out.below hb)
  have K8 := hid (K7.out.below hb)
  have E8 := hid (E7.out.below hb)
  have B8 := hid (B7.out.trans (hb.mono B7.out.size))
  have Q8 := hid (pr_bk HN.out hkn.1 E8.out)
  clear hb hbk hgC X7 K7 E7 H7 B7
  refine hK.out _ _ ?_ (fun hHeld => ?_)
  · exact ⟨X8.out.cell (j := 0) rfl, X8.out.cell (j := 1) rfl, X8.out.cell (j := 2) rfl, X8.out.cell (j := 3) rfl, X8.out.cell (j := 4) rfl, X8.out.cell (j := 5) rfl, X8.out.cell (j := 6) rfl, X8.out.cell (j := 7) rfl, X8.out.cell (j := 8) rfl, X8.out.cell (j := 9) rfl, X8.out.cell (j := 10) rfl, X8.out.cell (j := 11) rfl, X8.out.cell (j := 12) rfl, K8.out.cell (j := 0) rfl, K8.out.cell (j := 1) rfl, K8.out.cell (j := 2) rfl, K8.out.cell (j := 3) rfl, K8.out.cell (j := 4) rfl, K8.out.cell (j := 5) rfl, K8.out.cell (j := 6) rfl, K8.out.cell (j := 7) rfl, K8.out.cell (j := 8) rfl, K8.out.cell (j := 9) rfl, K8.out.cell (j := 10) rfl, K8.out.cell (j := 11) rfl, K8.out.cell (j := 12) rfl⟩
  clear hK K1
  try simp only [List.getElem_toArray]
  try simp only [List.getElem_cons_succ]
  try simp only [List.getElem_cons_zero]
  try simp only [Act.put]
  try simp only [List.setIfInBounds_toArray]
  try simp only [List.set_cons_succ]
  try simp only [List.set_cons_zero]
  refine wpAnyH_ready (rs := [3]) (by kernel_rfl) (by simp) ?_
  refine AllReadyH.cons rfl (fun K1 hK => ?_) AllReadyH.nil
  go_simp
  refine (eqReply_same _ _ ps kd c e n k ky vl lo hi mo bk co _ pn pn _ pn pn _ Q8.out R8.out).mono ?_
  rintro r w9 ⟨rfl, hb⟩
  go_wp2_with fail
  have X9 := hid (X8.out.below hb)
  have K9 := hid (K8.out.below hb)
  have B9 := hid (B8.out.trans (hb.mono B8.out.size))
  clear hb X8 K8 B8 Q8 R8 E8
  refine hK.out _ _ ?_ (fun hHeld => ?_)
  · exact ⟨X9.out.cell (j := 0) rfl, X9.out.cell (j := 1) rfl, X9.out.cell (j := 2) rfl, X9.out.cell (j := 3) rfl, X9.out.cell (j := 4) rfl, X9.out.cell (j := 5) rfl, X9.out.cell (j := 6) rfl, X9.out.cell (j := 7) rfl, X9.out.cell (j := 8) rfl, X9.out.cell (j := 9) rfl, X9.out.cell (j := 10) rfl, X9.out.cell (j := 11) rfl, X9.out.cell (j := 12) rfl, K9.out.cell (j := 0) rfl, K9.out.cell (j := 1) rfl, K9.out.cell (j := 2) rfl, K9.out.cell (j := 3) rfl, K9.out.cell (j := 4) rfl, K9.out.cell (j := 5) rfl, K9.out.cell (j := 6) rfl, K9.out.cell (j := 7) rfl, K9.out.cell (j := 8) rfl, K9.out.cell (j := 9) rfl, K9.out.cell (j := 10) rfl, K9.out.cell (j := 11) rfl, K9.out.cell (j := 12) rfl⟩
  clear hK K1
  try simp only [List.getElem_toArray]
  try simp only [List.getElem_cons_succ]
  try simp only [List.getElem_cons_zero]
  try simp only [Act.put]
  try simp only [List.setIfInBounds_toArray]
  try simp only [List.set_cons_succ]
  try simp only [List.set_cons_zero]
  refine wpAnyH_take (i := 4) (v := (.bool false)) rfl (by kernel_rfl) (by kernel_rfl) (by kernel_rfl) (fun _ _ _ h => h) (Or.inl ⟨by rfl, ?_⟩) (by assumption) ?_
  · intro w hSw
    (try dsimp only at hSw)
    go_simp
  try simp only [List.getElem_toArray]
  try simp only [List.getElem_cons_succ]
  try simp only [List.getElem_cons_zero]
  try simp only [Act.put]
  try simp only [List.setIfInBounds_toArray]
  try simp only [List.set_cons_succ]
  try simp only [List.set_cons_zero]
  refine wpAnyH_done (by kernel_rfl) ?_ _
  refine NoPanic.normal ?_
  go_wp2
  go_ret
  exact ⟨rfl, B9.out⟩
end Go.Proofs.YtjddkofpfmjojaaDoor
/-
  Rows of replies: how great the law's helper finds them.
-/
namespace Go.Proofs.YtjddkofpfmjojaaDoor
open Go.RowKit
set_option linter.unusedVariables false
def rySz (rs : List RY) : Prop := ∀ r ∈ rs, szOkP r.ps ∧ r.ky.size ≤ 9223372036854775807 ∧ r.vl.size ≤ 9223372036854775807 ∧ r.lo.size ≤ 9223372036854775807 ∧ r.hi.size ≤ 9223372036854775807
end Go.Proofs.YtjddkofpfmjojaaDoor
/-
  What is known of slices of pairs that come in as arguments.
-/
namespace Go.Proofs.YtjddkofpfmjojaaDoor
open Go.ChangeShapes Go.WideShapes Go.ChangeAt Go.RowKit

theorem pair_two : ∃ f0 f1 : Field, Tryd.prog.underlying 94 = some (.struct #[f0, f1]) ∧ f0.type = 9 ∧ f1.type = 9 ∧ f0.offset = 0 ∧ f1.offset = 1 := ⟨_, _, Tryd.underlying94, rfl, rfl, rfl, rfl⟩
theorem open_pairs {H : Type} {enc : TypeId × Value → H} {w : World} {base : Nat} {spare : Nat → Bool} {held : Bool} {fuel : Nat} {v : Value} {x : DataW H × List MemPlace}
    (h : DataW.trod enc Tryd.prog w base spare held fuel 45 [v] = some x) : ∃ l : List PB, Pr w (fun _ => True) v l ∧ szOkP l := by
  obtain ⟨f0, f1, hs, t0, t1, o0, o1⟩ := pair_two
  have k : Tryd.prog.cellsOf 9 = 1 := by kernel_rfl
  rcases Go.Deep.open_slice_pairs Tryd.underlying45 hs (by kernel_rfl) o0 o1 (by rw [t0]; exact k) (by rw [t1]; exact k) h with ⟨hcs, _⟩ | ⟨a, len, cap, m, n, V0, V1, D0, D1, P0, P1, hcs, _, hl, hm, hmm, _, hc⟩
  · simp at hcs
    subst hcs
    exact ⟨[], rw_nil _ _, fun i => by simp [pAtB]; decide⟩
  · simp at hcs
    subst hcs
    have hlm : len ≤ m := by rw [hmm]; split <;> omega
    have ex : ∀ i, ∃ p : PB, i < m → w.cell? (a.add (i * 2)) = some (.string p.1) ∧ w.cell? (a.add (i * 2 + 1)) = some (.string p.2) ∧ p.1.size ≤ maxLen ∧ p.2.size ≤ maxLen := by
      intro i
      by_cases hi : i < m
      · obtain ⟨c0, c1, d0, d1⟩ := hc i hi
        rw [t0] at d0
        rw [t1] at d1
        obtain ⟨s0, e0, _, l0⟩ := DataW.trod_string Tryd.underlying9 d0
        obtain ⟨s1, e1, _, l1⟩ := DataW.trod_string Tryd.underlying9 d1
        simp at e0 e1
        exact ⟨(s0, s1), fun _ => ⟨by rw [c0, e0], by rw [c1, e1], l0, l1⟩⟩
      · exact ⟨(⟨#[]⟩, ⟨#[]⟩), fun h => absurd h hi⟩
    obtain ⟨f, hf⟩ := Classical.axiomOfChoice ex
    unfold maxLen at hm hf
    refine ⟨(List.range len).map f, ?_, fun i => ?_⟩
    · refine ⟨_, cap, by simp; rfl, by simpa using hl, by omega, fun h0 => ?_, fun h0 => (by cases h0), fun hp => ?_⟩
      · simp at h0; subst h0; rfl
      · simp at hp
        obtain ⟨b, off, spot⟩ := a
        have hc0 := (hf 0 (by omega)).1
        have hspot : spot = none := by simpa [Addr.add] using World.cell?_spot hc0
        subst hspot
        refine ⟨b, off, rfl, by simpa [Addr.add] using block_lt hc0, trivial, fun j u hu => ?_⟩
        have hj : j < len * 2 := by
          have := (List.getElem?_eq_some_iff.1 hu).1
          simpa [pcs_length] using this
        rcases Nat.mod_two_eq_zero_or_one j with e | e
        · have h1 := (pcs_at ((List.range len).map f) (j / 2) (by simp; omega)).1
          rw [show j / 2 * 2 = j by omega, hu] at h1
          have h2 := (hf (j / 2) (by omega)).1
          rw [Addr.add_lit, show j / 2 * 2 = j by omega] at h2
          rw [h2, h1]
          simp [pAtB, show j / 2 < len by omega]
        · have h1 := (pcs_at ((List.range len).map f) (j / 2) (by simp; omega)).2
          rw [show j / 2 * 2 + 1 = j by omega, hu] at h1
          have h2 := (hf (j / 2) (by omega)).2.1
          rw [Addr.add_lit, show j / 2 * 2 + 1 = j by omega] at h2
          rw [h2, h1]
          simp [pAtB, show j / 2 < len by omega]
    · by_cases hi : i < len
      · have := hf i (by omega)
        simp [pAtB, hi]
        omega
      · simp [pAtB, hi]
        decide
set_option maxRecDepth 100000 in
theorem open_pairS {H : Type} {enc : TypeId × Value → H} {w : World} {base : Nat} {spare : Nat → Bool} {held : Bool} {r : Reach} {b0 : Nat} {v : Value} {d : DataW H} {p : List MemPlace}
    (hv : Value.okWide Tryd.prog w r b0 45 v) (h : DataW.Trod enc Tryd.prog w base spare held 45 v d p) : ∃ (a : Option Addr) (n c : Nat) (l : List PB), v = .slice a n c ∧ Pr w (fun _ => True) (.slice a n c) l ∧ szOkP l := by
  obtain ⟨a, n, c, rfl⟩ := okWide_slice Tryd.underlying45 hv
  obtain ⟨fuel, hf⟩ := h
  simp [Value.cells] at hf
  obtain ⟨l, h1, h2⟩ := open_pairs hf
  exact ⟨a, n, c, l, rfl, h1, h2⟩
end Go.Proofs.YtjddkofpfmjojaaDoor
/-
  What is known of names of transactions, of locks and of tables of locks that come in as arguments.
-/
namespace Go.Proofs.YtjddkofpfmjojaaDoor
open Go.ChangeShapes Go.WideShapes Go.ChangeAt Go.RowKit
theorem arrX3 {α : Type} {cs : Array α} (h : cs.size = 3) : ∃ a b c, cs = #[a, b, c] := by
  obtain ⟨l⟩ := cs
  match l, h with
  | [a, b, c], _ => exact ⟨a, b, c, rfl⟩
theorem arrX6 {α : Type} {cs : Array α} (h : cs.size = 6) : ∃ a b c d e f, cs = #[a, b, c, d, e, f] := by
  obtain ⟨l⟩ := cs
  match l, h with
  | [a, b, c, d, e, f], _ => exact ⟨a, b, c, d, e, f, rfl⟩
theorem arrX2 {α : Type} {cs : Array α} (h : cs.size = 2) : ∃ a b, cs = #[a, b] := by
  obtain ⟨l⟩ := cs
  match l, h with
  | [a, b], _ => exact ⟨a, b, rfl⟩
set_option maxRecDepth 100000 in
theorem tx_three : ∃ f0 f1 f2 : Field, Tryd.prog.underlying 44 = some (.struct #[f0, f1, f2]) ∧ f0.type = 3 ∧ f1.type = 3 ∧ f2.type = 3 ∧ f0.offset = 0 ∧ f1.offset = 1 ∧ f2.offset = 2 := ⟨_, _, _, Tryd.underlying44, rfl, rfl, rfl, rfl, rfl, rfl⟩
set_option maxRecDepth 100000 in
theorem open_txc {H : Type} {enc : TypeId × Value → H} {w : World} {base : Nat} {spare : Nat → Bool} {held : Bool} {fuel : Nat} {v0 v1 v2 : Value} {x : DataW H × List MemPlace}
    (h : DataW.trod enc Tryd.prog w base spare held fuel 44 [v0, v1, v2] = some x) : ∃ t : TX, v0 = .int .i64 t.1 ∧ v1 = .int .i64 t.2.1 ∧ v2 = .int .i64 t.2.2 := by
  obtain ⟨f0, f1, f2, hs, t0, t1, t2, o0, o1, o2⟩ := tx_three
  have k0 : Tryd.prog.cellsOf 3 = 1 := by kernel_rfl
  obtain ⟨y0, y1, y2, n', _, _, d0, d1, d2⟩ := Go.Deep.trod_struct3 hs h
  rw [t0, o0, k0] at d0
  rw [t1, o1, k0] at d1
  rw [t2, o2, k0] at d2
  simp at d0 d1 d2
  obtain ⟨s0, e0, _⟩ := DataW.trod_int Tryd.underlying3 d0
  obtain ⟨s1, e1, _⟩ := DataW.trod_int Tryd.underlying3 d1
  obtain ⟨s2, e2, _⟩ := DataW.trod_int Tryd.underlying3 d2
  simp at e0 e1 e2
  exact ⟨(s0, s1, s2), e0, e1, e2⟩
set_option maxRecDepth 100000 in
theorem open_tx {H : Type} {enc : TypeId × Value → H} {w : World} {base : Nat} {spare : Nat → Bool} {held : Bool} {r : Reach} {b0 : Nat} {v : Value} {d : DataW H} {p : List MemPlace}
    (hv : Value.okWide Tryd.prog w r b0 44 v) (h : DataW.Trod enc Tryd.prog w base spare held 44 v d p) : ∃ c e n : Int, v = .agg #[.int .i64 c, .int .i64 e, .int .i64 n] := by
  obtain ⟨f0, f1, f2, hs, t0, t1, t2, o0, o1, o2⟩ := tx_three
  obtain ⟨cs, rfl, hsz⟩ := okWide_struct hs hv
  obtain ⟨c0, c1, c2, rfl⟩ := arrX3 (hsz.trans (by kernel_rfl))
  obtain ⟨fuel, hf⟩ := h
  simp [Value.cells] at hf
  obtain ⟨t, rfl, rfl, rfl⟩ := open_txc hf
  exact ⟨t.1, t.2.1, t.2.2, rfl⟩
end Go.Proofs.YtjddkofpfmjojaaDoor
/-
  What is known of asks and messages that come in as arguments.
-/
namespace Go.Proofs.YtjddkofpfmjojaaDoor
open Go.ChangeShapes Go.WideShapes Go.ChangeAt Go.RowKit
set_option linter.unusedVariables false
theorem arrK7 {α : Type} {cs : Array α} (h : cs.size = 7) : ∃ v0 v1 v2 v3 v4 v5 v6, cs = #[v0, v1, v2, v3, v4, v5, v6] := by
  obtain ⟨l⟩ := cs
  match l, h with
  | [v0, v1, v2, v3, v4, v5, v6], _ => exact ⟨v0, v1, v2, v3, v4, v5, v6, rfl⟩
theorem arrK17 {α : Type} {cs : Array α} (h : cs.size = 17) : ∃ v0 v1 v2 v3 v4 v5 v6 v7 v8 v9 v10 v11 v12 v13 v14 v15 v16, cs = #[v0, v1, v2, v3, v4, v5, v6, v7, v8, v9, v10, v11, v12, v13, v14, v15, v16] := by
  obtain ⟨l⟩ := cs
  match l, h with
  | [v0, v1, v2, v3, v4, v5, v6, v7, v8, v9, v10, v11, v12, v13, v14, v15, v16], _ => exact ⟨v0, v1, v2, v3, v4, v5, v6, v7, v8, v9, v10, v11, v12, v13, v14, v15, v16, rfl⟩
set_option maxRecDepth 100000 in
theorem rangeK_two : ∃ f0 f1 : Field, Tryd.prog.underlying 24 = some (.struct #[f0, f1]) ∧ f0.type = 9 ∧ f1.type = 9 ∧ f0.offset = 0 ∧ f1.offset = 1 := ⟨_, _, Tryd.underlying24, rfl, rfl, rfl, rfl⟩
set_option maxRecDepth 100000 in
theorem open_rngK {H : Type} {enc : TypeId × Value → H} {w : World} {base : Nat} {spare : Nat → Bool} {held : Bool} {fuel : Nat} {v0 v1 : Value} {x : DataW H × List MemPlace}
    (h : DataW.trod enc Tryd.prog w base spare held fuel 24 [v0, v1] = some x) : ∃ lo hi : ByteArray, v0 = .string lo ∧ v1 = .string hi ∧ lo.size ≤ maxLen ∧ hi.size ≤ maxLen := by
  obtain ⟨f0, f1, hs, t0, t1, o0, o1⟩ := rangeK_two
  have k0 : Tryd.prog.cellsOf 9 = 1 := by kernel_rfl
  obtain ⟨y0, y1, n', _, _, d0, d1⟩ := trod_struct2 hs h
  rw [t0, o0, k0] at d0
  rw [t1, o1, k0] at d1
  simp at d0 d1
  obtain ⟨s0, e0, _, l0⟩ := DataW.trod_string Tryd.underlying9 d0
  obtain ⟨s1, e1, _, l1⟩ := DataW.trod_string Tryd.underlying9 d1
  simp at e0 e1
  exact ⟨s0, s1, e0, e1, l0, l1⟩
set_option maxRecDepth 100000 in
theorem ask_six : ∃ f0 f1 f2 f3 f4 f5 : Field, Tryd.prog.underlying 26 = some (.struct #[f0, f1, f2, f3, f4, f5]) ∧ f0.type = 3 ∧ f1.type = 9 ∧ f2.type = 9 ∧ f3.type = 24 ∧ f4.type = 3 ∧ f5.type = 4 ∧ f0.offset = 0 ∧ f1.offset = 1 ∧ f2.offset = 2 ∧ f3.offset = 3 ∧ f4.offset = 5 ∧ f5.offset = 6 := ⟨_, _, _, _, _, _, Tryd.underlying26, rfl, rfl, rfl, rfl, rfl, rfl, rfl, rfl, rfl, rfl, rfl, rfl⟩
set_option maxRecDepth 100000 in
theorem open_askc {H : Type} {enc : TypeId × Value → H} {w : World} {base : Nat} {spare : Nat → Bool} {held : Bool} {fuel : Nat} {v0 v1 v2 v3 v4 v5 v6 : Value} {x : DataW H × List MemPlace}
    (h : DataW.trod enc Tryd.prog w base spare held fuel 26 [v0, v1, v2, v3, v4, v5, v6] = some x) : ∃ (k : Int) (ky vl lo hi : ByteArray) (mo : Int) (bk : Bool), v0 = .int .i64 k ∧ v1 = .string ky ∧ v2 = .string vl ∧ v3 = .string lo ∧ v4 = .string hi ∧ v5 = .int .i64 mo ∧ v6 = .bool bk ∧ ky.size ≤ maxLen ∧ vl.size ≤ maxLen ∧ lo.size ≤ maxLen ∧ hi.size ≤ maxLen := by
  obtain ⟨f0, f1, f2, f3, f4, f5, hs, t0, t1, t2, t3, t4, t5, o0, o1, o2, o3, o4, o5⟩ := ask_six
  have kbool : Tryd.prog.cellsOf 4 = 1 := by kernel_rfl
  have kint : Tryd.prog.cellsOf 3 = 1 := by kernel_rfl
  have klawsRange : Tryd.prog.cellsOf 24 = 2 := by kernel_rfl
  have kstring : Tryd.prog.cellsOf 9 = 1 := by kernel_rfl
  obtain ⟨xs, n', _, rfl, hl, hlen, hf⟩ := DataW.trod_struct hs h
  match xs, hlen with
  | [y0, y1, y2, y3, y4, y5], _ =>
    have d0 := hf 0 f0 rfl
    have d1 := hf 1 f1 rfl
    have d2 := hf 2 f2 rfl
    have d3 := hf 3 f3 rfl
    have d4 := hf 4 f4 rfl
    have d5 := hf 5 f5 rfl
    rw [t0, o0, kint] at d0
    rw [t1, o1, kstring] at d1
    rw [t2, o2, kstring] at d2
    rw [t3, o3, klawsRange] at d3
    rw [t4, o4, kint] at d4
    rw [t5, o5, kbool] at d5
    simp at d0 d1 d2 d3 d4 d5
    obtain ⟨s0, e0, _⟩ := DataW.trod_int Tryd.underlying3 d0
    obtain ⟨s1, e1, _, l1⟩ := DataW.trod_string Tryd.underlying9 d1
    obtain ⟨s2, e2, _, l2⟩ := DataW.trod_string Tryd.underlying9 d2
    obtain ⟨lo, hi, e3, e4, l3, l4⟩ := open_rngK d3
    obtain ⟨s4, e5, _⟩ := DataW.trod_int Tryd.underlying3 d4
    obtain ⟨s5, e6, _⟩ := DataW.trod_bool Tryd.underlying4 d5
    simp at e0 e1 e2 e5 e6
    exact ⟨s0, s1, s2, lo, hi, s4, s5, e0, e1, e2, e3, e4, e5, e6, l1, l2, l3, l4⟩
set_option maxRecDepth 100000 in
theorem open_ask {H : Type} {enc : TypeId × Value → H} {w : World} {base : Nat} {spare : Nat → Bool} {held : Bool} {r : Reach} {b0 : Nat} {v : Value} {d : DataW H} {p : List MemPlace}
    (hv : Value.okWide Tryd.prog w r b0 26 v) (h : DataW.Trod enc Tryd.prog w base spare held 26 v d p) : ∃ (k : Int) (ky vl lo hi : ByteArray) (mo : Int) (bk : Bool), v = .agg #[.int .i64 k, .string ky, .string vl, .string lo, .string hi, .int .i64 mo, .bool bk] ∧ ky.size ≤ maxLen ∧ vl.size ≤ maxLen ∧ lo.size ≤ maxLen ∧ hi.size ≤ maxLen := by
  obtain ⟨f0, f1, f2, f3, f4, f5, hs, _⟩ := ask_six
  obtain ⟨cs, rfl, hsz⟩ := okWide_struct hs hv
  obtain ⟨v0, v1, v2, v3, v4, v5, v6, rfl⟩ := arrK7 (hsz.trans (by kernel_rfl))
  obtain ⟨fuel, hf⟩ := h
  simp [Value.cells] at hf
  obtain ⟨k, ky, vl, lo, hi, mo, bk, rfl, rfl, rfl, rfl, rfl, rfl, rfl, hl⟩ := open_askc hf
  exact ⟨k, ky, vl, lo, hi, mo, bk, rfl, hl⟩
end Go.Proofs.YtjddkofpfmjojaaDoor
/-
  What is known of replies that come in as arguments.
-/
namespace Go.Proofs.YtjddkofpfmjojaaDoor
open Go.ChangeShapes Go.WideShapes Go.ChangeAt Go.RowKit
set_option linter.unusedVariables false
theorem reply_five : ∃ f0 f1 f2 f3 f4 : Field, Tryd.prog.underlying 47 = some (.struct #[f0, f1, f2, f3, f4]) ∧ f0.type = 3 ∧ f1.type = 44 ∧ f2.type = 26 ∧ f3.type = 3 ∧ f4.type = 45 ∧ f0.offset = 0 ∧ f1.offset = 1 ∧ f2.offset = 4 ∧ f3.offset = 11 ∧ f4.offset = 12 := ⟨_, _, _, _, _, Tryd.underlying47, rfl, rfl, rfl, rfl, rfl, rfl, rfl, rfl, rfl, rfl⟩
theorem txY_three : ∃ f0 f1 f2 : Field, Tryd.prog.underlying 44 = some (.struct #[f0, f1, f2]) ∧ f0.type = 3 ∧ f1.type = 3 ∧ f2.type = 3 ∧ f0.offset = 0 ∧ f1.offset = 1 ∧ f2.offset = 2 := ⟨_, _, _, Tryd.underlying44, rfl, rfl, rfl, rfl, rfl, rfl⟩
theorem open_replyc {H : Type} {enc : TypeId × Value → H} {w : World} {base : Nat} {spare : Nat → Bool} {held : Bool} {fuel : Nat} {v0 v1 v2 v3 v4 v5 v6 v7 v8 v9 v10 v11 v12 : Value} {x : DataW H × List MemPlace}
    (h : DataW.trod enc Tryd.prog w base spare held fuel 47 [v0, v1, v2, v3, v4, v5, v6, v7, v8, v9, v10, v11, v12] = some x) : ∃ r : RY, [v0, v1, v2, v3, v4, v5, v6, v7, v8, v9, v10, v11, v12] = r.cs v12 ∧ Pr w (fun _ => True) v12 r.ps ∧ szOkP r.ps ∧ r.ky.size ≤ maxLen ∧ r.vl.size ≤ maxLen ∧ r.lo.size ≤ maxLen ∧ r.hi.size ≤ maxLen := by
  obtain ⟨f0, f1, f2, f3, f4, hs, t0, t1, t2, t3, t4, o0, o1, o2, o3, o4⟩ := reply_five
  have kSlawsPair : Tryd.prog.cellsOf 45 = 1 := by kernel_rfl
  have kint : Tryd.prog.cellsOf 3 = 1 := by kernel_rfl
  have klawsAsk : Tryd.prog.cellsOf 26 = 7 := by kernel_rfl
  have klawsTx : Tryd.prog.cellsOf 44 = 3 := by kernel_rfl
  obtain ⟨xs, n', _, rfl, hl, hlen, hf⟩ := DataW.trod_struct hs h
  match xs, hlen with
  | [y0, y1, y2, y3, y4], _ =>
    have d0 := hf 0 f0 rfl
    have d1 := hf 1 f1 rfl
    have d2 := hf 2 f2 rfl
    have d3 := hf 3 f3 rfl
    have d4 := hf 4 f4 rfl
    rw [t0, o0, kint] at d0
    rw [t1, o1, klawsTx] at d1
    rw [t2, o2, klawsAsk] at d2
    rw [t3, o3, kint] at d3
    rw [t4, o4, kSlawsPair] at d4
    simp at d0 d1 d2 d3 d4
    obtain ⟨s0, e0, _⟩ := DataW.trod_int Tryd.underlying3 d0
    obtain ⟨g0, g1, g2, hs2, u0, u1, u2, i0, i1, i2⟩ := txY_three
    obtain ⟨z0, z1, z2, n2, _, _, j0, j1, j2⟩ := Go.Deep.trod_struct3 hs2 d1
    rw [u0, i0, kint] at j0
    rw [u1, i1, kint] at j1
    rw [u2, i2, kint] at j2
    simp at j0 j1 j2
    obtain ⟨q0, b0, _⟩ := DataW.trod_int Tryd.underlying3 j0
    obtain ⟨q1, b1, _⟩ := DataW.trod_int Tryd.underlying3 j1
    obtain ⟨q2, b2, _⟩ := DataW.trod_int Tryd.underlying3 j2
    obtain ⟨k, ky, vl, lo, hi, mo, bk, a0, a1, a2, a3, a4, a5, a6, hz⟩ := open_askc d2
    obtain ⟨s3, e3, _⟩ := DataW.trod_int Tryd.underlying3 d3
    obtain ⟨ps, p1, p2⟩ := open_pairs d4
    simp at e0 b0 b1 b2 e3
    subst e0 b0 b1 b2 a0 a1 a2 a3 a4 a5 a6 e3
    exact ⟨⟨s0, q0, q1, q2, k, ky, vl, lo, hi, mo, bk, s3, ps⟩, rfl, p1, p2, hz⟩
theorem rw_mkY {w : World} {a : Addr} {n c : Nat} {xs : List Value} (hl : n ≤ c) (hc : c ≤ 9223372036854775807) (hx : n = 0 → xs = []) (h0 : 0 < n → 0 < xs.length) (h : ∀ j u, xs[j]? = some u → w.cell? (a.add j) = some u) : Rw w (fun _ => True) (.slice (some a) n c) n xs := by
  refine ⟨_, c, rfl, hl, hc, hx, fun h => by (cases h), fun hp => ?_⟩
  obtain ⟨b, off, spot⟩ := a
  obtain ⟨u, hu⟩ : ∃ u, xs[0]? = some u := ⟨xs[0]'(h0 hp), by simp [h0 hp]⟩
  have hc0 := h 0 u hu
  have hspot : spot = none := by simpa [Addr.add] using World.cell?_spot hc0
  subst hspot
  refine ⟨b, off, rfl, by simpa [Addr.add] using block_lt hc0, trivial, fun j v hv => ?_⟩
  have := h j v hv
  rwa [Addr.add_lit] at this
theorem rvAt_map (f : Nat → RV) (len i : Nat) (h : i < len) : rvAt ((List.range len).map f) i = f i := by simp [rvAt, h]
end Go.Proofs.YtjddkofpfmjojaaDoor
/-
  What is known of a reply that comes in as an argument.
-/
namespace Go.Proofs.YtjddkofpfmjojaaDoor
open Go.ChangeShapes Go.WideShapes Go.ChangeAt Go.RowKit
set_option linter.unusedVariables false
theorem arrK13 {α : Type} {cs : Array α} (h : cs.size = 13) : ∃ v0 v1 v2 v3 v4 v5 v6 v7 v8 v9 v10 v11 v12, cs = #[v0, v1, v2, v3, v4, v5, v6, v7, v8, v9, v10, v11, v12] := by
  obtain ⟨l⟩ := cs
  match l, h with
  | [v0, v1, v2, v3, v4, v5, v6, v7, v8, v9, v10, v11, v12], _ => exact ⟨v0, v1, v2, v3, v4, v5, v6, v7, v8, v9, v10, v11, v12, rfl⟩
set_option maxRecDepth 100000 in
theorem open_reply {H : Type} {enc : TypeId × Value → H} {w : World} {base : Nat} {spare : Nat → Bool} {held : Bool} {r : Reach} {b0 : Nat} {v : Value} {d : DataW H} {p : List MemPlace}
    (hv : Value.okWide Tryd.prog w r b0 47 v) (h : DataW.Trod enc Tryd.prog w base spare held 47 v d p) : ∃ (kd c e n k : Int) (ky vl lo hi : ByteArray) (mo : Int) (bk : Bool) (co : Int) (pa : Option Addr) (pn pc : Nat) (ps : List PB), v = .agg #[.int .i64 kd, .int .i64 c, .int .i64 e, .int .i64 n, .int .i64 k, .string ky, .string vl, .string lo, .string hi, .int .i64 mo, .bool bk, .int .i64 co, .slice pa pn pc] ∧ Pr w (fun _ => True) (.slice pa pn pc) ps ∧ szOkP ps ∧ ky.size ≤ maxLen ∧ vl.size ≤ maxLen ∧ lo.size ≤ maxLen ∧ hi.size ≤ maxLen := by
  obtain ⟨f0, f1, f2, f3, f4, hs, _⟩ := reply_five
  obtain ⟨cs, rfl, hsz⟩ := okWide_struct hs hv
  obtain ⟨v0, v1, v2, v3, v4, v5, v6, v7, v8, v9, v10, v11, v12, rfl⟩ := arrK13 (hsz.trans (by kernel_rfl))
  obtain ⟨fuel, hf⟩ := h
  simp [Value.cells] at hf
  obtain ⟨r, hr, hp, hz, hl⟩ := open_replyc hf
  obtain ⟨pa, pc, rfl, _⟩ := Rw.shape hp
  have hr2 := hr
  unfold RY.cs at hr2
  simp only [List.cons.injEq, and_true] at hr2
  obtain ⟨rfl, rfl, rfl, rfl, rfl, rfl, rfl, rfl, rfl, rfl, rfl, rfl⟩ := hr2
  exact ⟨_, _, _, _, _, _, _, _, _, _, _, _, pa, _, pc, r.ps, rfl, hp, hz, hl⟩
end Go.Proofs.YtjddkofpfmjojaaDoor
