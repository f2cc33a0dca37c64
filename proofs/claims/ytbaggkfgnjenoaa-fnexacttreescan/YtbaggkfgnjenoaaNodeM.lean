/-
  What the law's helpers do with slices of nodes and with trees.
-/
import Derived.Test.YtbaggkfgnjenoaaNodeL
namespace Go.Proofs.Ytbaggkfgnjenoaa
open Go.RowKit

def smallN (ns : List NB) : Prop := ∀ i, i < ns.length → (nAt ns i).ps.length ≤ 1048576 ∧ (nAt ns i).keys.length ≤ 1048576 ∧ (nAt ns i).kids.length ≤ 1048576
theorem N1.grow {w w' : World} {B : Nat} {p : V3} {x : NB} (h : N1 w (fun b => B < b ∧ Uf w b) p x) (ho : Only (fun b => b = B) w w') : N1 w' (fun b => B < b ∧ Uf w' b) p x :=
  (h.to ho (fun b hb _ e => by have := hb.1; omega)).mono (fun b hb _ => ⟨hb.1, hb.2.to ho (by have := hb.1; omega)⟩)
theorem N1.fresh {w : World} {B g0 g1 g2 : Nat} {x : NB} {np nx ni : Nat} (h0 : B < g0) (h1 : B < g1) (h2 : B < g2) (k0 : Bk w g0 69 (pcs x.ps)) (k1 : Bk w g1 9 (x.keys.map Value.string)) (k2 : Bk w g2 3 (x.kids.map (Value.int .i64)))
    (l0 : np = x.ps.length) (l1 : nx = x.keys.length) (l2 : ni = x.kids.length) (b0 : np ≤ 1048576) (b1 : nx ≤ 1048576) (b2 : ni ≤ 1048576) :
    N1 w (fun b => B < b ∧ Uf w b) (.slice (some ⟨g0, 0, none⟩) np np, .slice (some ⟨g1, 0, none⟩) nx nx, .slice (some ⟨g2, 0, none⟩) ni ni) x := by
  refine ⟨k0.pr l0 (by omega) _ ⟨h0, k0.uf⟩, ?_, ?_⟩
  · subst l1
    exact k1.rw (Nat.le_refl _) (by omega) (fun e => by rw [List.eq_nil_of_length_eq_zero e]; rfl) _ ⟨h1, k1.uf⟩
  · subst l2
    exact k2.rw (Nat.le_refl _) (by omega) (fun e => by rw [List.eq_nil_of_length_eq_zero e]; rfl) _ ⟨h2, k2.uf⟩
theorem vAt_set (V : List V3) (j : Nat) (p : V3) (h : j < V.length) : vAt (V.set j p) j = p := by simp [vAt, h]
theorem vAt_other (V : List V3) (j i : Nat) (p : V3) (h : i ≠ j) : vAt (V.set j p) i = vAt V i := by simp [vAt, Ne.symm h]
theorem infoNodeI : (Try.prog.info? 135).map (fun i => (i.zero, i.size, i.bytes)) = some (some (.agg #[.slice none 0 0, .slice none 0 0, .slice none 0 0]), 3, 72) := by kernel_rfl
theorem made_nodes (n : Nat) : madeCells (Value.agg #[.slice none 0 0, .slice none 0 0, .slice none 0 0]).cells (n * 3) = (ncs (List.replicate n (.slice none 0 0, .slice none 0 0, .slice none 0 0))).toArray := by
  apply Array.ext
  · simp [madeCells, ncs_length]
  · intro i h1 h2
    simp [ncs_length] at h2
    simp only [madeCells, List.getElem_toArray]
    have h3 : (ncs (List.replicate n ((.slice none 0 0, .slice none 0 0, .slice none 0 0) : V3)))[i]? = some (.slice none 0 0) := by
      obtain ⟨c0, c1, c2⟩ := ncs_at (List.replicate n ((.slice none 0 0, .slice none 0 0, .slice none 0 0) : V3)) (i / 3) (by simp; omega)
      simp [vAt, show i / 3 < n by omega] at c0 c1 c2
      have : i % 3 = 0 ∨ i % 3 = 1 ∨ i % 3 = 2 := by omega
      rcases this with e | e | e
      · rw [show i / 3 * 3 = i by omega] at c0; exact c0
      · rw [show i / 3 * 3 + 1 = i by omega] at c1; exact c1
      · rw [show i / 3 * 3 + 2 = i by omega] at c2; exact c2
    have h4 := List.getElem?_eq_some_iff.1 h3
    rw [h4.2]
    have : i % 3 = 0 ∨ i % 3 = 1 ∨ i % 3 = 2 := by omega
    rcases this with e | e | e <;> simp [Value.cells, e]
set_option maxHeartbeats 4000000 in
theorem toNodeS_at (S : Nat → Prop) (a : Option Addr) (n c : Nat) (ns : List NB) (w : World) (h : Nr w S (.slice a n c) ns) (hnm : n ≤ 1048576) (hsm : smallN ns) :
    Calls Try.prog 82 #[.slice a n c] w fun e w' => e = .returned (.slice (some ⟨w.heap.size, 0, none⟩) n n) ∧ Nr w' (fun b => w.heap.size ≤ b ∧ Uf w' b) (.slice (some ⟨w.heap.size, 0, none⟩) n n) ns ∧ Below w.heap.size w w' := by
  have HN := hid h.len.1
  have H0 := hid h
  have HSM := hid hsm
  clear h hsm
  have hmk := run_make_n (P := Try.prog) 61 135 (.agg #[.slice none 0 0, .slice none 0 0, .slice none 0 0]) 3 72 Try.underlying61 infoNodeI n (by omega) (by omega)
  rw [made_nodes] at hmk
  have h63 : n ≤ 9223372036854775807 := by omega
  have HV0 : Hid ((List.replicate n ((.slice none 0 0, .slice none 0 0, .slice none 0 0) : V3)).length = n) := by show _ = _; simp
  generalize List.replicate n ((.slice none 0 0, .slice none 0 0, .slice none 0 0) : V3) = V0 at *
  go_enter Try.func82, Try.ntmps82
  go_wp2
  go_loopw [4] (fun i wr => ∃ (k : Nat) (V : List V3), k ≤ n ∧ i = .int .i64 k ∧ Hid (V.length = n) ∧ Hid (Bk wr w.heap.size 135 (ncs V)) ∧ Hid (∀ i, i < k → N1 wr (fun b => w.heap.size < b ∧ Uf wr b) (vAt V i) (nAt ns i)) ∧ Hid (Below w.heap.size w wr)) (fun i _ => n - (intOf i).toNat)
  case atStart => exact ⟨0, V0, Nat.zero_le _, rfl, HV0.out, Bk.new _ _ _, fun i hi => absurd hi (Nat.not_lt_zero _), (Below.refl _ _).alloc (Nat.le_refl _) _⟩
  case round =>
    obtain ⟨k, V, hk, rfl, HV, HK, HA, HB⟩ := hrel
    by_cases hlt : k < n
    · have hlt' : (k : Int) < (n : Int) := by omega
      have HP := hid (H0.out.below HB.out)
      obtain ⟨b, off, rfl, _, hbw, hcell⟩ := HP.out.at (by omega)
      obtain ⟨ap, np, cp, ax, nx, cx, ai, ni, ci, c0, c1, c2, hp, hx, hi⟩ := hcell k hlt
      obtain ⟨s1, s2, s3⟩ := HSM.out k (by rw [← HN.out]; exact hlt)
      have l0 := hid (Rw.len hp).1
      have l1 := hid (Rw.len hx).1
      have l2 := hid (Rw.len hi).1
      have b0 : np ≤ 1048576 := by rw [l0.out]; exact s1
      have b1 : nx ≤ 1048576 := by rw [l1.out]; exact s2
      have b2 : ni ≤ 1048576 := by rw [l2.out]; exact s3
      have HPp := hid hp
      have HPx := hid hx
      have HPi := hid hi
      have HWL : Hid (w.heap.size < wr.heap.size) := HK.out.lt
      clear hcell hbw HP hp hx hi s1 s2 s3
      go_wp2_with fail
      refine (toNode_any S ap ax ai np cp nx cx ni ci (nAt ns k) wr HPp.out HPx.out HPi.out b0 b1 b2).mono ?_
      rintro e w1 ⟨g0, g1, g2, rfl, e0, e1, e2, k0, k1, k2, hb1⟩
      have HK1 := hid (HK.out.below hb1)
      have HB1 := hid (HB.out.trans (hb1.mono HB.out.size))
      have HWL' := HWL.out
      have HA1 : Hid (∀ i, i < k → N1 w1 (fun b => w.heap.size < b ∧ Uf w1 b) (vAt V i) (nAt ns i)) := fun i hi => (HA.out i hi).grow (only_of_below hb1 _)
      have HN1 : Hid (N1 w1 (fun b => w.heap.size < b ∧ Uf w1 b) (.slice (some ⟨g0, 0, none⟩) np np, .slice (some ⟨g1, 0, none⟩) nx nx, .slice (some ⟨g2, 0, none⟩) ni ni) (nAt ns k)) := N1.fresh (by omega) (by omega) (by omega) k0 k1 k2 l0.out l1.out l2.out b0 b1 b2
      clear hb1 HA HB k0 k1 k2 e0 e1 e2 HWL' c0 c1 c2 HPp HPx HPi
      obtain ⟨d0, d1, d2⟩ := ncs_at V k (by rw [HV.out]; exact hlt)
      have c0 := HK1.out.cell d0
      have c1 := HK1.out.cell d1
      have c2 := HK1.out.cell d2
      have f0 := HK1.out.free (k * 3)
      have f1 := HK1.out.free (k * 3 + 1)
      have f2 := HK1.out.free (k * 3 + 2)
      clear d0 d1 d2
      have HO : Hid (Only (fun b => b = w.heap.size) w1 (((w1.setCell ⟨w.heap.size, k * 3, none⟩ (.slice (some ⟨g0, 0, none⟩) np np)).setCell ⟨w.heap.size, k * 3 + 1, none⟩ (.slice (some ⟨g1, 0, none⟩) nx nx)).setCell ⟨w.heap.size, k * 3 + 2, none⟩ (.slice (some ⟨g2, 0, none⟩) ni ni))) := ((only_set (R := fun b => b = w.heap.size) rfl _).trans (only_set (R := fun b => b = w.heap.size) rfl _)).trans (only_set (R := fun b => b = w.heap.size) rfl _)
      have HK2 : Hid (Bk (((w1.setCell ⟨w.heap.size, k * 3, none⟩ (.slice (some ⟨g0, 0, none⟩) np np)).setCell ⟨w.heap.size, k * 3 + 1, none⟩ (.slice (some ⟨g1, 0, none⟩) nx nx)).setCell ⟨w.heap.size, k * 3 + 2, none⟩ (.slice (some ⟨g2, 0, none⟩) ni ni)) w.heap.size 135 (ncs (V.set k (.slice (some ⟨g0, 0, none⟩) np np, .slice (some ⟨g1, 0, none⟩) nx nx, .slice (some ⟨g2, 0, none⟩) ni ni)))) := by
        show Bk _ _ _ _
        rw [ncs_set _ _ _ (by rw [HV.out]; exact hlt)]
        exact ((HK1.out.set _ _).set _ _).set _ _
      have HB2 : Hid (Below w.heap.size w (((w1.setCell ⟨w.heap.size, k * 3, none⟩ (.slice (some ⟨g0, 0, none⟩) np np)).setCell ⟨w.heap.size, k * 3 + 1, none⟩ (.slice (some ⟨g1, 0, none⟩) nx nx)).setCell ⟨w.heap.size, k * 3 + 2, none⟩ (.slice (some ⟨g2, 0, none⟩) ni ni))) := ((HB1.out.setCell (Nat.le_refl _) _).setCell (Nat.le_refl _) _).setCell (Nat.le_refl _) _
      have HA2 : Hid (∀ i, i < k + 1 → N1 (((w1.setCell ⟨w.heap.size, k * 3, none⟩ (.slice (some ⟨g0, 0, none⟩) np np)).setCell ⟨w.heap.size, k * 3 + 1, none⟩ (.slice (some ⟨g1, 0, none⟩) nx nx)).setCell ⟨w.heap.size, k * 3 + 2, none⟩ (.slice (some ⟨g2, 0, none⟩) ni ni)) (fun b => w.heap.size < b ∧ Uf (((w1.setCell ⟨w.heap.size, k * 3, none⟩ (.slice (some ⟨g0, 0, none⟩) np np)).setCell ⟨w.heap.size, k * 3 + 1, none⟩ (.slice (some ⟨g1, 0, none⟩) nx nx)).setCell ⟨w.heap.size, k * 3 + 2, none⟩ (.slice (some ⟨g2, 0, none⟩) ni ni)) b) (vAt (V.set k (.slice (some ⟨g0, 0, none⟩) np np, .slice (some ⟨g1, 0, none⟩) nx nx, .slice (some ⟨g2, 0, none⟩) ni ni)) i) (nAt ns i)) := by
        intro i hi
        by_cases e : i = k
        · subst e
          rw [vAt_set _ _ _ (by rw [HV.out]; exact hlt)]
          exact HN1.out.grow HO.out
        · rw [vAt_other _ _ _ _ e]
          exact (HA1.out i (by omega)).grow HO.out
      have HV2 : Hid ((V.set k (.slice (some ⟨g0, 0, none⟩) np np, .slice (some ⟨g1, 0, none⟩) nx nx, .slice (some ⟨g2, 0, none⟩) ni ni)).length = n) := by show _ = _; rw [List.length_set]; exact HV.out
      clear HO HN1 HA1 HB1
      generalize (vAt V k).1 = o0 at c0
      generalize (vAt V k).2.1 = o1 at c1
      generalize (vAt V k).2.2 = o2 at c2
      go_wp2
      go_roundw
      case rel => exact ⟨k + 1, _, by omega, by go_num, HV2.out, HK2.out, HA2.out, HB2.out⟩
      case measure => simp [intOf]; omega
    · have hk' : k = n := by omega
      have HR : Hid (Nr wr (fun b => w.heap.size ≤ b ∧ Uf wr b) (.slice (some ⟨w.heap.size, 0, none⟩) n n) ns) := by
        refine ⟨V, by rw [HV.out, HN.out], ?_, fun i hi => (HA.out i (by rw [hk', HN.out]; exact hi)).mono (fun b hb _ => ⟨Nat.le_of_lt hb.1, hb.2⟩)⟩
        rw [← HN.out]
        exact HK.out.rw (Nat.le_refl _) h63 (fun e => List.eq_nil_of_length_eq_zero (by rw [ncs_length, HV.out, e])) _ ⟨Nat.le_refl _, HK.out.uf⟩
      clear hk'
      go_wp2
      go_ret
      exact ⟨rfl, HR.out, HB.out⟩
theorem load_tree {w : World} {g : Nat} {x : Value} (c0 : w.cell? ⟨g, 0, none⟩ = some x) : (loadVar 63 ⟨g, 0, none⟩).run Try.prog w = .ok (.agg #[x]) w := by go_simp
theorem results_tree {fn : Func} {p : Tmp} (h : fn.results = #[.cell p 63]) (tmps : Array Value) (w : World) (g : Nat) {x : Value} (hp : tmps.getD p undef = .pointer (some ⟨g, 0, none⟩))
    (c0 : w.cell? ⟨g, 0, none⟩ = some x) : (results fn tmps).run Try.prog w = .ok (.agg #[x]) w := by
  have hp' : tmps[p]?.getD undef = .pointer (some ⟨g, 0, none⟩) := by simpa using hp
  simp [results, h, hp', asAddr, load_tree c0]
set_option maxHeartbeats 2000000 in
theorem toTree_at (S : Nat → Prop) (a : Option Addr) (n c : Nat) (ns : List NB) (w : World) (h : Nr w S (.slice a n c) ns) (hnm : n ≤ 1048576) (hsm : smallN ns) :
    Calls Try.prog 35 #[.agg #[.slice a n c]] w fun e w' => ∃ g, e = .returned (.agg #[.slice (some ⟨g, 0, none⟩) n n]) ∧ Nr w' (fun b => w.heap.size ≤ b ∧ Uf w' b) (.slice (some ⟨g, 0, none⟩) n n) ns ∧ Below w.heap.size w w' := by
  have H0 := hid h
  clear h
  have HB0 : Hid (Below w.heap.size w (((w.alloc (.cells #[.slice a n c] 73)).alloc (.cells #[.slice none 0 0] 63)).alloc (.cells #[.slice none 0 0] 63))) := below_new (below_new (below_new (Below.refl _ _)))
  have KR : Hid (Bk (((w.alloc (.cells #[.slice a n c] 73)).alloc (.cells #[.slice none 0 0] 63)).alloc (.cells #[.slice none 0 0] 63)) (w.heap.size + 1) 63 [.slice none 0 0]) := by
    have := (Bk.new (w.alloc (.cells #[.slice a n c] 73)) 63 [.slice none 0 0]).alloc (.cells #[.slice none 0 0] 63)
    show Bk _ _ _ _
    simpa using this
  have KO : Hid (Bk (((w.alloc (.cells #[.slice a n c] 73)).alloc (.cells #[.slice none 0 0] 63)).alloc (.cells #[.slice none 0 0] 63)) (w.heap.size + 1 + 1) 63 [.slice none 0 0]) := by
    have := Bk.new ((w.alloc (.cells #[.slice a n c] 73)).alloc (.cells #[.slice none 0 0] 63)) 63 [.slice none 0 0]
    show Bk _ _ _ _
    simpa using this
  have HZ : Hid ((((w.alloc (.cells #[.slice a n c] 73)).alloc (.cells #[.slice none 0 0] 63)).alloc (.cells #[.slice none 0 0] 63)).heap.size = w.heap.size + 3) := by show _ = _; simp
  go_enter Try.func35, Try.ntmps35
  go_wp2_with fail
  refine (toNodeS_at S a n c ns _ (H0.out.below HB0.out) hnm hsm).mono ?_
  generalize ((w.alloc (.cells #[.slice a n c] 73)).alloc (.cells #[.slice none 0 0] 63)).alloc (.cells #[.slice none 0 0] 63) = W at *
  rintro e w1 ⟨rfl, K0, hb1⟩
  have HB1 := hid (HB0.out.trans (hb1.mono HB0.out.size))
  have KR1 := hid (KR.out.below hb1)
  have KO1 := hid (KO.out.below hb1)
  have K01 := hid K0
  clear hb1 K0 KR KO HB0
  generalize W.heap.size = g at *
  have c0 := KO1.out.cell (j := 0) rfl
  have f0 := KO1.out.free 0
  have r0 := KR1.out.cell (j := 0) rfl
  have q0 := KR1.out.free 0
  go_wp2
  try simp only [Exit.inBlock, Exit.then]
  refine bodyPost_ret (v := .agg #[.slice (some ⟨g, 0, none⟩) n n]) ?_ rfl ?_
  · refine results_tree rfl _ _ _ rfl ?_
    · go_simp
  · have HZ' := HZ.out
    have O1 : Only (fun b => b < g) w1 ((w1.setCell ⟨w.heap.size + 1 + 1, 0, none⟩ (.slice (some ⟨g, 0, none⟩) n n)).setCell ⟨w.heap.size + 1, 0, none⟩ (.slice (some ⟨g, 0, none⟩) n n)) := (only_set (R := fun b => b < g) (by show w.heap.size + 1 + 1 < g; omega) _).trans (only_set (R := fun b => b < g) (by show w.heap.size + 1 < g; omega) _)
    refine ⟨g, rfl, ?_, (HB1.out.setCell (by show w.heap.size ≤ w.heap.size + 1 + 1; omega) _).setCell (by show w.heap.size ≤ w.heap.size + 1; omega) _⟩
    exact (K01.out.to O1 (fun b hb _ h => by have := hb.1; omega)).mono (fun b hb _ => ⟨by have := hb.1; omega, hb.2.to O1 (by have := hb.1; omega)⟩)
end Go.Proofs.Ytbaggkfgnjenoaa

