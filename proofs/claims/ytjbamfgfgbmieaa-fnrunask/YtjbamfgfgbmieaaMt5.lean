/-
  The law FnRunAsk answers true at every slice of bytes.
-/
import Derived.Test.YtjbamfgfgbmieaaMt3
import Derived.Test.YtjbamfgfgbmieaaMt4
namespace Go.Proofs.Ytjbamfgfgbmieaa
open Go.RowKit
set_option linter.unusedVariables false
theorem keyF_mem {l : List PB} {k : ByteArray} {q : PB} (h : q ∈ keyF l k) : q.1 = k := of_decide_eq_true (List.mem_filter.1 h).2
theorem keyF_put (l : List PB) (h : Asc l) (k v : ByteArray) : keyF (insP l (k, v)) k = [(k, v)] := by
  have h1 := keyF_le (insP_asc (p := (k, v)) h) k
  have hm : (k, v) ∈ keyF (insP l (k, v)) k := by
    unfold keyF
    refine List.mem_filter.2 ⟨?_, by simp⟩
    unfold insP
    split
    · rename_i ht
      have hlt := (of_decide_eq_true ht).1
      exact List.mem_set hlt (k, v)
    · simp
  match hk : keyF (insP l (k, v)) k, h1 with
  | [], _ => rw [hk] at hm; cases hm
  | [q], _ =>
    rw [hk] at hm
    simp at hm
    rw [hm]
  | _ :: _ :: _, h => simp at h
theorem keyF_del (l : List PB) (h : Asc l) (k : ByteArray) : keyF (delP l k) k = [] := by
  rw [← del_filt k l h]
  unfold keyF
  rw [List.filter_filter]
  refine List.filter_eq_nil_iff.2 fun q _ => ?_
  by_cases e : q.1 = k <;> simp [e]
theorem ak_get1 {ky : ByteArray} (h : uOk ky = true) : akOk 1 ky ⟨#[]⟩ ⟨#[]⟩ ⟨#[]⟩ 0 false = true := by
  rw [akOk_1]
  have e1 : isE (⟨#[]⟩ : ByteArray) = true := by
    show decide _ = true
    exact decide_eq_true (by simp [ByteArray.toList_eq])
  have e2 : uvOk (⟨#[]⟩ : ByteArray) = true := by decide
  simp [akK, h, e1, e2]
set_option maxHeartbeats 16000000 in
set_option maxRecDepth 20000 in
theorem lawFRunAsk_walk (a : Option Addr) (n c : Nat) (z0 : List Int) (w : World) (w0 : IsRow .u8 w a n c z0) :
    Calls Try.prog 3 #[.slice a n c] w fun e w' => e = .returned (.bool true) ∧ Below w.heap.size w w' := by
  by_cases hbig : 1048576 < n
  · have hb' : (1048576 : Int) < (n : Int) := by omega
    clear w0
    go_enter Try.func3, Try.ntmps3
    go_wp2
    go_ret
    exact ⟨rfl, Below.refl _ _⟩
  · have hb' : ¬ (1048576 : Int) < (n : Int) := by omega
    have HR := hid (rd_of_row w0 (by omega))
    clear w0
    go_enter Try.func3, Try.ntmps3
    go_wp2_with fail
    refine (drawRunAsk_any a n c _ w HR.out (by omega)).mono ?_
    rintro e w1 ⟨av, nv, cv, l, k, ky, vl, lo, hi, mo, bk, rfl, hn7, hP, hb1⟩
    have hbn := below_new (o := .cells #[.int .i64 k, .string ky, .string vl, .string lo, .string hi, .int .i64 mo, .bool bk] 27) (w := w1) (Below.refl _ _)
    have B1 := hid (btR hb1 hbn)
    have K1 := hid (Bk.new w1 27 [.int .i64 k, .string ky, .string vl, .string lo, .string hi, .int .i64 mo, .bool bk])
    have P1 := hid (hP.below' hbn)
    have HNL := hid (Rw.len hP).1
    clear hbn hb1 hP HR
    have k0 := K1.out.cell (j := 0) rfl
    have k1 := K1.out.cell (j := 1) rfl
    have k2 := K1.out.cell (j := 2) rfl
    have k3 := K1.out.cell (j := 3) rfl
    have k4 := K1.out.cell (j := 4) rfl
    have k5 := K1.out.cell (j := 5) rfl
    have k6 := K1.out.cell (j := 6) rfl
    go_wp2_with fail
    refine (implRunAsk_any _ av nv cv l k ky vl lo hi mo bk _ P1.out (by omega)).mono ?_
    generalize w1.alloc (.cells #[.int .i64 k, .string ky, .string vl, .string lo, .string hi, .int .i64 mo, .bool bk] 27) = U at *
    generalize w1.heap.size = g at *
    rintro e w2 ⟨ag, ng, cg, ah, nh, ch, rfl, hOg, ⟨B, hBB, hR, _⟩, hb⟩
    have B2 := hid (btR B1.out hb)
    have K2 := hid (K1.out.below hb)
    have P2 := hid (P1.out.below' hb)
    have G2 := hid hOg
    have R2 := hid hR
    have HG := hid (Rw.len (hOg.pr (S := fun _ => True) (fun _ _ _ _ => trivial)))
    have HH := hid (Rw.len hR.pr)
    clear hb hOg hR hBB B1 K1 P1 k0 k1 k2 k3 k4 k5 k6
    have k0 := K2.out.cell (j := 0) rfl
    have k1 := K2.out.cell (j := 1) rfl
    have k2 := K2.out.cell (j := 2) rfl
    have k3 := K2.out.cell (j := 3) rfl
    have k4 := K2.out.cell (j := 4) rfl
    have k5 := K2.out.cell (j := 5) rfl
    have k6 := K2.out.cell (j := 6) rfl
    go_wp2_with fail
    refine (specRunAsk_any _ av nv cv l k ky vl lo hi mo bk _ P2.out (by omega)).mono ?_
    rintro e w3 ⟨a0, n0, c0, a1, n1, c1, rfl, _, _, hb⟩
    have B3 := hid (btR B2.out hb)
    have K3 := hid (K2.out.below hb)
    have P3 := hid (P2.out.below' hb)
    have G3 := hid (G2.out.kept hb)
    have R3 := hid (R2.out.below hb)
    clear hb B2 K2 P2 G2 R2 k0 k1 k2 k3 k4 k5 k6
    have k0 := K3.out.cell (j := 0) rfl
    have k1 := K3.out.cell (j := 1) rfl
    have k2 := K3.out.cell (j := 2) rfl
    have k3 := K3.out.cell (j := 3) rfl
    have k4 := K3.out.cell (j := 4) rfl
    have k5 := K3.out.cell (j := 5) rfl
    have k6 := K3.out.cell (j := 6) rfl
    cases hr : raK l k ky vl lo hi mo bk with
    | false =>
      have HD0 : Hid (ng = 0) := by show _ = _; rw [HG.out.1]; simp [raDo, hr]
      have HT0 : Hid (nh = 0) := by show _ = _; rw [HH.out.1]; simp [raTo, hr]
      have hd0 := HD0.out
      have ht0 := HT0.out
      subst hd0 ht0
      clear hr HD0 HT0 HG HH G3 R3
      go_wp2
      go_ret
      exact ⟨rfl, B3.out⟩
    | true =>
      have e1 : raDo l k ky vl lo hi mo bk = raD l k ky vl := by simp [raDo, hr]
      have e2 : raTo l k ky vl lo hi mo bk = raT l k ky lo hi mo bk := by simp [raTo, hr]
      rw [e1] at G3 HG
      rw [e2] at R3 HH
      obtain ⟨hd, hk⟩ : daOk l = true ∧ akOk k ky vl lo hi mo bk = true := by simpa [raK] using hr
      have HD := hid hd
      have HK := hid hk
      have HT8 := hid (raT_len hd hk)
      have hnh : nh ≤ 8 := by rw [HH.out.1]; exact HT8.out
      clear hr e1 e2 hd hk
      rcases ak_kind HK.out with rfl | rfl | rfl | rfl
      · have hh8 : (nh : Int) ≤ 8 := by omega
        go_wp2_with fail
        refine (samePairs_any (fun _ => True) (fun _ => True) ag av ng nv cg cv (raD l 1 ky vl) l _ (G3.out.pr (fun _ _ _ _ => trivial)) (Rw.mono P3.out (fun _ _ _ => trivial))).mono ?_
        rintro e w4 ⟨rfl, hb⟩
        have B4 := hid (btR B3.out hb)
        rw [decide_eq_true (show raD l 1 ky vl = l from rfl)]
        clear hb B3 K3 P3 G3 R3 HG HH HD HK HT8 k0 k1 k2 k3 k4 k5 k6
        go_wp2
        go_ret
        exact ⟨rfl, B4.out⟩
      · have HU := hid (ak_get HK.out (.inr (.inl rfl)))
        have HDN : Hid (daOk (raD l 2 ky vl) = true) := raD_da HD.out HK.out
        have HA1 := hid (ak_get1 HU.out.1)
        have HRK : Hid (raK (raD l 2 ky vl) 1 ky ⟨#[]⟩ ⟨#[]⟩ ⟨#[]⟩ 0 false = true) := by show _ = _; simp [raK, HDN.out, HA1.out]
        have HTO : Hid (raTo (raD l 2 ky vl) 1 ky ⟨#[]⟩ ⟨#[]⟩ ⟨#[]⟩ 0 false = [(ky, vl)]) := by
          show _ = _
          have e : raTo (raD l 2 ky vl) 1 ky ⟨#[]⟩ ⟨#[]⟩ ⟨#[]⟩ 0 false = keyF (raD l 2 ky vl) ky := by unfold raTo; rw [if_pos HRK.out]; rfl
          rw [e]
          exact keyF_put l (daOk_asc HD.out) ky vl
        have hng : ng ≤ 1048576 := by have h1 := HG.out.1; have h2 := raD_len l 2 ky vl; have h3 := HNL.out; omega
        go_wp2_with fail
        refine (implRunAsk_any (fun _ => True) ag ng cg (raD l 2 ky vl) 1 ky ⟨#[]⟩ ⟨#[]⟩ ⟨#[]⟩ 0 false _ (G3.out.pr (fun _ _ _ _ => trivial)) hng).mono ?_
        rintro e w4 ⟨ai, ni, ci, aj, nj, cj, rfl, _, ⟨B9, _, hR, _⟩, hb⟩
        rw [HRK.out]
        rw [HTO.out] at hR
        have HNJ := hid (Rw.len hR.pr).1
        have RJ := hid hR
        have B4 := hid (btR B3.out hb)
        have K4 := hid (K3.out.below hb)
        have G4 := hid (G3.out.kept hb)
        clear hb hR B3 K3 P3 G3 R3 HH HT8 HTO HRK HA1 k0 k1 k2 k3 k4 k5 k6
        have k0 := K4.out.cell (j := 0) rfl
        have k1 := K4.out.cell (j := 1) rfl
        have k2 := K4.out.cell (j := 2) rfl
        have k3 := K4.out.cell (j := 3) rfl
        have k4 := K4.out.cell (j := 4) rfl
        have k5 := K4.out.cell (j := 5) rfl
        have k6 := K4.out.cell (j := 6) rfl
        obtain rfl : nj = 1 := HNJ.out
        obtain ⟨b, off, c', hv, _, _, hcell⟩ := RJ.out.pr.cell (by simp)
        cases hv
        obtain ⟨d0, d1⟩ := hcell 0 (by simp)
        simp only [Nat.zero_mul, Nat.add_zero, pAtB, List.getElem?_cons_zero, Option.getD_some] at d0 d1
        have hnc := (Rw.len RJ.out.pr).2.1
        have CD := hid (fun u (hb : Below w4.heap.size w4 u) => implDataOk_at (fun _ => True) ag ng cg (raD l 2 ky vl) u ((G4.out.kept hb).pr (fun _ _ _ _ => trivial)) hng)
        rw [HDN.out] at CD
        have T4 := hid (kl3_0 d1 k2 d0)
        clear RJ HNJ HDN HG G4
        have hss : (vl.toList == vl.toList) = true := by simp
        go_wp2_with fail
        go_region_held3 (fun v => v.cell? ⟨b, off + 1, none⟩ = some (.string vl) ∧ v.cell? ⟨g, 2, none⟩ = some (.string vl) ∧ v.cell? ⟨b, off, none⟩ = some (.string ky) ∧ KL w4 v [(⟨b, off + 1, none⟩, .string vl), (⟨g, 2, none⟩, .string vl), (⟨b, off, none⟩, .string ky)])
          (first | assumption | exact kl3 (T4.out.call (below_drew _)) | exact kl3c hbC (by assumption))
          (first
            | (go_at_call 10; refine (CD.out _ (kl3_bel (by assumption))).mono ?_; rintro e wa ⟨rfl, hbC⟩))
        rename_i hS
        have B5 := hid (btR B4.out (kl3_bel hS))
        clear hS
        go_wp2
        go_ret
        exact ⟨rfl, B5.out⟩
      · have HU := hid (ak_get HK.out (.inr (.inr rfl)))
        have HDN : Hid (daOk (raD l 3 ky vl) = true) := raD_da HD.out HK.out
        have HA1 := hid (ak_get1 HU.out.1)
        have HRK : Hid (raK (raD l 3 ky vl) 1 ky ⟨#[]⟩ ⟨#[]⟩ ⟨#[]⟩ 0 false = true) := by show _ = _; simp [raK, HDN.out, HA1.out]
        have HTO : Hid (raTo (raD l 3 ky vl) 1 ky ⟨#[]⟩ ⟨#[]⟩ ⟨#[]⟩ 0 false = []) := by
          show _ = _
          have e : raTo (raD l 3 ky vl) 1 ky ⟨#[]⟩ ⟨#[]⟩ ⟨#[]⟩ 0 false = keyF (raD l 3 ky vl) ky := by unfold raTo; rw [if_pos HRK.out]; rfl
          rw [e]
          exact keyF_del l (daOk_asc HD.out) ky
        have hng : ng ≤ 1048576 := by have h1 := HG.out.1; have h2 := raD_len l 3 ky vl; have h3 := HNL.out; omega
        go_wp2_with fail
        refine (implRunAsk_any (fun _ => True) ag ng cg (raD l 3 ky vl) 1 ky ⟨#[]⟩ ⟨#[]⟩ ⟨#[]⟩ 0 false _ (G3.out.pr (fun _ _ _ _ => trivial)) hng).mono ?_
        rintro e w4 ⟨ai, ni, ci, aj, nj, cj, rfl, _, ⟨B9, _, hR, _⟩, hb⟩
        rw [HRK.out]
        rw [HTO.out] at hR
        have HNJ := hid (Rw.len hR.pr).1
        have RJ := hid hR
        have B4 := hid (btR B3.out hb)
        have K4 := hid (K3.out.below hb)
        have G4 := hid (G3.out.kept hb)
        clear hb hR B3 K3 P3 G3 R3 HH HT8 HTO HRK HA1 k0 k1 k2 k3 k4 k5 k6
        have k0 := K4.out.cell (j := 0) rfl
        have k1 := K4.out.cell (j := 1) rfl
        have k2 := K4.out.cell (j := 2) rfl
        have k3 := K4.out.cell (j := 3) rfl
        have k4 := K4.out.cell (j := 4) rfl
        have k5 := K4.out.cell (j := 5) rfl
        have k6 := K4.out.cell (j := 6) rfl
        obtain rfl : nj = 0 := HNJ.out
        go_wp2
        go_ret
        exact ⟨rfl, B4.out⟩
      · have hh8 : (nh : Int) ≤ 8 := by omega
        go_wp2_with fail
        refine (samePairs_any (fun _ => True) (fun _ => True) ag av ng nv cg cv (raD l 4 ky vl) l _ (G3.out.pr (fun _ _ _ _ => trivial)) (Rw.mono P3.out (fun _ _ _ => trivial))).mono ?_
        rintro e w4 ⟨rfl, hb⟩
        have B4 := hid (btR B3.out hb)
        rw [decide_eq_true (show raD l 4 ky vl = l from rfl)]
        clear hb B3 K3 P3 G3 R3 HG HH HD HK HT8 k0 k1 k2 k3 k4 k5 k6
        go_wp2
        go_ret
        exact ⟨rfl, B4.out⟩
end Go.Proofs.Ytjbamfgfgbmieaa
