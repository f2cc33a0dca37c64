/-
  toReplyS.
-/
import Derived.Test.YtnbafoennnhppabRyC
namespace Go.Proofs.Ytnbafoennnhppab
open Go.RowKit
set_option linter.unusedVariables false
set_option maxHeartbeats 1000000 in
set_option maxRecDepth 20000 in
theorem toReplyS_at (S : Nat → Prop) (a : Option Addr) (n c : Nat) (rs : List RY) (w : World) (h : Yr w S (.slice a n c) rs) (hnm : n ≤ 1048576) (hp : ∀ r ∈ rs, r.ps.length ≤ 1048576) :
    Calls Try.prog 7 #[.slice a n c] w fun e w' => e = .returned (.slice (some ⟨w.heap.size, 0, none⟩) n n) ∧ (∃ V : List RV, V.map (·.1) = rs ∧ Bk w' w.heap.size 46 (rycs V) ∧ YI w' w.heap.size V) ∧ Below w.heap.size w w' := by
  have HN := hid h.len.1
  have H0 := hid h
  have HPP := hid hp
  clear h hp
  have hmk := run_make_n (P := Try.prog) 27 46 (.agg #[.int .i64 0, .int .i64 0, .int .i64 0, .int .i64 0, .int .i64 0, .string ⟨#[]⟩, .string ⟨#[]⟩, .string ⟨#[]⟩, .string ⟨#[]⟩, .int .i64 0, .bool false, .int .i64 0, .slice none 0 0]) 13 152 Try.underlying27 infoReplyI n (by omega) (by omega)
  rw [ry_made] at hmk
  go_enter Try.func7, Try.ntmps7
  go_wp2
  go_loopw [4] (fun i wr => ∃ (k : Nat) (V : List RV), k ≤ n ∧ i = .int .i64 k ∧ Hid (V.length = k) ∧ Hid (V.map (·.1) = rs.take k) ∧ Hid (Bk wr w.heap.size 46 (rycs (ryPt V n))) ∧ Hid (YI wr w.heap.size V) ∧ Hid (Below w.heap.size w wr)) (fun i _ => n - (intOf i).toNat)
  case atStart => exact ⟨0, [], Nat.zero_le _, rfl, rfl, (show List.map (·.1) ([] : List RV) = List.take 0 rs by simp), Bk.new _ _ _, ⟨fun i hi => absurd hi (Nat.not_lt_zero _), fun i j y z _ hj => absurd hj (Nat.not_lt_zero _)⟩, (Below.refl _ _).alloc (Nat.le_refl _) _⟩
  case round =>
    obtain ⟨k, V, hk, rfl, HVK, HVM, HB, HY, HW⟩ := hrel
    by_cases hlt : k < n
    · have hlt' : (k : Int) < (n : Int) := by omega
      have hk0 : (0 : Int) ≤ (k : Int) := by omega
      have HP := hid (H0.out.below HW.out)
      obtain ⟨b, off, rfl, _, hbw, hcell⟩ := HP.out.at (by omega)
      obtain ⟨pa, pn, pc, hr, hpp⟩ := hcell k hlt
      have hkr : k < rs.length := by rw [← HN.out]; exact hlt
      have HM : Hid ((ryAt rs k).ps.length ≤ 1048576) := HPP.out _ (by simp [ryAt, hkr])
      have HTK : Hid (rs.take (k + 1) = rs.take k ++ [ryAt rs k]) := by show _ = _; rw [List.take_succ_eq_append_getElem hkr]; simp [ryAt, hkr]
      have HWL : Hid (w.heap.size < wr.heap.size) := HB.out.lt
      generalize ryAt rs k = ry at *
      have HR := hid hr
      have HPN := hid (Rw.len hpp).1
      have hpn : pn ≤ 1048576 := by rw [HPN.out]; exact HM.out
      have HPS := hid hpp
      clear hcell hbw hr hpp HP
      go_wp2_with (refine wpList_load_mid rfl 40 _ rfl b (off + k * 13) rfl (ry.cs (.slice pa pn pc)) _ HR.out Try.underlying40 rfl (by kernel_rfl) ?_; show wpList _ _ _ _ (Act.put _ _ (.agg #[.int .i64 ry.k, .int .i64 ry.c, .int .i64 ry.e, .int .i64 ry.n, .int .i64 ry.ak, .string ry.ky, .string ry.vl, .string ry.lo, .string ry.hi, .int .i64 ry.mo, .bool ry.bk, .int .i64 ry.co, .slice pa pn pc])) _)
      refine (toReply_any S ry.ps ry.k ry.c ry.e ry.n ry.ak ry.ky ry.vl ry.lo ry.hi ry.mo ry.bk ry.co pa pn pc wr HPS.out hpn).mono ?_
      rintro e w1 ⟨y, rfl, ⟨hy1, hy2⟩, hb⟩
      have HB1 := hid (HB.out.below hb)
      have HY1 := hid (HY.out.push hb hy1 (Nat.lt_of_lt_of_le HWL.out hy1) hy2)
      have HW1 := hid (HW.out.trans (hb.mono HW.out.size))
      obtain ⟨e1, e2⟩ := ryPt_push V n (by rw [HVK.out]; exact hlt) (ry, .slice (some ⟨y, 0, none⟩) ry.ps.length ry.ps.length)
      have HL : Hid ((rycs V).length = k * 13) := by show _ = _; rw [rycs_length, HVK.out]
      have HTH : Hid (w1.there w.heap.size (k * 13) 13) := fun j hj => by
        refine ⟨?_, HB1.out.free _⟩
        have hjl : k * 13 + j < (rycs (ryPt V n)).length := by rw [e1]; simp [HL.out, RY.cs]; omega
        obtain ⟨u, hu⟩ : ∃ u, (rycs (ryPt V n))[k * 13 + j]? = some u := ⟨_, List.getElem?_eq_getElem hjl⟩
        rw [HB1.out.cell hu]; rfl
      have HB2 : Hid (Bk (w1.setCells w.heap.size (k * 13) (ry.cs (.slice (some ⟨y, 0, none⟩) ry.ps.length ry.ps.length))) w.heap.size 46 (rycs (ryPt (V ++ [(ry, .slice (some ⟨y, 0, none⟩) ry.ps.length ry.ps.length)]) n))) := by
        show Bk _ _ _ _
        rw [e2]
        have h3 := HB1.out
        rw [e1] at h3
        have := bk_mid _ (ry.cs (.slice (some ⟨y, 0, none⟩) ry.ps.length ry.ps.length)) _ _ _ h3 rfl
        rwa [HL.out] at this
      have HO2 : Hid (Only (fun z => z = w.heap.size) w1 (w1.setCells w.heap.size (k * 13) (ry.cs (.slice (some ⟨y, 0, none⟩) ry.ps.length ry.ps.length)))) := only_mid (R := fun z => z = w.heap.size) rfl _ _ _
      have HY2 := hid (HY1.out.to HO2.out (fun z hz e => by omega))
      have HW2 : Hid (Below w.heap.size w (w1.setCells w.heap.size (k * 13) (ry.cs (.slice (some ⟨y, 0, none⟩) ry.ps.length ry.ps.length)))) := HW1.out.trans (HO2.out.below HW1.out.size (fun z h1 h2 => by omega))
      have HVM2 : Hid ((V ++ [(ry, Value.slice (some ⟨y, 0, none⟩) ry.ps.length ry.ps.length)]).map (·.1) = rs.take (k + 1)) := by show _ = _; rw [HTK.out, List.map_append, HVM.out]; rfl
      have HVK2 : Hid ((V ++ [(ry, Value.slice (some ⟨y, 0, none⟩) ry.ps.length ry.ps.length)]).length = k + 1) := by show _ = _; rw [List.length_append, HVK.out]; rfl
      have HPE : Hid (ry.ps.length = pn) := HPN.out.symm
      clear hy1 hy2 hb HB1 HY1 HW1 HB HY HW e1 e2 HL HO2 HPS HVM HVK HTK HPN
      go_wp2_with (refine wpList_store_mid rfl 46 _ _ rfl w.heap.size (k * 13) #[.int .i64 ry.k, .int .i64 ry.c, .int .i64 ry.e, .int .i64 ry.n, .int .i64 ry.ak, .string ry.ky, .string ry.vl, .string ry.lo, .string ry.hi, .int .i64 ry.mo, .bool ry.bk, .int .i64 ry.co, .slice (some ⟨y, 0, none⟩) pn pn] ?hx ?hy ?ht ?hi ?h1 ?_)
      case hx => rfl
      case hy => rfl
      case ht => exact HTH.out
      case hi => kernel_rfl
      case h1 => kernel_rfl
      rw [HPE.out] at HB2 HY2 HW2 HVM2 HVK2
      exact ⟨⟨k + 1, _, by omega, by go_num, HVK2.out, HVM2.out, HB2.out, HY2.out, HW2.out⟩, by simp [intOf]; omega⟩
    · have hk' : n = k := by omega
      have HVM3 : Hid (V.map (·.1) = rs) := by show _ = _; rw [HVM.out, List.take_of_length_le (by rw [← HN.out]; omega)]
      have HB3 : Hid (Bk wr w.heap.size 46 (rycs V)) := by have := HB.out; rw [ryPt_full V n (by rw [HVK.out]; exact hk')] at this; exact this
      have hlt' : ¬ (k : Int) < (n : Int) := by omega
      clear hk' hlt HB HVM hmk
      go_wp2
      go_ret
      exact ⟨rfl, ⟨V, HVM3.out, HB3.out, HY.out⟩, HW.out⟩
end Go.Proofs.Ytnbafoennnhppab

