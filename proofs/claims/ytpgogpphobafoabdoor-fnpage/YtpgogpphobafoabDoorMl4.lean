/-
  l03Drop of the specification: it drops as the plain function drops.
-/
import Derived.Test.YtpgogpphobafoabDoorMl3
import Derived.Test.YtpgogpphobafoabDoorMl1
import Derived.Laws.IdiomStrings
import Derived.Maps.AppendAt
import Derived.LaidLaws
import Derived.Stop.LaidErr
import Derived.WalkLawsBesides
import Derived.Defers
import Derived.Recover
import Derived.Deep.RegionWith
import Derived.Deep.RegionLaw
import Derived.Deep.DeepCutAuto
namespace Go.Proofs.YtpgogpphobafoabDoor
open Go.RowKit
set_option maxHeartbeats 4000000 in
set_option maxRecDepth 20000 in
theorem specDrop_any : ∀ (f : Nat) (r : Bool) (S : Nat → Prop) (lf : Bool) (ap ak : Option Addr) (np cp nk ck : Nat) (t : T) (k : ByteArray) (w : World), Sub w S lf (.slice ap np cp) (.slice ak nk ck) t → PutIn f r t →
    Calls Tryd.prog 93 #[.agg #[.bool lf, .slice ap np cp, .slice ak nk ck], .string k] w fun e w' => DropPost w S (dropS f t k) e w' := by
  intro f
  induction f with
  | zero => intro r S lf ap ak np cp nk ck t k w _ g; exact g.ev.elim
  | succ f ih =>
  intro r S lf ap ak np cp nk ck t k w h g
  obtain ⟨_, _, _, _, _, _, e1, e2, HNP, HNK, b1, b2, hlf, -⟩ := h.shape
  cases e1
  cases e2
  by_cases hk : t.ks = []
  · have hn : nk = 0 := by rw [HNK.out, hk]; rfl
    have hl : lf = true := by rw [hlf, hn]; rfl
    have HF : dropS (f + 1) t k = .mk (delS t.ps k) [] := by rw [dropS, if_pos hk]
    subst hn hl
    rw [HF]
    exact specDrop_leaf S ap ak np cp ck t k w h (by obtain ⟨ps, ks⟩ := t; cases (show ks = [] from hk); exact g.leaf.2.1)
  · obtain ⟨ps, ks⟩ := t
    simp only [T.ks, T.ps] at hk HNK HNP
    obtain ⟨hp0, hl1, hl2, hf3, he4, ha5⟩ := g.kids hk
    have hn0 : nk ≠ 0 := by rw [HNK.out]; have := List.length_pos_iff.2 hk; omega
    have hl : lf = false := by rw [hlf]; exact decide_eq_false hn0
    subst hl
    obtain ⟨hq, _, _⟩ := kidOf_spec k hk
    have hw := wayOf_eq (k := k) hk hf3 ha5
    have HF : Hid (dropS (f + 1) (.mk ps ks) k = if (dropS f (tAt ks (wayOf ks k)) k).poor = true then .mk [] ((ks.set (wayOf ks k) (dropS f (tAt ks (wayOf ks k)) k)).take (max (wayOf ks k) 1 - 1) ++ togS (tAt (ks.set (wayOf ks k) (dropS f (tAt ks (wayOf ks k)) k)) (max (wayOf ks k) 1 - 1)) (tAt (ks.set (wayOf ks k) (dropS f (tAt ks (wayOf ks k)) k)) (max (wayOf ks k) 1)) ++ (ks.set (wayOf ks k) (dropS f (tAt ks (wayOf ks k)) k)).drop (max (wayOf ks k) 1 + 1)) else .mk [] (ks.set (wayOf ks k) (dropS f (tAt ks (wayOf ks k)) k))) := by
      show _ = _; rw [dropS, if_neg (show ¬ (T.mk ps ks).ks = [] from hk)]; rfl
    have HKG := hid (g.kid hk k)
    rw [← hw] at hq HKG
    have HNR : Hid (Near f (dropS f (tAt ks (wayOf ks k)) k) (delP (tAt ks (wayOf ks k)).all k)) := by
      show Near _ _ _
      rw [dropS_eq f false _ k HKG.out]; exact (dropF_out f false _ k HKG.out).1
    have HKF : Hid (∀ x ∈ ks, x.full false = true) := hf3
    have HKE : Hid (∀ x ∈ ks, Ev f x) := he4
    have H0 : Hid (Sub w (fun y => S y ∧ y < w.heap.size) false (.slice ap np cp) (.slice ak nk ck) (.mk ps ks)) := h.mono (fun y hy hl => ⟨hy, hl⟩)
    have hnk : nk ≤ 4 := by rw [HNK.out]; exact hl2
    have hnk2 : 2 ≤ nk := by rw [HNK.out]; exact hl1
    have HWY := hid (fun (w' : World) (h' : Sub w' (fun y => S y ∧ y < w.heap.size) false (.slice ap np cp) (.slice ak nk ck) (.mk ps ks)) => specWay_any _ false ap ak np cp nk ck (.mk ps ks) k w' h' (by simp only [T.ks]; omega))
    simp only [T.ks] at HWY
    have IH := hid ih
    have hqn : wayOf ks k < nk := by rw [HNK.out]; exact hq
    have HQ := hid hq
    generalize hqq : wayOf ks k = q at *
    clear hqq hw h g ih hlf b1 b2 hp0 hl1 hl2 hf3 he4 ha5 hq
    have HI0 := hid (dri_start w false (.slice ap np cp) (.slice ak nk ck))
    have s0 := HI0.out.s.cell (j := 0) rfl
    have s1 := HI0.out.s.cell (j := 1) rfl
    have s2 := HI0.out.s.cell (j := 2) rfl
    go_enter Tryd.func93, Tryd.ntmps93
    go_wp2_with fail
    refine (HWY.out _ (H0.out.kept HI0.out.b)).mono ?_
    generalize (w.alloc (.cells #[.bool false, .slice ap np cp, .slice ak nk ck] 97)).alloc (.cells #[.bool false, .slice none 0 0, .slice none 0 0] 97) = U at *
    rintro e w1 ⟨rfl, hb⟩
    have HI1 := hid (HI0.out.keep hb)
    have HI2 := hid (HI1.out.keep (below_new (o := .cells #[] 97) (w := w1) (Below.refl _ _)))
    have HSN := hid (so_new w1 (w.heap.size + 2) HI1.out.z)
    clear hb s0 s1 s2 HWY HI0
    have HS2 := hid ((H0.out.kept HI2.out.b).row)
    simp only [T.ks] at HS2
    have u2 := HI2.out.s.cell (j := 2) rfl
    go_wp2_with (at_builtin; refine wpList_append_subs rfl _ _ rfl (w.heap.size + 2) _ (fun y => S y ∧ y < w.heap.size) (.slice (some ⟨w1.heap.size, 0, none⟩) 0 0) _ [] ks rfl HSN.out rfl HS2.out ?q0 ?q1 ?q2 ?_)
    case q0 => intro y hy e; have e' : w1.heap.size = y := (by simpa [Value.ownBlock] using e)
               have := HI1.out.z; have := hy.2; omega
    case q1 => have := HNK.out; simp; omega
    case q2 => have := HI1.out.z; first | omega | (simp; omega)
    intro v3 w3 hO3 hg3 ha3
    obtain ⟨a3, n3, c3, e3, hn3⟩ := hO3.shape
    subst e3
    have hlo3 := hO3.lo
    have HI3 := hid (HI2.out.grow hg3 (fun x e => by have e' : w1.heap.size = x := (by simpa [Value.ownBlock] using e); have := HI1.out.z; omega))
    have HS3 : Hid (SO w3 (w.heap.size + 2) (fun y => S y ∧ y < w.heap.size) (.slice a3 n3 c3) ks) := hO3.mono (fun y hy _ => hy.1) (fun y hy e => by have := (hlo3 y e).1; have := hy.2; omega)
    have HN3 : Hid (n3 = nk) := by have := hn3.out; have := HNK.out; show _ = _; simp at *; omega
    clear hO3 hg3 ha3 HSN HS2 HI2 u2 hlo3 hn3 HI1
    obtain ⟨gk, hak, hfr, hat⟩ := HS3.out.at (by rw [← HNK.out]; omega)
    subst hak
    obtain ⟨l9, ap9, np9, cp9, ak9, nk9, ck9, x0, x1, x2, hs9⟩ := hat q HQ.out
    have HS9 := hid hs9
    have hgk := HS3.out.lo gk rfl
    have HGK := hid hgk
    have hq2 : (0 : Int) ≤ (q : Int) := by omega
    have hq4 : (q : Int) < (n3 : Int) := by have := HN3.out; omega
    clear hat hs9 hgk hfr
    go_wp2_with fail
    refine (IH.out false _ l9 ap9 ak9 np9 cp9 nk9 ck9 (tAt ks q) k w3 HS9.out HKG.out).mono ?_
    rintro e w4 ⟨lz, apz, npz, cpz, akz, nkz, ckz, rfl, hsz, hbz⟩
    have HI4 := hid (HI3.out.keep hbz)
    have HS4 := hid (HS3.out.kept hbz)
    have HZ34 := hid hbz.size
    have hsz2 : Sub w4 (fun y => (S y ∧ y < w.heap.size) ∨ (w3.heap.size ≤ y ∧ y < w4.heap.size)) lz (.slice apz npz cpz) (.slice akz nkz ckz) (dropS f (tAt ks q) k) := hsz.mono (fun y hy hl => hy.imp id (fun h => ⟨h, hl⟩))
    have HS5 := hid (HS4.out.set HQ.out hsz2 (fun y hy e => by
      have := HGK.out
      rcases hy with hy | hy
      · have := hy.2; omega
      · omega))
    obtain ⟨_, e5, hfr4, hat4⟩ := HS4.out.at (by rw [← HNK.out]; omega)
    cases e5
    obtain ⟨m9, _, _, _, _, _, _, y0, y1, y2, -⟩ := hat4 q HQ.out
    have yf0 := hfr4 (q * 3)
    have yf1 := hfr4 (q * 3 + 1)
    have yf2 := hfr4 (q * 3 + 2)
    generalize hrr : dropS f (tAt ks q) k = rr at *
    have HRR := hid hrr
    have HI5 : Hid (DrI w (((w4.setCell ⟨gk, q * 3, none⟩ (.bool lz)).setCell ⟨gk, q * 3 + 1, none⟩ (.slice apz npz cpz)).setCell ⟨gk, q * 3 + 2, none⟩ (.slice akz nkz ckz)) false (.slice ap np cp) (.slice ak nk ck)) := HI4.out.only (((only_set (R := fun y => y = gk) rfl _).trans (only_set (R := fun y => y = gk) rfl _)).trans (only_set (R := fun y => y = gk) rfl _)) (fun x e => by have := HGK.out; omega)
    have HLN : Hid ((ks.set q rr).length = nk) := by show _ = _; rw [List.length_set]; exact HNK.out.symm
    obtain ⟨_, e5, hfr5, hat5⟩ := HS5.out.at (by rw [HLN.out]; omega)
    cases e5
    obtain ⟨l5, ap5, np5, cp5, ak5, nk5, ck5, t0, t1, t2, hs5⟩ := hat5 q (by rw [HLN.out]; exact hqn)
    rw [show tAt (ks.set q rr) q = rr by simp [tAt, HQ.out]] at hs5
    have HFW := hid (specFew_any _ l5 ap5 ak5 np5 cp5 nk5 ck5 rr _ hs5 (fun h => (HNR.out.br h).1))
    have HW5 : Hid (w4.heap.size = (((w4.setCell ⟨gk, q * 3, none⟩ (.bool lz)).setCell ⟨gk, q * 3 + 1, none⟩ (.slice apz npz cpz)).setCell ⟨gk, q * 3 + 2, none⟩ (.slice akz nkz ckz)).heap.size) := by show _ = _; simp [World.setCell]
    clear hsz hbz hsz2 hat4 hfr4 hat5 hfr5 hs5 hrr
    go_wp2_with fail
    refine HFW.out.mono ?_
    generalize hX : (((w4.setCell ⟨gk, q * 3, none⟩ (.bool lz)).setCell ⟨gk, q * 3 + 1, none⟩ (.slice apz npz cpz)).setCell ⟨gk, q * 3 + 2, none⟩ (.slice akz nkz ckz)) = X at *
    clear hX y0 y1 y2 yf0 yf1 yf2 x0 x1 x2
    rintro e w6 ⟨rfl, hb⟩
    have HI6 := hid (HI5.out.keep hb)
    have HS6 := hid (HS5.out.kept hb)
    have HZ6 := hid hb.size
    clear hb t0 t1 t2 HFW HS5 HI5 HS4 HI4 HS3 HI3 HS9
    have hn32 : ¬ (n3 : Int) < 2 := by have := HN3.out; omega
    cases hpo : rr.poor with
    | false =>
      have HF2 : Hid (dropS (f + 1) (.mk ps ks) k = .mk [] (ks.set q rr)) := by show _ = _; rw [HF.out, if_neg (by rw [hpo]; simp)]
      have r0 := HI6.out.r.cell (j := 0) rfl
      have r1 := HI6.out.r.cell (j := 1) rfl
      have r2 := HI6.out.r.cell (j := 2) rfl
      have rf0 := HI6.out.r.free 0
      have rf1 := HI6.out.r.free 1
      have rf2 := HI6.out.r.free 2
      have hsr : SubR w6 (fun y => (S y ∧ y < w.heap.size) ∨ w.heap.size + 2 ≤ y) (.slice (some ⟨gk, 0, none⟩) n3 c3) (ks.set q rr) := HS6.out.subR (fun y _ h1 _ => .inr h1) (fun y hy _ => by
        rcases hy with h | h | h
        · exact .inl h
        · exact .inl h
        · right; have := HGK.out; omega)
      have HD2 := hid (HI6.out.done (S := fun y => S y ∧ y < w.heap.size) (hsr.sub (by intro e; have := HLN.out; rw [e] at this; simp at this; omega)) (fun y hy => hy.2))
      have z0 := HD2.out.2.2.cell (j := 0) rfl
      have z1 := HD2.out.2.2.cell (j := 1) rfl
      have z2 := HD2.out.2.2.cell (j := 2) rfl
      clear hpo hsr
      go_wp2
      refine bodyPost_ret (v := .agg #[.bool false, .slice none 0 0, .slice (some ⟨gk, 0, none⟩) n3 c3]) ?_ rfl ?_
      · refine results_sub1 rfl _ _ _ rfl ?_ ?_ ?_
        · exact z0
        · exact z1
        · exact z2
      · refine ⟨_, _, _, _, _, _, _, rfl, ?_, HD2.out.2.1⟩
        rw [HF2.out]
        exact HD2.out.1.mono (fun y hy _ => hy.imp (fun h => h.1) id)
    | true =>
      obtain ⟨s, hs⟩ : ∃ s, max q 1 = s + 1 := ⟨max q 1 - 1, by omega⟩
      have HF2 : Hid (dropS (f + 1) (.mk ps ks) k = .mk [] ((ks.set q rr).take s ++ togS (tAt (ks.set q rr) s) (tAt (ks.set q rr) (s + 1)) ++ (ks.set q rr).drop (s + 1 + 1))) := by show _ = _; rw [HF.out, if_pos hpo, hs, Nat.add_sub_cancel]
      have hsn : s + 1 < nk := by omega
      have HKS : Hid (SO w6 (w.heap.size + 2) (fun y => (S y ∧ y < w.heap.size) ∨ (w3.heap.size ≤ y ∧ y < w4.heap.size)) (.slice (some ⟨gk, 0, none⟩) n3 c3) (ks.set q rr)) := HS6.out.mono (fun y hy _ => by
        rcases hy with h | h | h
        · exact .inl h
        · exact .inl h
        · exact .inr h) (fun y hy e => by
        have e' : gk = y := by simpa [Value.ownBlock] using e
        have := HGK.out
        rcases hy with h | h
        · have := h.2; omega
        · omega)
      have HSM : Hid (∀ i, i < nk → Ev f (tAt (ks.set q rr) i) ∧ (tAt (ks.set q rr) i).ps.length ≤ 4 ∧ (tAt (ks.set q rr) i).ks.length ≤ 4) := by
        intro i hi
        by_cases e : i = q
        · subst e
          rw [show tAt (ks.set i rr) i = rr by simp [tAt, HQ.out]]
          refine ⟨HNR.out.ev, ?_, ?_⟩
          · by_cases h : rr.ks = []
            · exact HNR.out.leaf h
            · rw [(HNR.out.br h).1]; simp
          · by_cases h : rr.ks = []
            · rw [h]; simp
            · exact (HNR.out.br h).2.1
        · rw [show tAt (ks.set q rr) i = tAt ks i by simp [tAt, Ne.symm e]]
          have hm : tAt ks i ∈ ks := tAt_mem (by rw [← HNK.out]; exact hi)
          exact ⟨HKE.out _ hm, full_small (HKF.out _ hm)⟩
      have HNE : Hid ((ks.set q rr).take s ++ togS (tAt (ks.set q rr) s) (tAt (ks.set q rr) (s + 1)) ++ (ks.set q rr).drop (s + 1 + 1) ≠ []) := by
        intro e
        have h1 := List.append_eq_nil_iff.1 e
        have h2 := List.append_eq_nil_iff.1 h1.1
        have h3 : splT (.mk ((tAt (ks.set q rr) s).ps ++ (tAt (ks.set q rr) (s + 1)).ps) ((tAt (ks.set q rr) s).ks ++ (tAt (ks.set q rr) (s + 1)).ks)) = [] := h2.2
        unfold splT at h3
        split at h3
        · cases h3
        · split at h3 <;> cases h3
      have HTL : Hid ((togS (tAt (ks.set q rr) s) (tAt (ks.set q rr) (s + 1))).length ≤ 2) := by
        show (splT _).length ≤ 2
        unfold splT
        split
        · simp
        · split <;> simp
      have HTP : Hid (0 < (togS (tAt (ks.set q rr) s) (tAt (ks.set q rr) (s + 1))).length) := by
        show 0 < (splT _).length
        unfold splT
        split
        · simp
        · split <;> simp
      have HQ0 : Hid (q = 0 ∧ s = 0 ∨ q = s + 1) := by show _ ∨ _; omega
      have HSN : Hid (s + 1 < nk) := hsn
      have HPO := hid hpo
      generalize hkz : ks.set q rr = kz at *
      clear hkz HNR HKF HKE HF HRR HS6 hs hsn
      have hn4 : n3 ≤ 4 := by have := HN3.out; omega
      rcases HQ0.out with ⟨hq0', hs0'⟩ | hqs
      · have hqz : (q : Int) = 0 := by omega
        subst hs0'
        simp only [Nat.zero_add, List.take_zero, List.nil_append] at HTL HF2 HNE HSN HTP
        have HI7 := hid (HI6.out.keep (below_new (o := .cells #[] 97) (w := w6) (Below.refl _ _)))
        have HK7 := hid (HKS.out.kept (below_new (o := .cells #[] 97) (w := w6) (Below.refl _ _)))
        have HS7 := hid (so_new w6 w6.heap.size (Nat.le_refl _))
        have HGZ : Hid (gk < w6.heap.size ∧ w4.heap.size ≤ w6.heap.size ∧ w.heap.size + 2 ≤ w6.heap.size) := ⟨(HKS.out.lo gk rfl).2, by have h1 := HZ6.out; have h2 := HW5.out; omega, HI6.out.z⟩
        have HR7 : Hid (SubR (w6.alloc (.cells #[] 97)) (fun y => y < w6.heap.size ∧ ((S y ∧ y < w.heap.size) ∨ w.heap.size + 2 ≤ y)) (.slice (some ⟨gk, 0, none⟩) n3 c3) kz) := HK7.out.subR (fun y e h1 _ => by have e' : gk = y := (by simpa [Value.ownBlock] using e); have := HGZ.out; exact ⟨by omega, .inr h1⟩) (fun y hy _ => by
          have := HGZ.out
          have := HGK.out
          rcases hy with h | h
          · exact ⟨by have := h.2; omega, .inl h⟩
          · exact ⟨by omega, .inr (by omega)⟩)
        have hn1 : 0 + 1 < n3 := by have := HN3.out; have := HSN.out; omega
        have hc3 : n3 ≤ c3 ∧ c3 ≤ 9223372036854775807 := by obtain ⟨L, P, K, h1, _⟩ := HKS.out; exact (row_cap h1).2
        obtain ⟨hc31, hc32⟩ := hc3
        have hzn : 0 < n3 := by omega
        have hzn1 : 1 < n3 := by omega
        have hz1 : (0 : Int) ≤ (c3 : Int) := by omega
        have hz2 : (1 : Int) < (n3 : Int) := by omega
        have hz3 : (0 : Int) < (n3 : Int) := by omega
        have hwr : IntKind.i64.wrap (0 : Int) = 0 := by rw [IntKind.wrap_i64]; omega
        go_wp2_with (at_builtin; refine wpList_append_subs rfl _ _ rfl w6.heap.size _ (fun y => y < w6.heap.size ∧ ((S y ∧ y < w.heap.size) ∨ w.heap.size + 2 ≤ y)) (.slice (some ⟨w6.heap.size, 0, none⟩) 0 0) _ [] (kz.take (0)) rfl HS7.out rfl (HR7.out.take (by omega)) ?q0 ?q1 ?q2 ?_)
        case q0 => intro y hy e; have e' : w6.heap.size = y := (by simpa [Value.ownBlock] using e)
                   have := hy.1; omega
        case q1 => first | (rw [List.length_take]; simp; omega) | simp
        case q2 => first | omega | simp
        intro v8 w8 hO8 hg8 ha8
        obtain ⟨a8, n8, c8, e8, -⟩ := hO8.shape
        subst e8
        have hlo8 := hO8.lo
        have HI8 := hid (HI7.out.grow hg8 (fun x e => by have e' : w6.heap.size = x := (by simpa [Value.ownBlock] using e); have := HGZ.out; omega))
        have hon8 : Only (fun y => y = w6.heap.size) (w6.alloc (.cells #[] 97)) w8 := only_of_grown hg8 (fun x e => by have e' : w6.heap.size = x := (by simpa [Value.ownBlock] using e); omega)
        have HK8 := hid (HK7.out.to hon8 (fun y e h => by have e' : gk = y := (by simpa [Value.ownBlock] using e); have := HGZ.out; omega) (fun y hy _ h => by have := HGZ.out; rcases hy with h2 | h2 <;> omega))
        have HS8 : Hid (SO w8 w6.heap.size (fun y => y < w6.heap.size ∧ ((S y ∧ y < w.heap.size) ∨ w.heap.size + 2 ≤ y)) (.slice a8 n8 c8) (kz.take (0))) := by
          refine SO.mono (S := fun y => y < w6.heap.size ∧ ((S y ∧ y < w.heap.size) ∨ w.heap.size + 2 ≤ y)) ?_ (fun y hy _ => hy) (fun y hy e => by have := (hlo8 y e).1; have := hy.1; omega)
          have h9 := hO8.mono (R := fun y => y < w6.heap.size ∧ ((S y ∧ y < w.heap.size) ∨ w.heap.size + 2 ≤ y)) (fun y hy _ => by first | exact hy.1 | exact hy.1.resolve_left id) (fun y hy e => by have := (hlo8 y e).1; have := hy.1; omega)
          simpa using h9
        have HZ68 : Hid (w6.heap.size ≤ w8.heap.size) := by have := hon8.size; simp at this; show _ ≤ _; omega
        clear hO8 hg8 ha8 HI7 HK7 HS7 HR7 hlo8 hon8
        obtain ⟨_, eK, _, hatK⟩ := HK8.out.at (by rw [HLN.out]; omega)
        cases eK
        obtain ⟨la, apa, npa, cpa, aka, nka, cka, i0, i1, i2, hsa⟩ := hatK (0) (by rw [HLN.out]; have := HSN.out; omega)
        obtain ⟨lb, apb, npb, cpb, akb, nkb, ckb, j0, j1, j2, hsb⟩ := hatK (1) (by rw [HLN.out]; exact HSN.out)
        try simp only [Nat.zero_mul, Nat.one_mul, Nat.zero_add] at i0 i1 i2 j0 j1 j2
        have HTG := hid (specTogether_any _ la lb apa aka apb akb npa cpa nka cka npb cpb nkb ckb _ _ w8.drew (hsa.kept (below_drew _)) (hsb.kept (below_drew _)) (ev_leaf (HSM.out (0) (by have := HSN.out; omega)).1 (HSM.out (1) HSN.out).1) (by have h1 := (HSM.out (0) (by have := HSN.out; omega)).2.1; have h2 := (HSM.out (1) HSN.out).2.1; omega) (by have h1 := (HSM.out (0) (by have := HSN.out; omega)).2.2; have h2 := (HSM.out (1) HSN.out).2.2; omega))
        have HAP : Hid (∀ y, ((S y ∧ y < w.heap.size) ∨ (w3.heap.size ≤ y ∧ y < w4.heap.size)) ∨ w8.drew.heap.size ≤ y → (Value.slice a8 n8 c8).ownBlock ≠ some y) := by
          intro y hy e
          have h1 := HS8.out.lo y e
          have h2 := HGZ.out
          rcases hy with (h | h) | h
          · have := h.2; omega
          · omega
          · have h3 : w8.heap.size ≤ y := h
            omega
        have HTL2 : Hid ((kz.take (0)).length + (togS (tAt kz (0)) (tAt kz (1))).length ≤ 1048576) := by have := HTL.out; rw [List.length_take]; show _ ≤ _; omega
        have HST : Hid (∀ (w9 : World), Below w8.drew.heap.size w8.drew w9 → SO w9 w6.heap.size (fun y => y < w6.heap.size ∧ ((S y ∧ y < w.heap.size) ∨ w.heap.size + 2 ≤ y)) (.slice a8 n8 c8) (kz.take (0)) ∧ w6.heap.size ≤ w9.heap.size) := by
          intro w9 hb
          refine ⟨HS8.out.kept (Below.then' (below_drew w8) hb (Nat.le_refl _)), ?_⟩
          have h5 : w8.heap.size ≤ w9.heap.size := hb.size
          have := HZ68.out; omega
        have HFIN : Hid (∀ (w9 wA : World) (aA : Option Addr) (nA cA : Nat) (R : Nat → Prop), Below w8.drew.heap.size w8.drew w9 → SO wA w6.heap.size R (.slice aA nA cA) (kz.take (0) ++ togS (tAt kz (0)) (tAt kz (1))) → (∀ y, R y → ((S y ∧ y < w.heap.size) ∨ w.heap.size + 2 ≤ y)) → w9.grownBy wA (Value.slice a8 n8 c8).ownBlock →
            SO wA w6.heap.size (fun y => ((S y ∧ y < w.heap.size) ∨ (w.heap.size + 2 ≤ y ∧ (Value.slice aA nA cA).ownBlock ≠ some y))) (.slice aA nA cA) (kz.take (0) ++ togS (tAt kz (0)) (tAt kz (1))) ∧ DrI w wA false (.slice ap np cp) (.slice ak nk ck) ∧ SO wA (w.heap.size + 2) (fun y => (S y ∧ y < w.heap.size) ∨ (w3.heap.size ≤ y ∧ y < w4.heap.size)) (.slice (some ⟨gk, 0, none⟩) n3 c3) kz) := by
          intro w9 wA aA nA cA R hb hO hR hg
          have hlo := hO.lo
          have hz := HGZ.out
          have hb2 := Below.then' (below_drew w8) hb (Nat.le_refl _)
          have hon : Only (fun y => w6.heap.size ≤ y) w9 wA := only_of_grown hg (fun x e => (HS8.out.lo x e).1)
          refine ⟨?_, (HI8.out.keep hb2).only hon (fun x h => by omega), (HK8.out.kept hb2).to hon (fun y e h => by have e' : gk = y := (by simpa [Value.ownBlock] using e); omega) (fun y hy _ h => by rcases hy with h2 | h2 <;> omega)⟩
          obtain ⟨L, P, K, h1, h2, h3⟩ := hO
          refine ⟨L, P, K, h1, fun i hi => (h2 i hi).mono (fun y hy hl => ?_), ?_⟩
          · rcases hR y hy with h | h
            · exact .inl h
            · exact .inr ⟨h, h3 y hy⟩
          · rintro y (h | h)
            · intro e; have := (hlo y e).1; have := h.2; omega
            · exact h.2
        have HRR2 : Hid (∀ y, ((y < w6.heap.size ∧ ((S y ∧ y < w.heap.size) ∨ w.heap.size + 2 ≤ y)) ∨ ((S y ∧ y < w.heap.size) ∨ (w3.heap.size ≤ y ∧ y < w4.heap.size)) ∨ w8.drew.heap.size ≤ y) ∧ True → ((S y ∧ y < w.heap.size) ∨ w.heap.size + 2 ≤ y)) := by
          have h1 := HGK.out
          have h2 := HGZ.out
          have h4 := HZ68.out
          rintro y ⟨h | (h | h) | h, -⟩
          · exact h.2
          · exact .inl h
          · right; omega
          · have h3 : w8.heap.size ≤ y := h
            right; omega
        clear hsa hsb hatK
        go_wp2_with fail
        go_cut [10] (fun x v2 => ∃ (aA : Option Addr) (nA cA : Nat), x = .slice aA nA cA ∧ Hid (SO v2 w6.heap.size (fun y => ((S y ∧ y < w.heap.size) ∨ (w.heap.size + 2 ≤ y ∧ (Value.slice aA nA cA).ownBlock ≠ some y))) (.slice aA nA cA) (kz.take (0) ++ togS (tAt kz (0)) (tAt kz (1)))) ∧ Hid (DrI w v2 false (.slice ap np cp) (.slice ak nk ck)) ∧ Hid (SO v2 (w.heap.size + 2) (fun y => (S y ∧ y < w.heap.size) ∨ (w3.heap.size ≤ y ∧ y < w4.heap.size)) (.slice (some ⟨gk, 0, none⟩) n3 c3) kz))
        case first =>
          go_region_law (first
            | (go_simp; go_at_call 98; refine HTG.out.mono ?_; rintro e w9 ⟨v9, rfl, hR9, hb9⟩)
            | (refine step_append_subs rfl _ _ rfl w6.heap.size _ _ (.slice a8 n8 c8) _ (kz.take (0)) (togS (tAt kz (0)) (tAt kz (1))) rfl (HST.out _ hb9).1 rfl hR9 HAP.out HTL2.out (HST.out _ hb9).2 ?_; intro vA wA hOA hgA haA; obtain ⟨aA, nA, cA, eA, -⟩ := hOA.shape; subst eA))
          all_goals (go_wp2_with fail; go_meet)
          all_goals exact ⟨aA, nA, cA, rfl, (HFIN.out _ _ _ _ _ _ hb9 hOA (fun y hy => HRR2.out y ⟨hy.1, trivial⟩) hgA).1, (HFIN.out _ _ _ _ _ _ hb9 hOA (fun y hy => HRR2.out y ⟨hy.1, trivial⟩) hgA).2.1, (HFIN.out _ _ _ _ _ _ hb9 hOA (fun y hy => HRR2.out y ⟨hy.1, trivial⟩) hgA).2.2⟩
        case rest =>
          obtain ⟨aA, nA, cA, rfl, HSA, HIA, HKA⟩ := hcut
          clear HFIN HST HAP HTG i0 i1 i2 j0 j1 j2 HS8 HI8 HK8 HTL2 HRR2
          have HZB : Hid (w6.heap.size ≤ wc.heap.size) := by
            obtain ⟨L, P, K, h1, _⟩ := HSA.out
            have hlen : 0 < (kz.take (0) ++ togS (tAt kz (0)) (tAt kz (1))).length := by
              rw [List.length_append]
              have := HTP.out
              omega
            rcases h1.2 with ⟨_, h0⟩ | ⟨g, _, _, h0, h2, h3, _⟩
            · omega
            · have := (Array.getElem?_eq_some_iff.1 h3).1
              show _ ≤ _; omega
          have HRA : Hid (SubR wc (fun y => y < w6.heap.size ∧ ((S y ∧ y < w.heap.size) ∨ w.heap.size + 2 ≤ y)) (.slice (some ⟨gk, 0, none⟩) n3 c3) kz) := HKA.out.subR (fun y e h1 _ => by have e' : gk = y := (by simpa [Value.ownBlock] using e); have := HGZ.out; exact ⟨by omega, .inr h1⟩) (fun y hy _ => by
            have := HGZ.out
            have := HGK.out
            rcases hy with h | h
            · exact ⟨by have := h.2; omega, .inl h⟩
            · exact ⟨by omega, .inr (by omega)⟩)
          have HAQ : Hid (∀ y, y < w6.heap.size ∧ ((S y ∧ y < w.heap.size) ∨ w.heap.size + 2 ≤ y) → (Value.slice aA nA cA).ownBlock ≠ some y) := fun y hy e => by have := (HSA.out.lo y e).1; have := hy.1; omega
          have HDL : Hid ((kz.take (0) ++ togS (tAt kz (0)) (tAt kz (1))).length + (kz.drop (2)).length ≤ 1048576) := by
            have := HTL.out
            have := HLN.out
            rw [List.length_append, List.length_take, List.length_drop]; show _ ≤ _; omega
          have hzz1 : (2 : Int) ≤ (n3 : Int) := by omega
          have hzz2 : (0 : Int) ≤ (2 : Int) := by omega
          by_cases hcap : ¬ c3 = 2
          · have HDR := hid (HRA.out.drop (m := 2) (by omega))
            rw [Nat.zero_add] at HDR
            go_wp2_with (at_builtin; refine wpList_append_subs rfl _ _ rfl w6.heap.size _ (fun y => y < w6.heap.size ∧ ((S y ∧ y < w.heap.size) ∨ w.heap.size + 2 ≤ y)) (.slice aA nA cA) _ _ (kz.drop (2)) rfl HSA.out rfl HDR.out HAQ.out HDL.out HZB.out ?_)
            intro v6 wD hO6 hg6 ha6
            obtain ⟨a6, n6, c6, e6, -⟩ := hO6.shape
            subst e6
            have hID := HIA.out.grow hg6 (fun x e => by have := (HSA.out.lo x e).1; have := HGZ.out; omega)
            have hSD : Sub wD (fun y => (S y ∧ y < w.heap.size) ∨ w.heap.size + 2 ≤ y) false (.slice none 0 0) (.slice a6 n6 c6) (.mk [] (togS (tAt kz 0) (tAt kz 1) ++ kz.drop 2)) := (hO6.subR (fun y _ h1 _ => .inr (by have := HGZ.out; omega)) (fun y hy _ => by
              rcases hy.1 with (h | h) | h
              · exact .inl h
              · exact .inr h.1
              · exact h.2)).sub HNE.out
            have HD2 := hid (hID.done (S := fun y => S y ∧ y < w.heap.size) hSD (fun y hy => hy.2))
            have r0 := hID.r.cell (j := 0) rfl
            have r1 := hID.r.cell (j := 1) rfl
            have r2 := hID.r.cell (j := 2) rfl
            have rf0 := hID.r.free 0
            have rf1 := hID.r.free 1
            have rf2 := hID.r.free 2
            have z0 := HD2.out.2.2.cell (j := 0) rfl
            have z1 := HD2.out.2.2.cell (j := 1) rfl
            have z2 := HD2.out.2.2.cell (j := 2) rfl
            clear hO6 hg6 ha6 hID hSD HDR
            go_wp2
            refine bodyPost_ret (v := .agg #[.bool false, .slice none 0 0, .slice a6 n6 c6]) ?_ rfl ?_
            · refine results_sub1 rfl _ _ _ rfl ?_ ?_ ?_
              · exact z0
              · exact z1
              · exact z2
            · refine ⟨_, _, _, _, _, _, _, rfl, ?_, HD2.out.2.1⟩
              rw [HF2.out]
              exact HD2.out.1.mono (fun y hy _ => hy.imp (fun h => h.1) id)
          · have hck : c3 = 2 := by omega
            have hnk1 : n3 = 2 := by omega
            have HDR : Hid (SubR wc (fun y => y < w6.heap.size ∧ ((S y ∧ y < w.heap.size) ∨ w.heap.size + 2 ≤ y)) (.slice (some ⟨gk, 0, none⟩) 0 0) (kz.drop (2))) := by
              rw [List.drop_eq_nil_of_le (by rw [HLN.out]; have := HN3.out; omega)]
              exact ⟨fun _ => false, fun _ => .slice none 0 0, fun _ => .slice none 0 0, ⟨_, 0, rfl, Nat.le_refl _, by omega, fun _ => rfl, fun h => (by cases h), fun h => (by simp at h)⟩, fun i hi => (by simp at hi)⟩
            subst hck hnk1
            go_wp2_with (at_builtin; refine wpList_append_subs rfl _ _ rfl w6.heap.size _ (fun y => y < w6.heap.size ∧ ((S y ∧ y < w.heap.size) ∨ w.heap.size + 2 ≤ y)) (.slice aA nA cA) _ _ (kz.drop (2)) rfl HSA.out rfl HDR.out HAQ.out HDL.out HZB.out ?_)
            intro v6 wD hO6 hg6 ha6
            obtain ⟨a6, n6, c6, e6, -⟩ := hO6.shape
            subst e6
            have hID := HIA.out.grow hg6 (fun x e => by have := (HSA.out.lo x e).1; have := HGZ.out; omega)
            have hSD : Sub wD (fun y => (S y ∧ y < w.heap.size) ∨ w.heap.size + 2 ≤ y) false (.slice none 0 0) (.slice a6 n6 c6) (.mk [] (togS (tAt kz 0) (tAt kz 1) ++ kz.drop 2)) := (hO6.subR (fun y _ h1 _ => .inr (by have := HGZ.out; omega)) (fun y hy _ => by
              rcases hy.1 with (h | h) | h
              · exact .inl h
              · exact .inr h.1
              · exact h.2)).sub HNE.out
            have HD2 := hid (hID.done (S := fun y => S y ∧ y < w.heap.size) hSD (fun y hy => hy.2))
            have r0 := hID.r.cell (j := 0) rfl
            have r1 := hID.r.cell (j := 1) rfl
            have r2 := hID.r.cell (j := 2) rfl
            have rf0 := hID.r.free 0
            have rf1 := hID.r.free 1
            have rf2 := hID.r.free 2
            have z0 := HD2.out.2.2.cell (j := 0) rfl
            have z1 := HD2.out.2.2.cell (j := 1) rfl
            have z2 := HD2.out.2.2.cell (j := 2) rfl
            clear hO6 hg6 ha6 hID hSD HDR
            go_wp2
            refine bodyPost_ret (v := .agg #[.bool false, .slice none 0 0, .slice a6 n6 c6]) ?_ rfl ?_
            · refine results_sub1 rfl _ _ _ rfl ?_ ?_ ?_
              · exact z0
              · exact z1
              · exact z2
            · refine ⟨_, _, _, _, _, _, _, rfl, ?_, HD2.out.2.1⟩
              rw [HF2.out]
              exact HD2.out.1.mono (fun y hy _ => hy.imp (fun h => h.1) id)
      · have hqz : ¬ (q : Int) = 0 := by omega
        subst hqs
        simp only [List.append_assoc] at HF2 HNE
        have HI7 := hid (HI6.out.keep (below_new (o := .cells #[] 97) (w := w6) (Below.refl _ _)))
        have HK7 := hid (HKS.out.kept (below_new (o := .cells #[] 97) (w := w6) (Below.refl _ _)))
        have HS7 := hid (so_new w6 w6.heap.size (Nat.le_refl _))
        have HGZ : Hid (gk < w6.heap.size ∧ w4.heap.size ≤ w6.heap.size ∧ w.heap.size + 2 ≤ w6.heap.size) := ⟨(HKS.out.lo gk rfl).2, by have h1 := HZ6.out; have h2 := HW5.out; omega, HI6.out.z⟩
        have HR7 : Hid (SubR (w6.alloc (.cells #[] 97)) (fun y => y < w6.heap.size ∧ ((S y ∧ y < w.heap.size) ∨ w.heap.size + 2 ≤ y)) (.slice (some ⟨gk, 0, none⟩) n3 c3) kz) := HK7.out.subR (fun y e h1 _ => by have e' : gk = y := (by simpa [Value.ownBlock] using e); have := HGZ.out; exact ⟨by omega, .inr h1⟩) (fun y hy _ => by
          have := HGZ.out
          have := HGK.out
          rcases hy with h | h
          · exact ⟨by have := h.2; omega, .inl h⟩
          · exact ⟨by omega, .inr (by omega)⟩)
        have hn1 : s + 1 < n3 := by have := HN3.out; have := HSN.out; omega
        have hc3 : n3 ≤ c3 ∧ c3 ≤ 9223372036854775807 := by obtain ⟨L, P, K, h1, _⟩ := HKS.out; exact (row_cap h1).2
        obtain ⟨hc31, hc32⟩ := hc3
        have hz5 : (0 : Int) ≤ (s : Int) + 1 := by omega
        have hz0 : (0 : Int) ≤ (s : Int) := by omega
        have hz1 : (s : Int) ≤ (c3 : Int) := by omega
        have hz2 : (s : Int) + 1 < (n3 : Int) := by omega
        have hz3 : (s : Int) < (n3 : Int) := by omega
        have hz4 : (s : Int) ≤ 1000 := by omega
        have hwr : IntKind.i64.wrap (s : Int) = (s : Int) := by rw [IntKind.wrap_i64]; omega
        have hwr2 : IntKind.i64.wrap ((s : Int) + 1 - 1) = (s : Int) := by rw [IntKind.wrap_i64]; omega
        go_wp2_with (at_builtin; refine wpList_append_subs rfl _ _ rfl w6.heap.size _ (fun y => y < w6.heap.size ∧ ((S y ∧ y < w.heap.size) ∨ w.heap.size + 2 ≤ y)) (.slice (some ⟨w6.heap.size, 0, none⟩) 0 0) _ [] (kz.take (s)) rfl HS7.out rfl (HR7.out.take (by omega)) ?q0 ?q1 ?q2 ?_)
        case q0 => intro y hy e; have e' : w6.heap.size = y := (by simpa [Value.ownBlock] using e)
                   have := hy.1; omega
        case q1 => first | (rw [List.length_take]; simp; omega) | simp
        case q2 => first | omega | simp
        intro v8 w8 hO8 hg8 ha8
        obtain ⟨a8, n8, c8, e8, -⟩ := hO8.shape
        subst e8
        have hlo8 := hO8.lo
        have HI8 := hid (HI7.out.grow hg8 (fun x e => by have e' : w6.heap.size = x := (by simpa [Value.ownBlock] using e); have := HGZ.out; omega))
        have hon8 : Only (fun y => y = w6.heap.size) (w6.alloc (.cells #[] 97)) w8 := only_of_grown hg8 (fun x e => by have e' : w6.heap.size = x := (by simpa [Value.ownBlock] using e); omega)
        have HK8 := hid (HK7.out.to hon8 (fun y e h => by have e' : gk = y := (by simpa [Value.ownBlock] using e); have := HGZ.out; omega) (fun y hy _ h => by have := HGZ.out; rcases hy with h2 | h2 <;> omega))
        have HS8 : Hid (SO w8 w6.heap.size (fun y => y < w6.heap.size ∧ ((S y ∧ y < w.heap.size) ∨ w.heap.size + 2 ≤ y)) (.slice a8 n8 c8) (kz.take (s))) := by
          refine SO.mono (S := fun y => y < w6.heap.size ∧ ((S y ∧ y < w.heap.size) ∨ w.heap.size + 2 ≤ y)) ?_ (fun y hy _ => hy) (fun y hy e => by have := (hlo8 y e).1; have := hy.1; omega)
          have h9 := hO8.mono (R := fun y => y < w6.heap.size ∧ ((S y ∧ y < w.heap.size) ∨ w.heap.size + 2 ≤ y)) (fun y hy _ => by first | exact hy.1 | exact hy.1.resolve_left id) (fun y hy e => by have := (hlo8 y e).1; have := hy.1; omega)
          simpa using h9
        have HZ68 : Hid (w6.heap.size ≤ w8.heap.size) := by have := hon8.size; simp at this; show _ ≤ _; omega
        clear hO8 hg8 ha8 HI7 HK7 HS7 HR7 hlo8 hon8
        obtain ⟨_, eK, _, hatK⟩ := HK8.out.at (by rw [HLN.out]; omega)
        cases eK
        obtain ⟨la, apa, npa, cpa, aka, nka, cka, i0, i1, i2, hsa⟩ := hatK (s) (by rw [HLN.out]; have := HSN.out; omega)
        obtain ⟨lb, apb, npb, cpb, akb, nkb, ckb, j0, j1, j2, hsb⟩ := hatK (s + 1) (by rw [HLN.out]; exact HSN.out)
        try simp only [Nat.zero_mul, Nat.one_mul, Nat.zero_add] at i0 i1 i2 j0 j1 j2
        have HTG := hid (specTogether_any _ la lb apa aka apb akb npa cpa nka cka npb cpb nkb ckb _ _ w8.drew (hsa.kept (below_drew _)) (hsb.kept (below_drew _)) (ev_leaf (HSM.out (s) (by have := HSN.out; omega)).1 (HSM.out (s + 1) HSN.out).1) (by have h1 := (HSM.out (s) (by have := HSN.out; omega)).2.1; have h2 := (HSM.out (s + 1) HSN.out).2.1; omega) (by have h1 := (HSM.out (s) (by have := HSN.out; omega)).2.2; have h2 := (HSM.out (s + 1) HSN.out).2.2; omega))
        have HAP : Hid (∀ y, ((S y ∧ y < w.heap.size) ∨ (w3.heap.size ≤ y ∧ y < w4.heap.size)) ∨ w8.drew.heap.size ≤ y → (Value.slice a8 n8 c8).ownBlock ≠ some y) := by
          intro y hy e
          have h1 := HS8.out.lo y e
          have h2 := HGZ.out
          rcases hy with (h | h) | h
          · have := h.2; omega
          · omega
          · have h3 : w8.heap.size ≤ y := h
            omega
        have HTL2 : Hid ((kz.take (s)).length + (togS (tAt kz (s)) (tAt kz (s + 1))).length ≤ 1048576) := by have := HTL.out; rw [List.length_take]; show _ ≤ _; omega
        have HST : Hid (∀ (w9 : World), Below w8.drew.heap.size w8.drew w9 → SO w9 w6.heap.size (fun y => y < w6.heap.size ∧ ((S y ∧ y < w.heap.size) ∨ w.heap.size + 2 ≤ y)) (.slice a8 n8 c8) (kz.take (s)) ∧ w6.heap.size ≤ w9.heap.size) := by
          intro w9 hb
          refine ⟨HS8.out.kept (Below.then' (below_drew w8) hb (Nat.le_refl _)), ?_⟩
          have h5 : w8.heap.size ≤ w9.heap.size := hb.size
          have := HZ68.out; omega
        have HFIN : Hid (∀ (w9 wA : World) (aA : Option Addr) (nA cA : Nat) (R : Nat → Prop), Below w8.drew.heap.size w8.drew w9 → SO wA w6.heap.size R (.slice aA nA cA) (kz.take (s) ++ togS (tAt kz (s)) (tAt kz (s + 1))) → (∀ y, R y → ((S y ∧ y < w.heap.size) ∨ w.heap.size + 2 ≤ y)) → w9.grownBy wA (Value.slice a8 n8 c8).ownBlock →
            SO wA w6.heap.size (fun y => ((S y ∧ y < w.heap.size) ∨ (w.heap.size + 2 ≤ y ∧ (Value.slice aA nA cA).ownBlock ≠ some y))) (.slice aA nA cA) (kz.take (s) ++ togS (tAt kz (s)) (tAt kz (s + 1))) ∧ DrI w wA false (.slice ap np cp) (.slice ak nk ck) ∧ SO wA (w.heap.size + 2) (fun y => (S y ∧ y < w.heap.size) ∨ (w3.heap.size ≤ y ∧ y < w4.heap.size)) (.slice (some ⟨gk, 0, none⟩) n3 c3) kz) := by
          intro w9 wA aA nA cA R hb hO hR hg
          have hlo := hO.lo
          have hz := HGZ.out
          have hb2 := Below.then' (below_drew w8) hb (Nat.le_refl _)
          have hon : Only (fun y => w6.heap.size ≤ y) w9 wA := only_of_grown hg (fun x e => (HS8.out.lo x e).1)
          refine ⟨?_, (HI8.out.keep hb2).only hon (fun x h => by omega), (HK8.out.kept hb2).to hon (fun y e h => by have e' : gk = y := (by simpa [Value.ownBlock] using e); omega) (fun y hy _ h => by rcases hy with h2 | h2 <;> omega)⟩
          obtain ⟨L, P, K, h1, h2, h3⟩ := hO
          refine ⟨L, P, K, h1, fun i hi => (h2 i hi).mono (fun y hy hl => ?_), ?_⟩
          · rcases hR y hy with h | h
            · exact .inl h
            · exact .inr ⟨h, h3 y hy⟩
          · rintro y (h | h)
            · intro e; have := (hlo y e).1; have := h.2; omega
            · exact h.2
        have HRR2 : Hid (∀ y, ((y < w6.heap.size ∧ ((S y ∧ y < w.heap.size) ∨ w.heap.size + 2 ≤ y)) ∨ ((S y ∧ y < w.heap.size) ∨ (w3.heap.size ≤ y ∧ y < w4.heap.size)) ∨ w8.drew.heap.size ≤ y) ∧ True → ((S y ∧ y < w.heap.size) ∨ w.heap.size + 2 ≤ y)) := by
          have h1 := HGK.out
          have h2 := HGZ.out
          have h4 := HZ68.out
          rintro y ⟨h | (h | h) | h, -⟩
          · exact h.2
          · exact .inl h
          · right; omega
          · have h3 : w8.heap.size ≤ y := h
            right; omega
        clear hsa hsb hatK
        go_wp2_with fail
        go_cut [10] (fun x v2 => ∃ (aA : Option Addr) (nA cA : Nat), x = .slice aA nA cA ∧ Hid (SO v2 w6.heap.size (fun y => ((S y ∧ y < w.heap.size) ∨ (w.heap.size + 2 ≤ y ∧ (Value.slice aA nA cA).ownBlock ≠ some y))) (.slice aA nA cA) (kz.take (s) ++ togS (tAt kz (s)) (tAt kz (s + 1)))) ∧ Hid (DrI w v2 false (.slice ap np cp) (.slice ak nk ck)) ∧ Hid (SO v2 (w.heap.size + 2) (fun y => (S y ∧ y < w.heap.size) ∨ (w3.heap.size ≤ y ∧ y < w4.heap.size)) (.slice (some ⟨gk, 0, none⟩) n3 c3) kz))
        case first =>
          go_region_law (first
            | (go_simp; go_at_call 98; refine HTG.out.mono ?_; rintro e w9 ⟨v9, rfl, hR9, hb9⟩)
            | (refine step_append_subs rfl _ _ rfl w6.heap.size _ _ (.slice a8 n8 c8) _ (kz.take (s)) (togS (tAt kz (s)) (tAt kz (s + 1))) rfl (HST.out _ hb9).1 rfl hR9 HAP.out HTL2.out (HST.out _ hb9).2 ?_; intro vA wA hOA hgA haA; obtain ⟨aA, nA, cA, eA, -⟩ := hOA.shape; subst eA))
          all_goals (go_wp2_with fail; go_meet)
          all_goals exact ⟨aA, nA, cA, rfl, (HFIN.out _ _ _ _ _ _ hb9 hOA (fun y hy => HRR2.out y ⟨hy.1, trivial⟩) hgA).1, (HFIN.out _ _ _ _ _ _ hb9 hOA (fun y hy => HRR2.out y ⟨hy.1, trivial⟩) hgA).2.1, (HFIN.out _ _ _ _ _ _ hb9 hOA (fun y hy => HRR2.out y ⟨hy.1, trivial⟩) hgA).2.2⟩
        case rest =>
          obtain ⟨aA, nA, cA, rfl, HSA, HIA, HKA⟩ := hcut
          clear HFIN HST HAP HTG i0 i1 i2 j0 j1 j2 HS8 HI8 HK8 HTL2 HRR2
          have HZB : Hid (w6.heap.size ≤ wc.heap.size) := by
            obtain ⟨L, P, K, h1, _⟩ := HSA.out
            have hlen : 0 < (kz.take (s) ++ togS (tAt kz (s)) (tAt kz (s + 1))).length := by
              rw [List.length_append]
              have := HTP.out
              omega
            rcases h1.2 with ⟨_, h0⟩ | ⟨g, _, _, h0, h2, h3, _⟩
            · omega
            · have := (Array.getElem?_eq_some_iff.1 h3).1
              show _ ≤ _; omega
          have HRA : Hid (SubR wc (fun y => y < w6.heap.size ∧ ((S y ∧ y < w.heap.size) ∨ w.heap.size + 2 ≤ y)) (.slice (some ⟨gk, 0, none⟩) n3 c3) kz) := HKA.out.subR (fun y e h1 _ => by have e' : gk = y := (by simpa [Value.ownBlock] using e); have := HGZ.out; exact ⟨by omega, .inr h1⟩) (fun y hy _ => by
            have := HGZ.out
            have := HGK.out
            rcases hy with h | h
            · exact ⟨by have := h.2; omega, .inl h⟩
            · exact ⟨by omega, .inr (by omega)⟩)
          have HAQ : Hid (∀ y, y < w6.heap.size ∧ ((S y ∧ y < w.heap.size) ∨ w.heap.size + 2 ≤ y) → (Value.slice aA nA cA).ownBlock ≠ some y) := fun y hy e => by have := (HSA.out.lo y e).1; have := hy.1; omega
          have HDL : Hid ((kz.take (s) ++ togS (tAt kz (s)) (tAt kz (s + 1))).length + (kz.drop (s + 1 + 1)).length ≤ 1048576) := by
            have := HTL.out
            have := HLN.out
            rw [List.length_append, List.length_take, List.length_drop]; show _ ≤ _; omega
          have hzz1 : ((s : Int) + 1 + 1 : Int) ≤ (n3 : Int) := by omega
          have hzz2 : (0 : Int) ≤ ((s : Int) + 1 + 1 : Int) := by omega
          by_cases hcap : ¬ c3 = s + 1 + 1
          · have HDR := hid (HRA.out.drop (m := s + 1 + 1) (by omega))
            rw [Nat.zero_add] at HDR
            go_wp2_with (at_builtin; refine wpList_append_subs rfl _ _ rfl w6.heap.size _ (fun y => y < w6.heap.size ∧ ((S y ∧ y < w.heap.size) ∨ w.heap.size + 2 ≤ y)) (.slice aA nA cA) _ _ (kz.drop (s + 1 + 1)) rfl HSA.out rfl HDR.out HAQ.out HDL.out HZB.out ?_)
            intro v6 wD hO6 hg6 ha6
            obtain ⟨a6, n6, c6, e6, -⟩ := hO6.shape
            subst e6
            have hID := HIA.out.grow hg6 (fun x e => by have := (HSA.out.lo x e).1; have := HGZ.out; omega)
            have hSD : Sub wD (fun y => (S y ∧ y < w.heap.size) ∨ w.heap.size + 2 ≤ y) false (.slice none 0 0) (.slice a6 n6 c6) (.mk [] (kz.take s ++ (togS (tAt kz s) (tAt kz (s + 1)) ++ kz.drop (s + 1 + 1)))) := (hO6.subR (fun y _ h1 _ => .inr (by have := HGZ.out; omega)) (fun y hy _ => by
              rcases hy.1 with (h | h) | h
              · exact .inl h
              · exact .inr h.1
              · exact h.2)).sub HNE.out
            have HD2 := hid (hID.done (S := fun y => S y ∧ y < w.heap.size) hSD (fun y hy => hy.2))
            have r0 := hID.r.cell (j := 0) rfl
            have r1 := hID.r.cell (j := 1) rfl
            have r2 := hID.r.cell (j := 2) rfl
            have rf0 := hID.r.free 0
            have rf1 := hID.r.free 1
            have rf2 := hID.r.free 2
            have z0 := HD2.out.2.2.cell (j := 0) rfl
            have z1 := HD2.out.2.2.cell (j := 1) rfl
            have z2 := HD2.out.2.2.cell (j := 2) rfl
            clear hO6 hg6 ha6 hID hSD HDR
            go_wp2
            refine bodyPost_ret (v := .agg #[.bool false, .slice none 0 0, .slice a6 n6 c6]) ?_ rfl ?_
            · refine results_sub1 rfl _ _ _ rfl ?_ ?_ ?_
              · exact z0
              · exact z1
              · exact z2
            · refine ⟨_, _, _, _, _, _, _, rfl, ?_, HD2.out.2.1⟩
              rw [HF2.out]
              exact HD2.out.1.mono (fun y hy _ => hy.imp (fun h => h.1) id)
          · have hck : c3 = s + 1 + 1 := by omega
            have hnk1 : n3 = s + 1 + 1 := by omega
            have HDR : Hid (SubR wc (fun y => y < w6.heap.size ∧ ((S y ∧ y < w.heap.size) ∨ w.heap.size + 2 ≤ y)) (.slice (some ⟨gk, 0, none⟩) 0 0) (kz.drop (s + 1 + 1))) := by
              rw [List.drop_eq_nil_of_le (by rw [HLN.out]; have := HN3.out; omega)]
              exact ⟨fun _ => false, fun _ => .slice none 0 0, fun _ => .slice none 0 0, ⟨_, 0, rfl, Nat.le_refl _, by omega, fun _ => rfl, fun h => (by cases h), fun h => (by simp at h)⟩, fun i hi => (by simp at hi)⟩
            subst hck hnk1
            go_wp2_with (at_builtin; refine wpList_append_subs rfl _ _ rfl w6.heap.size _ (fun y => y < w6.heap.size ∧ ((S y ∧ y < w.heap.size) ∨ w.heap.size + 2 ≤ y)) (.slice aA nA cA) _ _ (kz.drop (s + 1 + 1)) rfl HSA.out rfl HDR.out HAQ.out HDL.out HZB.out ?_)
            intro v6 wD hO6 hg6 ha6
            obtain ⟨a6, n6, c6, e6, -⟩ := hO6.shape
            subst e6
            have hID := HIA.out.grow hg6 (fun x e => by have := (HSA.out.lo x e).1; have := HGZ.out; omega)
            have hSD : Sub wD (fun y => (S y ∧ y < w.heap.size) ∨ w.heap.size + 2 ≤ y) false (.slice none 0 0) (.slice a6 n6 c6) (.mk [] (kz.take s ++ (togS (tAt kz s) (tAt kz (s + 1)) ++ kz.drop (s + 1 + 1)))) := (hO6.subR (fun y _ h1 _ => .inr (by have := HGZ.out; omega)) (fun y hy _ => by
              rcases hy.1 with (h | h) | h
              · exact .inl h
              · exact .inr h.1
              · exact h.2)).sub HNE.out
            have HD2 := hid (hID.done (S := fun y => S y ∧ y < w.heap.size) hSD (fun y hy => hy.2))
            have r0 := hID.r.cell (j := 0) rfl
            have r1 := hID.r.cell (j := 1) rfl
            have r2 := hID.r.cell (j := 2) rfl
            have rf0 := hID.r.free 0
            have rf1 := hID.r.free 1
            have rf2 := hID.r.free 2
            have z0 := HD2.out.2.2.cell (j := 0) rfl
            have z1 := HD2.out.2.2.cell (j := 1) rfl
            have z2 := HD2.out.2.2.cell (j := 2) rfl
            clear hO6 hg6 ha6 hID hSD HDR
            go_wp2
            refine bodyPost_ret (v := .agg #[.bool false, .slice none 0 0, .slice a6 n6 c6]) ?_ rfl ?_
            · refine results_sub1 rfl _ _ _ rfl ?_ ?_ ?_
              · exact z0
              · exact z1
              · exact z2
            · refine ⟨_, _, _, _, _, _, _, rfl, ?_, HD2.out.2.1⟩
              rw [HF2.out]
              exact HD2.out.1.mono (fun y hy _ => hy.imp (fun h => h.1) id)
end Go.Proofs.YtpgogpphobafoabDoor
/-
  spec.TreeDrop.
-/
namespace Go.Proofs.YtpgogpphobafoabDoor
open Go.RowKit
theorem strip1_rootD (t : T) : strip1 t = rootD t := rfl
theorem dropV_small (ns : List NB) (k : ByteArray) : smallK ((dropV ns k).getD []) ∧ ((dropV ns k).getD []).length ≤ 100000 := by
  have h0 : smallK (([] : List NB)) ∧ ([] : List NB).length ≤ 100000 := ⟨fun i hi => by simp at hi, by simp⟩
  unfold dropV
  split
  · exact h0
  · rename_i t h
    split
    · exact layT_small (rootD_out (k := k) (okT_putIn h)).1 (by have := (dropV_size h k).2.1; omega)
    · exact h0
theorem rootD_ks1 {h : Nat} {t : T} {k : ByteArray} (g : PutIn h true t) : (rootD (dropF h t k)).ks.length ≠ 1 := by
  rcases (rootD_out (k := k) g).1 with h1 | h1
  · exact full_ks1 h1
  · rw [h1]; decide
set_option maxHeartbeats 2000000 in
set_option maxRecDepth 20000 in
theorem specTreeDrop_any (ns : List NB) (hlen : ns.length ≤ 1048576) (hsm : smallN ns) (S : Nat → Prop) (an : Option Addr) (nn cn : Nat) (k : ByteArray) (w : World) (hN : Nr w S (.slice an nn cn) ns) :
    Calls Tryd.prog 78 #[.agg #[.slice an nn cn], .string k] w fun e w' => STPost (dropV ns k) w e w' := by
  have h1 := hN.len.2.1
  have h2 := hN.len.2.2
  have HB0 : Hid (Below w.heap.size w ((w.alloc (.cells #[.slice an nn cn] 84)).alloc (.cells #[.slice none 0 0] 84))) := below_new (below_new (Below.refl _ _))
  have K0 : Hid (Bk ((w.alloc (.cells #[.slice an nn cn] 84)).alloc (.cells #[.slice none 0 0] 84)) (w.heap.size + 1) 84 [.slice none 0 0]) := by
    have := Bk.new (w.alloc (.cells #[.slice an nn cn] 84)) 84 [.slice none 0 0]
    show Bk _ _ _ _
    simpa using this
  have KA : Hid (Bk ((w.alloc (.cells #[.slice an nn cn] 84)).alloc (.cells #[.slice none 0 0] 84)) w.heap.size 84 [.slice an nn cn]) := (Bk.new w 84 [.slice an nn cn]).alloc _
  have a0 := KA.out.cell (j := 0) rfl
  have H0 := hid (hN.below HB0.out)
  have HLS := hid (And.intro hlen hsm)
  clear hN hlen hsm
  go_enter Tryd.func78, Tryd.ntmps78
  go_wp2_with fail
  refine (specTreeOk_any ns HLS.out.1 HLS.out.2 S an nn cn _ H0.out).mono ?_
  generalize (w.alloc (.cells #[.slice an nn cn] 84)).alloc (.cells #[.slice none 0 0] 84) = U at *
  rintro e w1 ⟨rfl, hb⟩
  have HB1 := hid (HB0.out.trans (hb.mono HB0.out.size))
  have K1 := hid (K0.out.below hb)
  have KA1 := hid (KA.out.below hb)
  have H1 := hid (H0.out.below hb)
  clear hb HB0 K0 H0 KA a0
  have HNO : Hid (∀ (X : World) (u : Value), Below w.heap.size w X → Below w.heap.size w (X.setCell ⟨w.heap.size + 1, 0, none⟩ u)) := fun X u hb => ⟨hb.os, hb.tape, hb.output, by simp [World.setCell]; exact hb.size, fun i hi => (Below.heap_setCell _ _ _ _ (show i ≠ w.heap.size + 1 by omega)).trans (hb.block i hi)⟩
  rw [spOk_eq]
  have c0 := K1.out.cell (j := 0) rfl
  have f0 := K1.out.free 0
  have d0 := (K1.out.set 0 (.slice none 0 0)).cell (j := 0) rfl
  cases hr : okT ns with
  | none =>
    have HR : Hid (dropV ns k = none) := by show _ = _; rw [dropV, hr]
    clear hr
    go_wp2
    refine bodyPost_ret (v := .tuple #[.agg #[.slice none 0 0], .bool false]) ?_ rfl ?_
    · refine results_tree2 rfl _ _ _ rfl rfl ?_
      exact d0
    · rw [HR.out]; exact ⟨_, _, _, rfl, NewK.nil _ _, HNO.out _ _ HB1.out⟩
  | some t =>
    have HR : Hid (dropV ns k = if kOk k = true then some (layT (rootD (dropF t.lv t k))) else none) := by show _ = _; rw [dropV, hr]
    cases hk : kOk k with
    | false =>
      have HR2 : Hid (dropV ns k = none) := by show _ = _; rw [HR.out, hk]; simp
      have HKO := hid (specKeyOk_is k false hk)
      clear hk HR hr
      go_wp2_with fail
      refine (HKO.out w1).mono ?_
      rintro e w2 ⟨rfl, rfl⟩
      go_wp2
      refine bodyPost_ret (v := .tuple #[.agg #[.slice none 0 0], .bool false]) ?_ rfl ?_
      · refine results_tree2 rfl _ _ _ rfl rfl ?_
        exact d0
      · rw [HR2.out]; exact ⟨_, _, _, rfl, NewK.nil _ _, HNO.out _ _ HB1.out⟩
    | true =>
      have HKO := hid (specKeyOk_is k true hk)
      have HR3 : Hid (dropV ns k = some (layT (rootD (dropF t.lv t k)))) := by show _ = _; rw [HR.out, hk]; simp
      have HOK := hid (okT_facts hr)
      have HG := hid (okT_putIn hr)
      have HRO := hid (rootD_out (k := k) (okT_putIn hr))
      have HSZ := hid (dropV_size hr k)
      have HDS : Hid (dropS t.lv t k = dropF t.lv t k) := dropS_eq t.lv true t k HG.out
      have HK1 := hid (rootD_ks1 (k := k) (okT_putIn hr))
      clear hk HR hr
      have g0 := KA1.out.cell (j := 0) rfl
      go_wp2_with fail
      refine (HKO.out w1).mono ?_
      rintro e w2 ⟨rfl, rfl⟩
      clear HKO c0 f0 d0
      go_wp2_with fail
      refine (specRoot_any ns HLS.out.1 HLS.out.2 S an nn cn w2 H1.out).mono ?_
      rintro e w3 ⟨hpost, hb⟩
      rw [HOK.out.root] at hpost
      obtain ⟨lf, ap, np, cp, ak, nk, ck, rfl, hs⟩ := hpost
      have HS3 := hid hs
      have HB3 := hid (Below.then' HB1.out hb (Nat.le_refl _))
      have K3 := hid (K1.out.below hb)
      clear hs hb K1 KA1 g0 HB1 H1
      have HB4 := hid (below_new (o := .cells #[.bool lf, .slice ap np cp, .slice ak nk ck] 97) (w := w3) (Below.refl _ _))
      have KS := hid (Bk.new w3 97 [.bool lf, .slice ap np cp, .slice ak nk ck])
      have k0 := KS.out.cell (j := 0) rfl
      have k1 := KS.out.cell (j := 1) rfl
      have k2 := KS.out.cell (j := 2) rfl
      go_wp2_with fail
      refine (specDrop_any t.lv true _ lf ap ak np cp nk ck t k _ (HS3.out.kept HB4.out) HG.out).mono ?_
      rintro e w5 ⟨l5, ap5, np5, cp5, ak5, nk5, ck5, rfl, hR5, hb5⟩
      rw [HDS.out] at hR5
      have HR5 := hid hR5
      have HB7 := hid (Below.then' (Below.then' HB3.out HB4.out (Nat.le_refl _)) hb5 (Nat.le_refl _))
      have K7 := hid ((K3.out.below HB4.out).below hb5)
      clear hR5 hb5 k0 k1 k2 KS HB4 HB3 K3 HS3
      have HT := hid (specTree_any _ l5 ap5 ak5 np5 cp5 nk5 ck5 (dropF t.lv t k) w5 HR5.out HK1.out HRO.out.1 (by have := HSZ.out.2.1; rw [strip1_rootD]; omega))
      go_wp2_with fail
      refine HT.out.mono ?_
      rintro e w8 ⟨a8, n8, c8, rfl, hN8, hb8⟩
      rw [strip1_rootD] at hN8
      have K8 := hid (K7.out.below hb8)
      have HB8 := hid (Below.then' HB7.out hb8 (Nat.le_refl _))
      have hwx : w.heap.size + 1 < w5.heap.size := K7.out.lt
      have HNN : Hid (NewK w (w8.setCell ⟨w.heap.size + 1, 0, none⟩ (.slice a8 n8 c8)) (.slice a8 n8 c8) (layT (rootD (dropF t.lv t k)))) := (NrK.to hN8 (only_set (R := fun y => y = w.heap.size + 1) rfl _) (fun y hy _ e => by have := hy.1; omega)).mono (fun y hy hl => ⟨by have := hy.1; omega, hl⟩)
      have e0 := K8.out.cell (j := 0) rfl
      have e1 := K8.out.free 0
      have d1 := (K8.out.set 0 (.slice a8 n8 c8)).cell (j := 0) rfl
      clear hN8 hb8 HT
      go_wp2
      refine bodyPost_ret (v := .tuple #[.agg #[.slice a8 n8 c8], .bool true]) ?_ rfl ?_
      · refine results_tree2 rfl _ _ _ rfl rfl ?_
        exact d1
      · rw [HR3.out]; exact ⟨_, _, _, rfl, HNN.out, HNO.out _ _ HB8.out⟩
end Go.Proofs.YtpgogpphobafoabDoor
/-
  The trees that the laws draw: some trees that are not too large.
-/
namespace Go.Proofs.YtpgogpphobafoabDoor
open Go.RowKit
set_option maxHeartbeats 4000000 in
theorem val_any (g : Nat) (w : World) (h : Cu w g) : Calls Tryd.prog 64 #[.pointer (some ⟨g, 0, none⟩)] w fun e w' => (∃ s : ByteArray, e = .returned (.string s)) ∧ w.grownBy w' (some g) ∧ Cu w' g := by
  have HC := hid h
  clear h
  go_enter Tryd.func64, Tryd.ntmps64
  go_wp2_with fail
  refine (below_any g 12 w HC.out (by omega) (by omega)).mono ?_
  rintro e w1 ⟨⟨x, rfl, hx0, hx1⟩, hg1, hc1⟩
  have HG1 := hid hg1
  have HC1 := hid hc1
  clear hg1 hc1 HC
  by_cases h0 : x = 0
  · subst h0
    clear hx0 hx1
    go_wp2
    go_ret
    exact ⟨⟨_, rfl⟩, HG1.out, HC1.out⟩
  · by_cases h1 : x = 1
    · subst h1
      clear hx0 hx1 h0
      have hmk := made_any 60 60 (by omega) (by omega)
      have hst := run_str (rd_made w1 60 (by omega))
      generalize strOf (List.replicate 60 0) = s6 at hst
      go_wp2
      go_ret
      exact ⟨⟨_, rfl⟩, grownBy_trans HG1.out (grownBy_alloc _ _ _), HC1.out.alloc _⟩
    · go_wp2_with fail
      refine (below_any g 50 w1 HC1.out (by omega) (by omega)).mono ?_
      rintro e w2 ⟨⟨y, rfl, hy0, hy1⟩, hg2, hc2⟩
      have HG2 := hid (grownBy_trans HG1.out hg2)
      have HC2 := hid hc2
      clear hg2 hc2 HG1 HC1
      go_wp2_with fail
      refine (numText_any y w2 hy0 (by omega)).mono ?_
      rintro e w3 ⟨⟨s, rfl, hs⟩, hb3⟩
      have HG3 := hid (grownBy_trans HG2.out (grown_of_below hb3 _))
      have HC3 := hid (HC2.out.below hb3)
      clear hb3 HG2 HC2
      go_wp2
      go_ret
      exact ⟨⟨_, rfl⟩, HG3.out, HC3.out⟩
/-- A drawn tree: some small list of nodes in blocks that are new and not the cursor's. -/
structure Tw (w v : World) (g tb S : Nat) (a : Option Addr) (n c : Nat) (ns : List NB) : Prop where
  gr : w.grownBy v (some g)
  cu : Cu v g
  bk : Bk v tb 84 [.slice a n c]
  nr : NrK v (fun y => tb < y ∧ y < S) (.slice a n c) ns
  sm : smallK ns ∧ ns.length ≤ 100000
  ng : g < w.heap.size
  nb : w.heap.size ≤ tb
  sz : S ≤ v.heap.size
theorem Tw.lt {w v : World} {g tb S : Nat} {a : Option Addr} {n c : Nat} {ns : List NB} (h : Tw w v g tb S a n c ns) : tb < v.heap.size := h.bk.lt
/-- What touches the cursor alone, or makes new blocks. -/
theorem Tw.step {w v v' : World} {g tb S : Nat} {a : Option Addr} {n c : Nat} {ns : List NB} (h : Tw w v g tb S a n c ns) (hg : v.grownBy v' (some g)) (hc : Cu v' g) : Tw w v' g tb S a n c ns := by
  have hon : Only (fun y => y = g) v v' := only_of_grown hg (fun k e => by cases e; rfl)
  exact ⟨grownBy_trans h.gr hg, hc, h.bk.to hon (by have := h.ng; have := h.nb; omega), h.nr.to hon (fun y hy _ e => by have := h.ng; have := h.nb; have := hy.1; omega), h.sm, h.ng, h.nb, Nat.le_trans h.sz hg.size⟩
theorem Tw.below {w v v' : World} {g tb S : Nat} {a : Option Addr} {n c : Nat} {ns : List NB} (h : Tw w v g tb S a n c ns) (hb : Below v.heap.size v v') : Tw w v' g tb S a n c ns := h.step (grown_of_below hb _) (h.cu.below hb)
theorem small_smallN {ns : List NB} (h : smallK ns ∧ ns.length ≤ 100000) : smallN ns ∧ ns.length ≤ 1048576 := ⟨fun i hi => by have := h.1 i hi; omega, by have := h.2; omega⟩
/-- Another tree is stored. -/
theorem Tw.put {w v v' : World} {g tb S : Nat} {a a' : Option Addr} {n c n' c' : Nat} {ns ns' : List NB} (h : Tw w v g tb S a n c ns) (hb : Below v.heap.size v v') (hN : NewK v v' (.slice a' n' c') ns') (hs : smallK ns' ∧ ns'.length ≤ 100000) : Tw w (v'.setCell ⟨tb, 0, none⟩ (.slice a' n' c')) g tb v'.heap.size a' n' c' ns' := by
  have h2 := h.below hb
  have hlt := h.lt
  have hsz := h.gr.size
  have hon : Only (fun y => y = tb) v' (v'.setCell ⟨tb, 0, none⟩ (.slice a' n' c')) := only_set (R := fun y => y = tb) rfl _
  refine ⟨⟨h2.gr.os, h2.gr.tape, h2.gr.output, by simp [World.setCell]; exact h2.gr.size, fun i hi hne => (Below.heap_setCell _ _ _ _ (show i ≠ tb by have := h.nb; omega)).trans (h2.gr.block i hi hne)⟩, ?_, h2.bk.set 0 _, ?_, hs, h.ng, h.nb, by simp [World.setCell]⟩
  · exact h2.cu.set _ _ _ (by have := h.ng; have := h.nb; omega)
  · exact (NrK.to hN hon (fun y hy _ e => by have := hy.1; omega)).mono (fun y hy hl => ⟨by have := hy.1; omega, by simpa [World.setCell] using hl⟩)
theorem Tw.put' {w v : World} {g tb S : Nat} {a a' : Option Addr} {n c n' c' : Nat} {ns ns' : List NB} (h : Tw w v g tb S a n c ns) (hN : NrK v (fun y => tb < y) (.slice a' n' c') ns') (hs : smallK ns' ∧ ns'.length ≤ 100000) : Tw w (v.setCell ⟨tb, 0, none⟩ (.slice a' n' c')) g tb v.heap.size a' n' c' ns' := by
  have hon : Only (fun y => y = tb) v (v.setCell ⟨tb, 0, none⟩ (.slice a' n' c')) := only_set (R := fun y => y = tb) rfl _
  refine ⟨⟨h.gr.os, h.gr.tape, h.gr.output, by simp [World.setCell]; exact h.gr.size, fun i hi hne => (Below.heap_setCell _ _ _ _ (show i ≠ tb by have := h.nb; omega)).trans (h.gr.block i hi hne)⟩, ?_, h.bk.set 0 _, ?_, hs, h.ng, h.nb, by simp [World.setCell]⟩
  · exact h.cu.set _ _ _ (by have := h.ng; have := h.nb; omega)
  · exact (hN.to hon (fun y hy _ e => by omega)).mono (fun y hy hl => ⟨hy, by simpa [World.setCell] using hl⟩)
theorem Tw.alloc {w v : World} {g tb S : Nat} {a : Option Addr} {n c : Nat} {ns : List NB} (h : Tw w v g tb S a n c ns) (o : Obj) : Tw w (v.alloc o) g tb S a n c ns := h.below (below_new (Below.refl _ _))
theorem Tw.drew {w v : World} {g tb S : Nat} {a : Option Addr} {n c : Nat} {ns : List NB} (h : Tw w v g tb S a n c ns) : Tw w v.drew g tb S a n c ns := h.below (below_drew _)
/-- A new box for a tree, behind the drawn one. -/
def NewB (tb S : Nat) (v : World) (x : Nat) : Prop := Bk v x 84 [.slice none 0 0] ∧ tb < x ∧ S ≤ x
theorem newB {w v : World} {g tb S : Nat} {a : Option Addr} {n c : Nat} {ns : List NB} (h : Tw w v g tb S a n c ns) : NewB tb S (v.alloc (.cells #[.slice none 0 0] 84)) v.heap.size := ⟨Bk.new v 84 [.slice none 0 0], h.lt, h.sz⟩
theorem NewB.below {tb S x : Nat} {v v' : World} (h : NewB tb S v x) (hb : Below v.heap.size v v') : NewB tb S v' x := ⟨h.1.below hb, h.2⟩
theorem tr_grown {v v' : World} {x g W : Nat} {T : TypeId} {vs : List Value} (h : Bk v x T vs) (hg : v.grownBy v' (some g)) (hn : g < W) (hx : W ≤ x := by omega) : Bk v' x T vs := h.to (only_of_grown hg (R := fun y => y = g) (fun k e => by cases e; rfl)) (by omega)
theorem NewB.grown {tb S x g : Nat} {w v v' u : World} {a : Option Addr} {n c : Nat} {ns : List NB} (h : NewB tb S v x) (hg : v.grownBy v' (some g)) (hD : Tw w u g tb S a n c ns) : NewB tb S v' x := ⟨tr_grown h.1 hg hD.ng (by have := hD.nb; have := h.2.1; omega), h.2⟩
/-- What stands behind 'next, ok := TreePut(..)'. -/
def PutR (w : World) (g S : Nat) (a : Option Addr) (n c : Nat) (ns : List NB) (x z : Value) (v : World) : Prop := ∃ (nb : Nat) (b : Bool) (a5 : Option Addr) (n5 c5 : Nat) (ns5 : List NB), x = .pointer (some ⟨nb, 0, none⟩) ∧ z = .bool b ∧ Hid (Tw w v g (w.heap.size + 1) S a n c ns) ∧ Hid (Bk v nb 84 [.slice a5 n5 c5] ∧ w.heap.size + 1 < nb) ∧ Hid (NrK v (fun y => w.heap.size + 1 < y) (.slice a5 n5 c5) ns5) ∧ Hid (smallK ns5 ∧ ns5.length ≤ 100000) ∧ Hid (Bk v w.heap.size 84 [.slice none 0 0])
theorem fin2 {w v v' : World} {g S : Nat} {a a5 : Option Addr} {n c n5 c5 : Nat} {ns ns5 : List NB} {ok : Bool} (D : Tw w v g (w.heap.size + 1) S a n c ns) (R : Bk v w.heap.size 84 [.slice none 0 0]) (hN : NewK v v' (.slice a5 n5 c5) ns5) (hb : Below v.heap.size v v') (hs : smallK ns5 ∧ ns5.length ≤ 100000) : PutR w g S a n c ns (.pointer (some ⟨v'.heap.size, 0, none⟩)) (.bool ok) (v'.alloc (.cells #[.slice a5 n5 c5] 84)) := by
  have h4 := D.lt
  exact ⟨_, _, _, _, _, _, rfl, rfl, (D.below hb).alloc _, ⟨Bk.new v' 84 [.slice a5 n5 c5], (D.below hb).lt⟩, (NrK.below hN (below_new (Below.refl _ _))).mono (fun y hy _ => by have := hy.1; omega), hs, (R.below hb).alloc _⟩
theorem fin1 {w v v' : World} {g x S : Nat} {a a5 : Option Addr} {n c n5 c5 : Nat} {ns ns5 : List NB} {ok : Bool} (D : Tw w v g (w.heap.size + 1) S a n c ns) (R : Bk v w.heap.size 84 [.slice none 0 0]) (N : NewB (w.heap.size + 1) S v x) (hN : NewK v v' (.slice a5 n5 c5) ns5) (hb : Below v.heap.size v v') (hs : smallK ns5 ∧ ns5.length ≤ 100000) : PutR w g S a n c ns (.pointer (some ⟨x, 0, none⟩)) (.bool ok) (v'.setCell ⟨x, 0, none⟩ (.slice a5 n5 c5)) := by
  have h4 := D.lt
  have hx := N.2.1
  have hxS := N.2.2
  have hxl := N.1.lt
  have hon : Only (fun y => y = x) v' (v'.setCell ⟨x, 0, none⟩ (.slice a5 n5 c5)) := only_set (R := fun y => y = x) rfl _
  have D' := D.below hb
  have hg : v'.grownBy (v'.setCell ⟨x, 0, none⟩ (.slice a5 n5 c5)) (some x) := ⟨rfl, rfl, rfl, by simp [World.setCell], fun i _ hne => Below.heap_setCell _ _ _ _ (by intro e; exact hne (by rw [e]))⟩
  have hnb := D.nb
  refine ⟨_, _, _, _, _, _, rfl, rfl, ?_, ⟨(N.1.below hb).set 0 _, hx⟩, ?_, hs, (R.below hb).setOther (by omega) _ _⟩
  · refine ⟨⟨D'.gr.os, D'.gr.tape, D'.gr.output, by simp [World.setCell]; exact D'.gr.size, fun i hi hne => (Below.heap_setCell _ _ _ _ (show i ≠ x by omega)).trans (D'.gr.block i hi hne)⟩, D'.cu.set _ _ _ (by have := D.ng; omega), D'.bk.setOther (by omega) _ _, ?_, D.sm, D.ng, D.nb, by simp [World.setCell]; exact D'.sz⟩
    exact D'.nr.to hon (fun y hy _ e => by have := hy.2; omega)
  · exact (NrK.to hN hon (fun y hy _ e => by have := hy.1; omega)).mono (fun y hy _ => by have := hy.1; omega)
/-- What a drawn tree is. -/
def TwPost (w : World) (g : Nat) (e : Ending) (w' : World) : Prop := ∃ a n c ns, e = .returned (.agg #[.slice a n c]) ∧ w.grownBy w' (some g) ∧ Cu w' g ∧ NrK w' (fun y => w.heap.size ≤ y ∧ y < w'.heap.size) (.slice a n c) ns ∧ smallK ns ∧ ns.length ≤ 100000
set_option maxHeartbeats 4000000 in
set_option maxRecDepth 20000 in
theorem drawT_any (g : Nat) (most : Nat) (w : World) (h : Cu w g) (hm : most ≤ 100) : Calls Tryd.prog 62 #[.pointer (some ⟨g, 0, none⟩), .int .i64 (most : Int)] w fun e w' => TwPost w g e w' := by
  have hng := h.lt
  have HR0 := hid (Bk.new w 84 [.slice none 0 0])
  have KT : Hid (Bk ((w.alloc (.cells #[.slice none 0 0] 84)).alloc (.cells #[.slice none 0 0] 84)) (w.heap.size + 1) 84 [.slice none 0 0]) := by
    have := Bk.new (w.alloc (.cells #[.slice none 0 0] 84)) 84 [.slice none 0 0]
    show Bk _ _ _ _
    simpa using this
  have D0 : Hid (Tw w ((w.alloc (.cells #[.slice none 0 0] 84)).alloc (.cells #[.slice none 0 0] 84)) g (w.heap.size + 1) (w.heap.size + 2) none 0 0 []) := ⟨grownBy_trans (grownBy_alloc _ _ _) (grownBy_alloc _ _ _), (h.alloc _).alloc _, KT.out, nrK_nil _ _, ⟨fun i hi => by simp at hi, by simp⟩, hng, by omega, by simp⟩
  have R0 : Hid (Bk ((w.alloc (.cells #[.slice none 0 0] 84)).alloc (.cells #[.slice none 0 0] 84)) w.heap.size 84 [.slice none 0 0]) := HR0.out.alloc _
  clear h HR0 KT
  go_enter Tryd.func62, Tryd.ntmps62
  go_wp2_with fail
  refine (below_any g ((most : Int) + 1) _ D0.out.cu (by omega) (by omega)).mono ?_
  generalize (w.alloc (.cells #[.slice none 0 0] 84)).alloc (.cells #[.slice none 0 0] 84) = U at *
  rintro e w1 ⟨⟨x, rfl, hx0, hx1⟩, hg1, hc1⟩
  have D1 := hid (D0.out.step hg1 hc1)
  have R1 : Hid (Bk w1 w.heap.size 84 [.slice none 0 0]) := R0.out.to (only_of_grown hg1 (R := fun y => y = g) (fun k e => by cases e; rfl)) (by omega)
  obtain ⟨x, rfl⟩ := Int.eq_ofNat_of_zero_le hx0
  have hxm : x ≤ 100 := by omega
  clear hg1 hc1 D0 R0 hx0 hx1
  go_wp2_with fail
  go_loopw [6] (fun z wr => ∃ (j S : Nat) (a : Option Addr) (n c : Nat) (ns : List NB), j ≤ 100 ∧ z = .int .i64 (j : Int) ∧ Hid (Tw w wr g (w.heap.size + 1) S a n c ns) ∧ Hid (Bk wr w.heap.size 84 [.slice none 0 0])) (fun z _ => (intOf z).toNat)
  case atStart => exact ⟨x, _, _, _, _, _, hxm, rfl, D1.out, R1.out⟩
  case round =>
    obtain ⟨j, S, a, n, c, ns, hj, rfl, HD, HR⟩ := hrel
    by_cases hlt : 0 < j
    · have hlt' : (0 : Int) < (j : Int) := by omega
      go_wp2_with fail
      refine (below_any g 5 _ HD.out.cu (by omega) (by omega)).mono ?_
      rintro e w2 ⟨⟨y, rfl, hy0, hy1⟩, hg1, hc1⟩
      have D2 := hid (HD.out.step hg1 hc1)
      have R2 : Hid (Bk w2 w.heap.size 84 [.slice none 0 0]) := HR.out.to (only_of_grown hg1 (R := fun y => y = g) (fun k e => by cases e; rfl)) (by omega)
      clear hg1 hc1 HD HR
      by_cases hy : y = 0
      · subst hy
        have t0 := D2.out.bk.cell (j := 0) rfl
        have HFIN : Hid (∀ (w3 w4 : World) (k : ByteArray) (a4 : Option Addr) (n4 c4 : Nat), w2.drew.grownBy w3 (some g) → Cu w3 g → NewK w3 w4 (.slice a4 n4 c4) ((dropV ns k).getD []) → Below w3.heap.size w3 w4 → Tw w (w4.setCell ⟨w.heap.size + 1, 0, none⟩ (.slice a4 n4 c4)) g (w.heap.size + 1) w4.heap.size a4 n4 c4 ((dropV ns k).getD []) ∧ Bk (w4.setCell ⟨w.heap.size + 1, 0, none⟩ (.slice a4 n4 c4)) w.heap.size 84 [.slice none 0 0]) := by
          intro w3 w4 k a4 n4 c4 hg hc hN hb
          refine ⟨(D2.out.drew.step hg hc).put hb hN (dropV_small ns k), ?_⟩
          have r3 : Bk w3 w.heap.size 84 [.slice none 0 0] := (R2.out.below (below_drew _)).to (only_of_grown hg (R := fun y => y = g) (fun k e => by cases e; rfl)) (by omega)
          exact (r3.below hb).setOther (by omega) _ _
        go_wp2_with fail
        go_region_with (first
          | (go_at_call 63; refine (key_any g _ D2.out.drew.cu).mono ?_; rintro e w3 ⟨⟨k, rfl, hk⟩, hg3, hc3⟩; have D3 := D2.out.drew.step hg3 hc3; have t3 := D3.bk.cell (j := 0) rfl)
          | (go_at_call 78; refine (specTreeDrop_any ns (small_smallN D3.sm).2 (small_smallN D3.sm).1 _ a n c k _ D3.nr.nr).mono ?_; rintro e w4 ⟨a4, n4, c4, rfl, hN4, hb4⟩; have t4 := (D3.below hb4).bk.cell (j := 0) rfl; have tf4 := (D3.below hb4).bk.free 0))
        all_goals
          have HF := hid (HFIN.out _ _ _ _ _ _ hg3 hc3 hN4 hb4)
          clear HFIN t0 D3 t3 hg3 hc3 hN4 hb4
          go_wp2
          go_roundw
          case rel => exact ⟨j - 1, _, _, _, _, _, by omega, by go_num, HF.out.1, HF.out.2⟩
          case measure => simp [intOf]; omega
      · have hy' : ¬ y = 0 := hy
        have t0 := D2.out.bk.cell (j := 0) rfl
        have t0a := (D2.out.alloc (.cells #[.slice none 0 0] 84)).bk.cell (j := 0) rfl
        go_wp2_with fail
        go_cut [7, 8] (fun x z v => PutR w g S a n c ns x z v)
        case first =>
          go_region_with (first
            | (go_at_call 63; refine (key_any g _ (by first | exact D2.out.drew.cu | exact (D2.out.drew.alloc _).cu)).mono ?_; rintro e w3 ⟨⟨k, rfl, hk⟩, hg3, hc3⟩; have D3 : Tw w w3 g (w.heap.size + 1) S a n c ns := (by first | exact D2.out.drew.step hg3 hc3 | exact (D2.out.drew.alloc _).step hg3 hc3); have t3 := D3.bk.cell (j := 0) rfl; have t3a := (D3.alloc (.cells #[.slice none 0 0] 84)).bk.cell (j := 0) rfl; have R3 : Bk w3 w.heap.size 84 [.slice none 0 0] := (by first | exact tr_grown (R2.out.below (below_drew _)) hg3 hng | exact tr_grown ((R2.out.below (below_drew _)).alloc _) hg3 hng); try (have n3 : NewB (w.heap.size + 1) S w3 w2.heap.size := (newB D2.out.drew).grown hg3 D2.out.drew))
            | (go_at_call 64; refine (val_any g _ (by first | exact D3.cu | exact (D3.alloc _).cu)).mono ?_; rintro e w4 ⟨⟨v, rfl⟩, hg4, hc4⟩; have D4 : Tw w w4 g (w.heap.size + 1) S a n c ns := (by first | exact D3.step hg4 hc4 | exact (D3.alloc _).step hg4 hc4); have t4 := D4.bk.cell (j := 0) rfl; have t4a := (D4.alloc (.cells #[.slice none 0 0] 84)).bk.cell (j := 0) rfl; have R4 : Bk w4 w.heap.size 84 [.slice none 0 0] := (by first | exact tr_grown R3 hg4 hng | exact tr_grown (R3.alloc _) hg4 hng); first | (have n4 := n3.grown hg4 D3) | (have n4 := (newB D3).grown hg4 D3) | skip)
            | (go_at_call 79; refine (specTreePut_any ns (small_smallN D4.sm).2 (small_smallN D4.sm).1 _ a n c k v _ (by first | exact D4.nr.nr | exact (D4.alloc _).nr.nr)).mono ?_; rintro e w5 ⟨a5, n5, c5, rfl, hN5, hb5⟩; first | (have m5 := n4.below hb5; have q5 := m5.1.cell (j := 0) rfl; have f5 := m5.1.free 0) | (have m5 := (newB D4).below hb5; have q5 := m5.1.cell (j := 0) rfl; have f5 := m5.1.free 0) | skip))
          all_goals (go_wp2_with fail; go_meet)
          all_goals first
            | exact fin2 D4 R4 hN5 hb5 (putV_small ns k v)
            | exact fin1 D4 R4 n4 hN5 hb5 (putV_small ns k v)
            | exact fin1 (D4.alloc _) (R4.alloc _) (newB D4) hN5 hb5 (putV_small ns k v)
        case rest =>
          obtain ⟨nb, b, a5, n5, c5, ns5, rfl, rfl, HD5, HB5, HN5, HS5, HR5⟩ := hcut
          clear t0 t0a
          cases b with
          | false =>
            go_wp2
            go_roundw
            case rel => exact ⟨j - 1, S, a, n, c, ns, by omega, by go_num, HD5.out, HR5.out⟩
            case measure => simp [intOf]; omega
          | true =>
            have q0 := HB5.out.1.cell (j := 0) rfl
            have q1 := HD5.out.bk.cell (j := 0) rfl
            have q2 := HD5.out.bk.free 0
            have HD6 := hid (HD5.out.put' HN5.out HS5.out)
            have HR6 : Hid (Bk _ w.heap.size 84 [.slice none 0 0]) := HR5.out.setOther (b := w.heap.size + 1) (by omega) 0 (.slice a5 n5 c5)
            go_wp2
            go_roundw
            case rel => exact ⟨j - 1, _, a5, n5, c5, ns5, by omega, by go_num, HD6.out, HR6.out⟩
            case measure => simp [intOf]; omega
    · obtain rfl : j = 0 := by omega
      have t0 := HD.out.bk.cell (j := 0) rfl
      have r0 := HR.out.cell (j := 0) rfl
      have rf := HR.out.free 0
      have d1 := (HR.out.set 0 (.slice a n c)).cell (j := 0) rfl
      have HFIN : Hid (TwPost w g (.returned (.agg #[.slice a n c])) (wr.setCell ⟨w.heap.size, 0, none⟩ (.slice a n c))) := by
        have hon : Only (fun y => y = w.heap.size) wr (wr.setCell ⟨w.heap.size, 0, none⟩ (.slice a n c)) := only_set (R := fun y => y = w.heap.size) rfl _
        refine ⟨a, n, c, ns, rfl, ⟨HD.out.gr.os, HD.out.gr.tape, HD.out.gr.output, by simp [World.setCell]; exact HD.out.gr.size, fun i hi hne => (Below.heap_setCell _ _ _ _ (show i ≠ w.heap.size by omega)).trans (HD.out.gr.block i hi hne)⟩, HD.out.cu.set _ _ _ (by omega), ?_, HD.out.sm⟩
        exact (HD.out.nr.to hon (fun y hy _ e => by have := hy.1; omega)).mono (fun y hy hl => ⟨by have := hy.1; omega, hl⟩)
      clear HD HR
      go_wp2
      refine bodyPost_ret (v := .agg #[.slice a n c]) ?_ rfl ?_
      · refine results_tree1 rfl _ _ _ rfl ?_
        exact d1
      · exact HFIN.out
end Go.Proofs.YtpgogpphobafoabDoor
/-
  l01Raw: the cursor stays one.
-/
namespace Go.Proofs.YtpgogpphobafoabDoor
open Go.RowKit
set_option maxHeartbeats 1600000 in
theorem raw_cu (g : Nat) (w : World) (h : Cu w g) :
    Calls Tryd.prog 51 #[.pointer (some ⟨g, 0, none⟩)] w fun e w' => (∃ x : Int, e = .returned (.int .i64 x) ∧ -9223372036854775808 ≤ x ∧ x ≤ 9223372036854775807) ∧ w.grownBy w' (some g) ∧ Cu w' g := by
  have HC := hid h
  clear h
  go_enter Tryd.func51, Tryd.ntmps51
  go_wp2_with fail
  refine (below_any g 10 w HC.out (by omega) (by omega)).mono ?_
  rintro e w1 ⟨⟨k, rfl, hk0, hk1⟩, hg1, hc1⟩
  have HG1 := hid hg1
  have HC1 := hid hc1
  clear hg1 hc1
  rcases (by omega : k < 4 ∨ k = 4 ∨ k = 5 ∨ k = 6 ∨ k = 7 ∨ k = 8 ∨ k = 9) with h | rfl | rfl | rfl | rfl | rfl | rfl
  · go_wp2_with fail
    refine (below_any g 20 w1 HC1.out (by omega) (by omega)).mono ?_
    rintro e w2 ⟨⟨x, rfl, hx0, hx1⟩, hg1, hc1⟩
    have HG2 := hid (grownBy_trans HG1.out hg1)
    have HC2 := hid hc1
    clear hg1 hc1
    go_wp2
    go_ret
    exact ⟨⟨_, rfl, by omega, by omega⟩, HG2.out, HC2.out⟩
  · go_wp2_with fail
    refine (below_any g 3 w1 HC1.out (by omega) (by omega)).mono ?_
    rintro e w2 ⟨⟨x, rfl, hx0, hx1⟩, hg1, hc1⟩
    have HG2 := hid (grownBy_trans HG1.out hg1)
    have HC2 := hid hc1
    clear hg1 hc1
    go_wp2
    go_ret
    exact ⟨⟨_, rfl, by omega, by omega⟩, HG2.out, HC2.out⟩
  · go_wp2_with fail
    refine (below_any g 2 w1 HC1.out (by omega) (by omega)).mono ?_
    rintro e w2 ⟨⟨x, rfl, hx0, hx1⟩, hg1, hc1⟩
    have HG2 := hid (grownBy_trans HG1.out hg1)
    have HC2 := hid hc1
    clear hg1 hc1
    go_wp2
    go_ret
    exact ⟨⟨_, rfl, by omega, by omega⟩, HG2.out, HC2.out⟩
  · go_wp2_with fail
    refine (below_any g 2 w1 HC1.out (by omega) (by omega)).mono ?_
    rintro e w2 ⟨⟨x, rfl, hx0, hx1⟩, hg1, hc1⟩
    have HG2 := hid (grownBy_trans HG1.out hg1)
    have HC2 := hid hc1
    clear hg1 hc1
    go_wp2
    go_ret
    exact ⟨⟨_, rfl, by omega, by omega⟩, HG2.out, HC2.out⟩
  · go_wp2_with fail
    refine (below_any g 2 w1 HC1.out (by omega) (by omega)).mono ?_
    rintro e w2 ⟨⟨x, rfl, hx0, hx1⟩, hg1, hc1⟩
    have HG2 := hid (grownBy_trans HG1.out hg1)
    have HC2 := hid hc1
    clear hg1 hc1
    go_wp2
    go_ret
    exact ⟨⟨_, rfl, by omega, by omega⟩, HG2.out, HC2.out⟩
  · go_wp2_with fail
    have hgl : w1.grownBy (w1.alloc (.cells #[.int .i64 127, .int .i64 128, .int .i64 16383, .int .i64 16384, .int .i64 255, .int .i64 256, .int .i64 4096, .int .i64 4097] 3)) (some g) := grownBy_alloc w1 _ _
    have HGL := hid hgl
    clear hgl
    refine (below_any g 8 _ (HC1.out.alloc _) (by omega) (by omega)).mono ?_
    rintro e w2 ⟨⟨x, rfl, hx0, hx1⟩, hg1, hc1⟩
    have HG2 := hid (grownBy_trans (grownBy_trans HG1.out HGL.out) hg1)
    have hcl := fun k => row_kept (b := w1.heap.size) (k := k) hg1 (by simp) (by have := HC1.out.lt; omega)
    have HC2 := hid hc1
    clear hg1 hc1
    rcases (by omega : x = 0 ∨ x = 1 ∨ x = 2 ∨ x = 3 ∨ x = 4 ∨ x = 5 ∨ x = 6 ∨ x = 7) with rfl | rfl | rfl | rfl | rfl | rfl | rfl | rfl
    · have hc := (hcl 0).trans (by rw [World.cell?_alloc_at (hn := rfl)])
      clear hcl
      go_wp2
      go_ret
      exact ⟨⟨_, rfl, by omega, by omega⟩, HG2.out, HC2.out⟩
    · have hc := (hcl 1).trans (by rw [World.cell?_alloc_at (hn := rfl)])
      clear hcl
      go_wp2
      go_ret
      exact ⟨⟨_, rfl, by omega, by omega⟩, HG2.out, HC2.out⟩
    · have hc := (hcl 2).trans (by rw [World.cell?_alloc_at (hn := rfl)])
      clear hcl
      go_wp2
      go_ret
      exact ⟨⟨_, rfl, by omega, by omega⟩, HG2.out, HC2.out⟩
    · have hc := (hcl 3).trans (by rw [World.cell?_alloc_at (hn := rfl)])
      clear hcl
      go_wp2
      go_ret
      exact ⟨⟨_, rfl, by omega, by omega⟩, HG2.out, HC2.out⟩
    · have hc := (hcl 4).trans (by rw [World.cell?_alloc_at (hn := rfl)])
      clear hcl
      go_wp2
      go_ret
      exact ⟨⟨_, rfl, by omega, by omega⟩, HG2.out, HC2.out⟩
    · have hc := (hcl 5).trans (by rw [World.cell?_alloc_at (hn := rfl)])
      clear hcl
      go_wp2
      go_ret
      exact ⟨⟨_, rfl, by omega, by omega⟩, HG2.out, HC2.out⟩
    · have hc := (hcl 6).trans (by rw [World.cell?_alloc_at (hn := rfl)])
      clear hcl
      go_wp2
      go_ret
      exact ⟨⟨_, rfl, by omega, by omega⟩, HG2.out, HC2.out⟩
    · have hc := (hcl 7).trans (by rw [World.cell?_alloc_at (hn := rfl)])
      clear hcl
      go_wp2
      go_ret
      exact ⟨⟨_, rfl, by omega, by omega⟩, HG2.out, HC2.out⟩
  · go_wp2_with fail
    refine (below_any g 65536 w1 HC1.out (by omega) (by omega)).mono ?_
    rintro e w2 ⟨⟨x, rfl, hx0, hx1⟩, hg1, hc1⟩
    have HG2 := hid (grownBy_trans HG1.out hg1)
    have HC2 := hid hc1
    clear hg1 hc1
    go_wp2
    go_ret
    exact ⟨⟨_, rfl, by omega, by omega⟩, HG2.out, HC2.out⟩
end Go.Proofs.YtpgogpphobafoabDoor
/-
  l02AnyVal: some text.
-/
namespace Go.Proofs.YtpgogpphobafoabDoor
open Go.RowKit
set_option maxHeartbeats 4000000 in
theorem anyValP_any (g : Nat) (w : World) (h : Cu w g) : Calls Tryd.prog 50 #[.pointer (some ⟨g, 0, none⟩)] w fun e w' => (∃ s : ByteArray, e = .returned (.string s)) ∧ w.grownBy w' (some g) ∧ Cu w' g := by
  have HC := hid h
  clear h
  go_enter Tryd.func50, Tryd.ntmps50
  go_wp2_with fail
  refine (below_any g 14 w HC.out (by omega) (by omega)).mono ?_
  rintro e w1 ⟨⟨x, rfl, hx0, hx1⟩, hg1, hc1⟩
  have HG1 := hid hg1
  have HC1 := hid hc1
  clear hg1 hc1 HC
  by_cases h0 : x = 0
  · subst h0
    have hmk := made_any 61 61 (by omega) (by omega)
    have hst := run_str (rd_made w1 61 (by omega))
    generalize strOf (List.replicate 61 0) = s6 at hst
    go_wp2
    go_ret
    exact ⟨⟨_, rfl⟩, grownBy_trans HG1.out (grownBy_alloc _ _ _), HC1.out.alloc _⟩
  · go_wp2_with fail
    refine (val_any g w1 HC1.out).mono ?_
    rintro e w2 ⟨⟨s, rfl⟩, hg2, hc2⟩
    have HG2 := hid (grownBy_trans HG1.out hg2)
    have HC2 := hid hc2
    clear hg2 hc2
    go_wp2
    go_ret
    exact ⟨⟨_, rfl⟩, HG2.out, HC2.out⟩
end Go.Proofs.YtpgogpphobafoabDoor
/-
  Slices of strings: what is read of one; the law's helpers over them; SplitsOk of the program and of the specification.
-/
namespace Go.Proofs.YtpgogpphobafoabDoor
open Go.RowKit

/-- The slice value '.slice a n c' has in the world w the strings ss. -/
def Sd (w : World) (a : Option Addr) (n c : Nat) (ss : List ByteArray) : Prop :=
  n = ss.length ∧ n ≤ c ∧ c ≤ 9223372036854775807 ∧ (∀ i : Nat, (ss[i]?.getD ⟨#[]⟩).size ≤ 9223372036854775807) ∧
    (0 < n → ∃ b off, a = some ⟨b, off, none⟩ ∧ b < w.heap.size ∧ ∀ i, i < n → w.cell? ⟨b, off + i, none⟩ = some (.string (ss[i]?.getD ⟨#[]⟩)))
theorem Sd.kept {w w' : World} {a : Option Addr} {n c : Nat} {ss : List ByteArray} (h : Sd w a n c ss) (hB : Below w.heap.size w w') : Sd w' a n c ss := by
  obtain ⟨h1, h2, h3, h4, h5⟩ := h
  refine ⟨h1, h2, h3, h4, fun hp => ?_⟩
  obtain ⟨b, off, rfl, hb, hc⟩ := h5 hp
  refine ⟨b, off, rfl, Nat.lt_of_lt_of_le hb hB.size, fun i hi => ?_⟩
  rw [hB.cell (p := ⟨b, off + i, none⟩) hb]
  exact hc i hi
/-- The list is right from place k on: keys, each above the one ahead. -/
def sOkF (ss : List ByteArray) : Nat → Nat → Bool
  | 0, _ => true
  | f + 1, k => kOk (ss[k]?.getD ⟨#[]⟩) && (decide (k = 0) || Op.bytesLess (ss[k - 1]?.getD ⟨#[]⟩).toList (ss[k]?.getD ⟨#[]⟩).toList) && sOkF ss f (k + 1)
def sOk (ss : List ByteArray) : Bool := decide (ss.length ≤ 3) && sOkF ss ss.length 0
theorem sOkF_no (ss : List ByteArray) (f k : Nat) (h : kOk (ss[k]?.getD ⟨#[]⟩) = false) : sOkF ss (f + 1) k = false := by simp [sOkF, h]
theorem sOkF_0 (ss : List ByteArray) (f : Nat) (h : kOk (ss[0]?.getD ⟨#[]⟩) = true) : sOkF ss (f + 1) 0 = sOkF ss f 1 := by simp only [sOkF, h]; simp
theorem sOkF_s (ss : List ByteArray) (f j : Nat) (h : kOk (ss[j + 1]?.getD ⟨#[]⟩) = true) (b : Bool) (h2 : Op.bytesLess (ss[j]?.getD ⟨#[]⟩).toList (ss[j + 1]?.getD ⟨#[]⟩).toList = b) : sOkF ss (f + 1) (j + 1) = (b && sOkF ss f (j + 1 + 1)) := by
  simp only [sOkF, h, Nat.add_sub_cancel, h2]; simp
set_option maxHeartbeats 4000000 in
theorem implKeysRise_any (a : Option Addr) (n c : Nat) (ss : List ByteArray) (w : World) (hn0 : n = ss.length) (hm : c ≤ 9223372036854775807) (hc : n ≤ c)
    (hcell : 0 < n → ∃ b off, a = some ⟨b, off, none⟩ ∧ ∀ i, i < n → w.cell? ⟨b, off + i, none⟩ = some (.string (ss[i]?.getD ⟨#[]⟩))) :
    Calls Tryd.prog 65 #[.slice a n c] w fun e w' => e = .returned (.bool (sOkF ss n 0)) ∧ w = w' := by
  have HN : Hid (n = ss.length) := hn0
  clear hn0
  go_enter Tryd.func65, Tryd.ntmps65
  go_wp2_with fail
  go_loopw [7] (fun i wr => ∃ k : Nat, k ≤ n ∧ i = .int .i64 k ∧ wr = w ∧ Hid (sOkF ss (n - k) k = sOkF ss n 0)) (fun i _ => n - (intOf i).toNat)
  case atStart => exact ⟨0, Nat.zero_le _, rfl, rfl, rfl⟩
  case round =>
    obtain ⟨k, hk, rfl, rfl, HS⟩ := hrel
    by_cases hlt : k < n
    · obtain ⟨b, off, ha, hcell⟩ := hcell (by omega)
      have hck := hcell k hlt
      have hlt' : (k : Int) < (n : Int) := by omega
      have e1 : n - k = (n - (k + 1)) + 1 := by omega
      have HE1 := hid e1
      clear e1
      rw [ha]
      rw [HE1.out] at HS
      cases k with
      | zero =>
        clear hcell
        rw [Nat.add_zero] at hck
        generalize hcur : ss[0]?.getD ⟨#[]⟩ = cur at hck
        have HC := hid hcur
        clear hcur
        go_wp2_with fail
        refine (implKeyOk_any cur _).mono ?_
        rintro e w1 ⟨rfl, rfl⟩
        cases h1 : kOk cur
        · have HZ : Hid (sOkF ss n 0 = false) := by show sOkF ss n 0 = false; rw [← HS.out]; exact sOkF_no ss _ _ (by rw [HC.out]; exact h1)
          go_wp2
          go_ret
          exact ⟨by rw [HZ.out]; rfl, rfl⟩
        · have HZ : Hid (sOkF ss (n - 1) 1 = sOkF ss n 0) := by
            show sOkF ss (n - 1) 1 = sOkF ss n 0
            rw [← HS.out]; exact (sOkF_0 ss _ (by rw [HC.out]; exact h1)).symm
          go_wp2
          go_roundw
          case rel => exact ⟨1, by omega, by go_num, by trivial, HZ⟩
          case measure => simp [intOf]; omega
      | succ j =>
        have hcj := hcell j (by omega)
        have hj1 : (0 : Int) < (j : Int) + 1 := by omega
        clear hcell
        generalize hcur : ss[j + 1]?.getD ⟨#[]⟩ = cur at hck
        generalize hprev : ss[j]?.getD ⟨#[]⟩ = prev at hcj
        have HC := hid hcur
        have HP := hid hprev
        clear hcur hprev
        go_wp2_with fail
        refine (implKeyOk_any cur _).mono ?_
        rintro e w1 ⟨rfl, rfl⟩
        cases h1 : kOk cur
        · have HZ : Hid (sOkF ss n 0 = false) := by show sOkF ss n 0 = false; rw [← HS.out]; exact sOkF_no ss _ _ (by rw [HC.out]; exact h1)
          go_wp2
          go_ret
          exact ⟨by rw [HZ.out]; rfl, rfl⟩
        · have HG : Hid (∀ b, Op.bytesLess prev.toList cur.toList = b → (b && sOkF ss (n - (j + 1 + 1)) (j + 1 + 1)) = sOkF ss n 0) := by
            intro b hb
            rw [← HS.out]
            exact (sOkF_s ss _ j (by rw [HC.out]; exact h1) b (by rw [HP.out, HC.out]; exact hb)).symm
          rcases tri prev cur with ⟨t1, t2, t3, t4⟩ | rfl | ⟨t1, t2, t3, t4⟩
          · have HZ : Hid (sOkF ss (n - (j + 1 + 1)) (j + 1 + 1) = sOkF ss n 0) := by show sOkF ss (n - (j + 1 + 1)) (j + 1 + 1) = sOkF ss n 0; have := HG.out _ t1; simpa using this
            go_wp2
            go_roundw
            case rel => exact ⟨j + 1 + 1, by omega, by go_num, by trivial, HZ⟩
            case measure => simp [intOf]; omega
          · have t1 := less_irrefl prev.toList
            have HZ : Hid (sOkF ss n 0 = false) := by show sOkF ss n 0 = false; have := HG.out _ t1; simpa using this.symm
            go_wp2
            go_ret
            exact ⟨by rw [HZ.out]; rfl, rfl⟩
          · have HZ : Hid (sOkF ss n 0 = false) := by show sOkF ss n 0 = false; have := HG.out _ t1; simpa using this.symm
            go_wp2
            go_ret
            exact ⟨by rw [HZ.out]; rfl, rfl⟩
    · have hk' : k = n := by omega
      have HZ : Hid (sOkF ss n 0 = true) := by show sOkF ss n 0 = true; rw [← HS.out, hk', Nat.sub_self]; rfl
      clear hk' hcell
      go_wp2
      go_ret
      exact ⟨by rw [HZ.out]; rfl, rfl⟩
end Go.Proofs.YtpgogpphobafoabDoor
/-
  Pages as plain data; PageOk of the specification.
-/
namespace Go.Proofs.YtpgogpphobafoabDoor
open Go.RowKit
/-- A page: its keys, values and kids. -/
structure PG where
  keys : List ByteArray
  vals : List ByteArray
  kids : List Int
def kidOk (k : Int) : Bool := decide (2 ≤ k) && decide (k < 400)
def pgLeaf (p : PG) : Bool := p.vals.all vOk && (decide (1 ≤ p.keys.length) && decide (p.keys.length ≤ 4) && decide (p.vals.length = p.keys.length))
def pgBranch (p : PG) : Bool := p.kids.all kidOk && (decide (2 ≤ p.kids.length) && decide (p.kids.length ≤ 4) && decide (p.keys.length + 1 = p.kids.length) && decide (p.vals.length = 0))
def pgOk (p : PG) : Bool := sOkF p.keys p.keys.length 0 && (if p.kids.length = 0 then pgLeaf p else pgBranch p)
theorem pgOk_leaf {p : PG} (h : sOkF p.keys p.keys.length 0 = true) (h0 : p.kids.length = 0) : pgOk p = pgLeaf p := by rw [pgOk, h, if_pos h0]; rfl
theorem pgOk_branch {p : PG} (h : sOkF p.keys p.keys.length 0 = true) (h0 : ¬ p.kids.length = 0) : pgOk p = pgBranch p := by rw [pgOk, h, if_neg h0]; rfl
theorem pgOk_no {p : PG} (h : sOkF p.keys p.keys.length 0 = false) : pgOk p = false := by rw [pgOk, h]; rfl
theorem all_take {α : Type} (l : List α) (f : α → Bool) (d : α) {k : Nat} (h : k < l.length) : (l.take (k + 1)).all f = ((l.take k).all f && f (l[k]?.getD d)) := by
  rw [List.take_succ_eq_append_getElem h, List.all_append]
  simp [h]
theorem all_no {α : Type} (l : List α) (f : α → Bool) (d : α) {k : Nat} (h : k < l.length) (hf : f (l[k]?.getD d) = false) : l.all f = false := by
  rw [List.all_eq_false]
  refine ⟨l[k], List.getElem_mem h, ?_⟩
  simp [h] at hf
  simp [hf]
theorem pgLeaf_no {p : PG} (h : p.vals.all vOk = false) : pgLeaf p = false := by rw [pgLeaf, h]; rfl
theorem pgBranch_no {p : PG} (h : p.kids.all kidOk = false) : pgBranch p = false := by rw [pgBranch, h]; rfl
/-- The slices lead to the page. -/
structure Pgr (w : World) (S : Nat → Prop) (ka : Option Addr) (kn kc : Nat) (va : Option Addr) (vn vc : Nat) (ia : Option Addr) (jn ic : Nat) (p : PG) : Prop where
  hk : Sr w S (.slice ka kn kc) p.keys
  hv : Sr w S (.slice va vn vc) p.vals
  hi : Ir w S (.slice ia jn ic) p.kids
theorem Pgr.below {w w' : World} {S : Nat → Prop} {ka : Option Addr} {kn kc : Nat} {va : Option Addr} {vn vc : Nat} {ia : Option Addr} {jn ic : Nat} {p : PG} (h : Pgr w S ka kn kc va vn vc ia jn ic p) (hb : Below w.heap.size w w') : Pgr w' S ka kn kc va vn vc ia jn ic p := ⟨h.hk.below hb, h.hv.below hb, h.hi.below hb⟩
theorem Pgr.to {w w' : World} {S R : Nat → Prop} {ka : Option Addr} {kn kc : Nat} {va : Option Addr} {vn vc : Nat} {ia : Option Addr} {jn ic : Nat} {p : PG} (h : Pgr w S ka kn kc va vn vc ia jn ic p) (ho : Only R w w') (hd : ∀ b, S b → b < w.heap.size → ¬ R b) : Pgr w' S ka kn kc va vn vc ia jn ic p := ⟨h.hk.to ho hd, h.hv.to ho hd, h.hi.to ho hd⟩
set_option maxHeartbeats 8000000 in
set_option maxRecDepth 20000 in
theorem specPageOk_any (S : Nat → Prop) (ka : Option Addr) (kn kc : Nat) (va : Option Addr) (vn vc : Nat) (ia : Option Addr) (jn ic : Nat) (p : PG) (w : World) (h : Pgr w S ka kn kc va vn vc ia jn ic p) :
    Calls Tryd.prog 17 #[.agg #[.slice ka kn kc, .slice va vn vc, .slice ia jn ic]] w fun e w' => e = .returned (.bool (pgOk p)) ∧ Below w.heap.size w w' := by
  have hb0 := below_new (o := .cells #[.slice ka kn kc, .slice va vn vc, .slice ia jn ic] 40) (w := w) (Below.refl _ _)
  have P0 := hid (h.below hb0)
  have HB := hid hb0
  have K0 := Bk.new w 40 [.slice ka kn kc, .slice va vn vc, .slice ia jn ic]
  have c0 := K0.cell (j := 0) rfl
  have c1 := K0.cell (j := 1) rfl
  have c2 := K0.cell (j := 2) rfl
  have HNK := hid (Rw.len h.hk).1
  have HNV := hid (Rw.len h.hv).1
  have HNI := hid (Rw.len h.hi).1
  have bk := (Rw.len h.hk).2
  have bv := (Rw.len h.hv).2
  have bi := (Rw.len h.hi).2
  clear h hb0 K0
  go_enter Tryd.func17, Tryd.ntmps17
  go_wp2_with fail
  generalize w.alloc (.cells #[.slice ka kn kc, .slice va vn vc, .slice ia jn ic] 40) = U at *
  generalize hx : w.heap.size = x at c0 c1 c2 ⊢
  clear hx
  go_loopw [12] (fun i wr => ∃ k : Nat, k ≤ kn ∧ i = .int .i64 k ∧ wr = U ∧ Hid (sOkF p.keys (kn - k) k = sOkF p.keys kn 0)) (fun i _ => kn - (intOf i).toNat)
  case atStart => exact ⟨0, Nat.zero_le _, rfl, rfl, rfl⟩
  case round =>
    obtain ⟨k, hk, rfl, rfl, HS⟩ := hrel
    by_cases hlt : k < kn
    · have hlt' : (k : Int) < (kn : Int) := by omega
      obtain ⟨b, off, ha, -, -, hcell⟩ := P0.out.hk.at (by omega)
      have hck := hcell k hlt
      have e1 : kn - k = (kn - (k + 1)) + 1 := by omega
      have HE1 := hid e1
      clear e1
      subst ha
      rw [HE1.out] at HS
      have HNO : Hid (sOkF p.keys kn 0 = false → pgOk p = false) := fun e => pgOk_no (by rw [← HNK.out]; exact e)
      cases k with
      | zero =>
        clear hcell
        rw [Nat.add_zero] at hck
        generalize hcur : sAt p.keys 0 = cur at hck
        have HC : Hid (p.keys[0]?.getD ⟨#[]⟩ = cur) := hcur
        clear hcur
        go_wp2_with fail
        refine (specKeyOk_any cur _).mono ?_
        rintro e w1 ⟨rfl, rfl⟩
        cases h1 : kOk cur
        · have HZ : Hid (pgOk p = false) := HNO.out (by rw [← HS.out]; exact sOkF_no p.keys _ _ (by rw [HC.out]; exact h1))
          go_wp2
          go_ret
          exact ⟨by rw [HZ.out]; rfl, HB.out⟩
        · have HZ : Hid (sOkF p.keys (kn - 1) 1 = sOkF p.keys kn 0) := by
            show sOkF p.keys (kn - 1) 1 = sOkF p.keys kn 0
            rw [← HS.out]; exact (sOkF_0 p.keys _ (by rw [HC.out]; exact h1)).symm
          go_wp2
          go_roundw
          case rel => exact ⟨1, by omega, by go_num, by trivial, HZ⟩
          case measure => simp [intOf]; omega
      | succ j =>
        have hcj := hcell j (by omega)
        have hj1 : (0 : Int) < (j : Int) + 1 := by omega
        clear hcell
        generalize hcur : sAt p.keys (j + 1) = cur at hck
        generalize hprev : sAt p.keys j = prev at hcj
        have HC : Hid (p.keys[j + 1]?.getD ⟨#[]⟩ = cur) := hcur
        have HP : Hid (p.keys[j]?.getD ⟨#[]⟩ = prev) := hprev
        clear hcur hprev
        go_wp2_with fail
        refine (specKeyOk_any cur _).mono ?_
        rintro e w1 ⟨rfl, rfl⟩
        cases h1 : kOk cur
        · have HZ : Hid (pgOk p = false) := HNO.out (by rw [← HS.out]; exact sOkF_no p.keys _ _ (by rw [HC.out]; exact h1))
          go_wp2
          go_ret
          exact ⟨by rw [HZ.out]; rfl, HB.out⟩
        · have HG : Hid (∀ b, Op.bytesLess prev.toList cur.toList = b → (b && sOkF p.keys (kn - (j + 1 + 1)) (j + 1 + 1)) = sOkF p.keys kn 0) := by
            intro b hb
            rw [← HS.out]
            exact (sOkF_s p.keys _ j (by rw [HC.out]; exact h1) b (by rw [HP.out, HC.out]; exact hb)).symm
          rcases tri prev cur with ⟨t1, t2, t3, t4⟩ | rfl | ⟨t1, t2, t3, t4⟩
          · have HZ : Hid (sOkF p.keys (kn - (j + 1 + 1)) (j + 1 + 1) = sOkF p.keys kn 0) := by show sOkF p.keys (kn - (j + 1 + 1)) (j + 1 + 1) = sOkF p.keys kn 0; have := HG.out _ t1; simpa using this
            go_wp2
            go_roundw
            case rel => exact ⟨j + 1 + 1, by omega, by go_num, by trivial, HZ⟩
            case measure => simp [intOf]; omega
          · have t1 := less_irrefl prev.toList
            have HZ : Hid (pgOk p = false) := HNO.out (by have := HG.out _ t1; simpa using this.symm)
            go_wp2
            go_ret
            exact ⟨by rw [HZ.out]; rfl, HB.out⟩
          · have HZ : Hid (pgOk p = false) := HNO.out (by have := HG.out _ t1; simpa using this.symm)
            go_wp2
            go_ret
            exact ⟨by rw [HZ.out]; rfl, HB.out⟩
    · have hk' : k = kn := by omega
      have HZ : Hid (sOkF p.keys p.keys.length 0 = true) := by show sOkF p.keys p.keys.length 0 = true; rw [← HNK.out, ← HS.out, hk', Nat.sub_self]; rfl
      clear hk' HS
      by_cases hi0 : jn = 0
      · subst hi0
        have HR : Hid (pgOk p = pgLeaf p) := pgOk_leaf HZ.out HNI.out.symm
        go_wp2_with fail
        go_loopw [42] (fun i v => ∃ k : Nat, k ≤ vn ∧ i = .int .i64 k ∧ v = wr ∧ Hid ((p.vals.take k).all vOk = true)) (fun i _ => vn - (intOf i).toNat)
        case atStart => exact ⟨0, Nat.zero_le _, rfl, rfl, rfl⟩
        case round =>
          obtain ⟨m, hm, rfl, rfl, HT⟩ := hrel
          by_cases hlt2 : m < vn
          · have hlt2' : (m : Int) < (vn : Int) := by omega
            have hml : m < p.vals.length := by rw [← HNV.out]; exact hlt2
            obtain ⟨b, off, ha, -, -, hcell⟩ := P0.out.hv.at (by omega)
            have hcm := hcell m hlt2
            clear hcell
            subst ha
            generalize hcur : sAt p.vals m = cur at hcm
            have HC : Hid (p.vals[m]?.getD ⟨#[]⟩ = cur) := hcur
            clear hcur
            go_wp2_with fail
            refine (specValOk_any cur _).mono ?_
            rintro e w1 ⟨rfl, rfl⟩
            cases h1 : vOk cur
            · have HZ2 : Hid (pgOk p = false) := by
                show pgOk p = false
                rw [HR.out]; exact pgLeaf_no (all_no _ _ ⟨#[]⟩ hml (by rw [HC.out]; exact h1))
              go_wp2
              go_ret
              exact ⟨by rw [HZ2.out]; rfl, HB.out⟩
            · have HT2 : Hid ((p.vals.take (m + 1)).all vOk = true) := by
                show _ = true
                rw [all_take _ _ ⟨#[]⟩ hml, HT.out, HC.out, h1]; rfl
              go_wp2
              go_roundw
              case rel => exact ⟨m + 1, by omega, by go_num, by trivial, HT2⟩
              case measure => simp [intOf]; omega
          · have HA : Hid (p.vals.all vOk = true) := by
              have := HT.out
              rwa [List.take_of_length_le (by rw [← HNV.out]; omega)] at this
            have HR2 : Hid (pgOk p = (decide (1 ≤ kn) && decide (kn ≤ 4) && decide (vn = kn))) := by
              show pgOk p = _
              rw [HR.out, pgLeaf, HA.out, HNK.out, HNV.out]; rfl
            clear HT HA HR
            by_cases q1 : 1 ≤ kn
            · by_cases q2 : kn ≤ 4
              · by_cases q3 : vn = kn
                · have HF : Hid (pgOk p = true) := by show _ = true; rw [HR2.out, decide_eq_true q1, decide_eq_true q2, decide_eq_true q3]; rfl
                  subst q3
                  have q1' : (1 : Int) ≤ (vn : Int) := by omega
                  have q2' : (vn : Int) ≤ 4 := by omega
                  clear HR2
                  go_wp2
                  go_ret
                  exact ⟨by rw [HF.out]; rfl, HB.out⟩
                · have HF : Hid (pgOk p = false) := by show _ = false; rw [HR2.out, decide_eq_false q3]; simp
                  have q1' : (1 : Int) ≤ (kn : Int) := by omega
                  have q2' : (kn : Int) ≤ 4 := by omega
                  have q3' : ((vn : Int) == (kn : Int)) = false := by simp; omega
                  have q4' : ¬ (vn : Int) = (kn : Int) := by omega
                  clear HR2
                  go_wp2
                  go_ret
                  exact ⟨by rw [HF.out]; rfl, HB.out⟩
              · have HF : Hid (pgOk p = false) := by show _ = false; rw [HR2.out, decide_eq_false q2]; simp
                have q1' : (1 : Int) ≤ (kn : Int) := by omega
                have q2' : ¬ (kn : Int) ≤ 4 := by omega
                clear HR2
                go_wp2
                go_ret
                exact ⟨by rw [HF.out]; rfl, HB.out⟩
            · have HF : Hid (pgOk p = false) := by show _ = false; rw [HR2.out, decide_eq_false q1]; simp
              have q1' : ¬ (1 : Int) ≤ (kn : Int) := by omega
              clear HR2
              go_wp2
              go_ret
              exact ⟨by rw [HF.out]; rfl, HB.out⟩
      · have hi0' : ¬ (jn : Int) = 0 := by omega
        have HR : Hid (pgOk p = pgBranch p) := pgOk_branch HZ.out (by rw [← HNI.out]; exact hi0)
        go_wp2_with fail
        go_loopw [72] (fun i v => ∃ k : Nat, k ≤ jn ∧ i = .int .i64 k ∧ v = wr ∧ Hid ((p.kids.take k).all kidOk = true)) (fun i _ => jn - (intOf i).toNat)
        case atStart => exact ⟨0, Nat.zero_le _, rfl, rfl, rfl⟩
        case round =>
          obtain ⟨m, hm, rfl, rfl, HT⟩ := hrel
          by_cases hlt2 : m < jn
          · have hlt2' : (m : Int) < (jn : Int) := by omega
            have hml : m < p.kids.length := by rw [← HNI.out]; exact hlt2
            obtain ⟨b, off, ha, -, -, hcell⟩ := P0.out.hi.at (by omega)
            have hcm := hcell m hlt2
            clear hcell
            subst ha
            generalize hcur : iAt p.kids m = cur at hcm
            have HC : Hid (p.kids[m]?.getD 0 = cur) := hcur
            clear hcur
            by_cases g1 : cur < 2
            · have HZ2 : Hid (pgOk p = false) := by
                show pgOk p = false
                rw [HR.out]; exact pgBranch_no (all_no _ _ 0 hml (by rw [HC.out, kidOk, decide_eq_false (by omega)]; rfl))
              go_wp2
              go_ret
              exact ⟨by rw [HZ2.out]; rfl, HB.out⟩
            · by_cases g2 : 400 ≤ cur
              · have HZ2 : Hid (pgOk p = false) := by
                  show pgOk p = false
                  rw [HR.out]; exact pgBranch_no (all_no _ _ 0 hml (by rw [HC.out, kidOk, decide_eq_false (show ¬ cur < 400 by omega)]; simp))
                go_wp2
                go_ret
                exact ⟨by rw [HZ2.out]; rfl, HB.out⟩
              · have HT2 : Hid ((p.kids.take (m + 1)).all kidOk = true) := by
                  show _ = true
                  rw [all_take _ _ 0 hml, HT.out, HC.out, kidOk, decide_eq_true (by omega), decide_eq_true (by omega)]; rfl
                go_wp2
                go_roundw
                case rel => exact ⟨m + 1, by omega, by go_num, by trivial, HT2⟩
                case measure => simp [intOf]; omega
          · have HA : Hid (p.kids.all kidOk = true) := by
              have := HT.out
              rwa [List.take_of_length_le (by rw [← HNI.out]; omega)] at this
            have HR2 : Hid (pgOk p = (decide (2 ≤ jn) && decide (jn ≤ 4) && decide (kn + 1 = jn) && decide (vn = 0))) := by
              show pgOk p = _
              rw [HR.out, pgBranch, HA.out, HNK.out, HNV.out, HNI.out]; rfl
            clear HT HA HR
            by_cases q1 : 2 ≤ jn
            · by_cases q2 : jn ≤ 4
              · by_cases q3 : kn + 1 = jn
                · by_cases q4 : vn = 0
                  · have HF : Hid (pgOk p = true) := by show _ = true; rw [HR2.out, decide_eq_true q1, decide_eq_true q2, decide_eq_true q3, decide_eq_true q4]; rfl
                    subst q4
                    have q1' : (2 : Int) ≤ (jn : Int) := by omega
                    have q2' : (jn : Int) ≤ 4 := by omega
                    have q3' : (jn : Int) - 1 = (kn : Int) := by omega
                    clear HR2
                    go_wp2
                    go_ret
                    exact ⟨by rw [HF.out]; rfl, HB.out⟩
                  · have HF : Hid (pgOk p = false) := by show _ = false; rw [HR2.out, decide_eq_false q4]; simp
                    have q1' : (2 : Int) ≤ (jn : Int) := by omega
                    have q2' : (jn : Int) ≤ 4 := by omega
                    have q3' : (jn : Int) - 1 = (kn : Int) := by omega
                    have q4' : ¬ (vn : Int) = 0 := by omega
                    have q5' : ((vn : Int) == 0) = false := by simp; omega
                    have q6' : (vn == 0) = false := by simp; omega
                    clear HR2
                    go_wp2
                    go_ret
                    exact ⟨by rw [HF.out]; rfl, HB.out⟩
                · have HF : Hid (pgOk p = false) := by show _ = false; rw [HR2.out, decide_eq_false q3]; simp
                  have q1' : (2 : Int) ≤ (jn : Int) := by omega
                  have q2' : (jn : Int) ≤ 4 := by omega
                  have q3' : ¬ (kn : Int) = (jn : Int) - 1 := by omega
                  have q4' : ((kn : Int) == (jn : Int) - 1) = false := by simp; omega
                  clear HR2
                  go_wp2
                  go_ret
                  exact ⟨by rw [HF.out]; rfl, HB.out⟩
              · have HF : Hid (pgOk p = false) := by show _ = false; rw [HR2.out, decide_eq_false q2]; simp
                have q1' : (2 : Int) ≤ (jn : Int) := by omega
                have q2' : ¬ (jn : Int) ≤ 4 := by omega
                clear HR2
                go_wp2
                go_ret
                exact ⟨by rw [HF.out]; rfl, HB.out⟩
            · have HF : Hid (pgOk p = false) := by show _ = false; rw [HR2.out, decide_eq_false q1]; simp
              have q1' : ¬ (2 : Int) ≤ (jn : Int) := by omega
              clear HR2
              go_wp2
              go_ret
              exact ⟨by rw [HF.out]; rfl, HB.out⟩
end Go.Proofs.YtpgogpphobafoabDoor
/-
  The program's writer: what its methods fail and add do to it, for every state of the writer.
-/
namespace Go.Proofs.YtpgogpphobafoabDoor
open Go.RowKit

/-- Block g is a writer that gathers at most 'most' bytes: it holds the bytes zs (st = some zs), or an error (st = none). -/
def Wr (w : World) (g most : Nat) (st : Option (List Int)) : Prop :=
  ∃ v ev zs, w.cell? ⟨g, 0, none⟩ = some v ∧ w.cell? ⟨g, 1, none⟩ = some (.int .i64 most) ∧ w.cell? ⟨g, 2, none⟩ = some ev ∧
    w.frozen? ⟨g, 0, none⟩ = false ∧ w.frozen? ⟨g, 2, none⟩ = false ∧ Ob w (g + 1) v zs ∧ zs.length ≤ most ∧ most ≤ 1099511627776 ∧ (∀ z ∈ zs, 0 ≤ z ∧ z ≤ 255) ∧
    ((ev = .nilIface ∧ st = some zs) ∨ ((∃ t x, ev = .iface t x) ∧ st = none))

/-- The variable at block v holds an error. -/
def Err (w : World) (v : Nat) : Prop := ∃ t x, w.cell? ⟨v, 0, none⟩ = some (.iface t x)
theorem Err.below {w w' : World} {v g : Nat} (h : Err w v) (hb : Below g w w') (hv : v < g) : Err w' v := by
  obtain ⟨t, x, hc⟩ := h
  exact ⟨t, x, by rw [hb.cell (p := ⟨v, 0, none⟩) hv]; exact hc⟩

def addSt (most : Nat) : Option (List Int) → List Int → Option (List Int)
  | none, _ => none
  | some zs, ys => if zs.length + ys.length ≤ most then some (zs ++ ys) else none

theorem Ob.drewN {w : World} {B : Nat} {v : Value} {zs : List Int} (h : Ob w B v zs) (q : Nat) : Ob (w.drewN q) B v zs := h
theorem Rd.drewN {w : World} {a : Option Addr} {n c : Nat} {zs : List Int} (h : Rd w a n c zs) (q : Nat) : Rd (w.drewN q) a n c zs := h

set_option maxHeartbeats 400000 in
theorem fail_set (g : Nat) (t : TypeId) (x : Value) (w : World) (h : w.cell? ⟨g, 2, none⟩ = some .nilIface) (hf : w.frozen? ⟨g, 2, none⟩ = false) :
    Calls Tryd.prog 47 #[.pointer (some ⟨g, 0, none⟩), .iface t x] w fun e w' => e = .returned (.tuple #[]) ∧ w' = w.setCell ⟨g, 2, none⟩ (.iface t x) := by
  go_enter Tryd.func47, Tryd.ntmps47
  go_wp2
  go_end0
  exact ⟨rfl, rfl⟩
set_option maxHeartbeats 400000 in
theorem fail_keep (g : Nat) (t : TypeId) (x : Value) (w : World) (y : TypeId) (z : Value) (h : w.cell? ⟨g, 2, none⟩ = some (.iface y z)) :
    Calls Tryd.prog 47 #[.pointer (some ⟨g, 0, none⟩), .iface t x] w fun e w' => e = .returned (.tuple #[]) ∧ w = w' := by
  go_enter Tryd.func47, Tryd.ntmps47
  go_wp2
  go_end0
  exact ⟨rfl, rfl⟩
/-- What is kept of a writer where its error alone is set. -/
theorem wr_failed {w : World} {g most : Nat} {zs : List Int} {v : Value} {t : TypeId} {x : Value} (c0 : w.cell? ⟨g, 0, none⟩ = some v) (c1 : w.cell? ⟨g, 1, none⟩ = some (.int .i64 most)) (c2 : w.cell? ⟨g, 2, none⟩ = some .nilIface)
    (f0 : w.frozen? ⟨g, 0, none⟩ = false) (f2 : w.frozen? ⟨g, 2, none⟩ = false) (ho : Ob w (g + 1) v zs) (hl : zs.length ≤ most) (hm : most ≤ 1099511627776) (hb : ∀ z ∈ zs, 0 ≤ z ∧ z ≤ 255) :
    Wr (w.setCell ⟨g, 2, none⟩ (.iface t x)) g most none := by
  refine ⟨v, .iface t x, zs, ?_, ?_, ?_, ?_, ?_, ownsRow_setCell_below ho (by simp) _, hl, hm, hb, .inr ⟨⟨t, x, rfl⟩, rfl⟩⟩
  · rw [World.cell?_setCell_other (h := by simp)]; exact c0
  · rw [World.cell?_setCell_other (h := by simp)]; exact c1
  · exact World.cell?_setCell_same _ _ _ c2
  · simp [f0]
  · simp [f2]

theorem Wr.drewN {w : World} {g most : Nat} {st : Option (List Int)} (h : Wr w g most st) (q : Nat) : Wr (w.drewN q) g most st := h
theorem Wr.lt {w : World} {g most : Nat} {st : Option (List Int)} (h : Wr w g most st) : g < w.heap.size := by
  obtain ⟨v, ev, zs, c0, _⟩ := h
  exact block_lt c0
/-- A writer keeps in a world that has kept its block and its row. -/
theorem Wr.alloc {w : World} {g most : Nat} {st : Option (List Int)} (h : Wr w g most st) (o : Obj) : Wr (w.alloc o) g most st := by
  have hlt := h.lt
  obtain ⟨v, ev, zs, c0, c1, c2, f0, f2, ho, hr⟩ := h
  exact ⟨v, ev, zs, by rw [World.cell?_alloc_past (hn := hlt)]; exact c0, by rw [World.cell?_alloc_past (hn := hlt)]; exact c1, by rw [World.cell?_alloc_past (hn := hlt)]; exact c2,
    by rw [World.frozen?_alloc_past (hn := hlt)]; exact f0, by rw [World.frozen?_alloc_past (hn := hlt)]; exact f2, ho.alloc o, hr⟩

set_option maxHeartbeats 800000 in
theorem add_any (g most : Nat) (st : Option (List Int)) (a : Option Addr) (n c : Nat) (ys : List Int) (w : World) (h : Wr w g most st) (he : Err w 0) (hs : Rd w a n c ys) (hn : n ≤ 1099511627776) :
    Calls Tryd.prog 28 #[.pointer (some ⟨g, 0, none⟩), .slice a n c] w fun e w' => e = .returned (.tuple #[]) ∧ Below g w w' ∧ Wr w' g most (addSt most st ys) := by
  have HW := hid h
  have HS := hid hs
  have HN : Hid (n = ys.length) := hs.1
  have hyb := at_byte hs.2.2.2.2.1
  have HY := hid hyb
  have hlt := h.lt
  obtain ⟨v, ev, zs, c0, c1, c2, f0, f2, ho, hl, hm, hb, hst⟩ := h
  obtain ⟨t, x, hx⟩ := he
  obtain ⟨va, vc, hv⟩ := ho.shape
  have HO := hid ho
  have HB := hid hb
  have HV := hid hv
  rw [hv] at c0
  generalize hL : zs.length = L at hv hl c0
  have HL := hid hL
  clear ho hb hs hyb hL hv
  by_cases hbig : (most : Int) - (L : Int) < (n : Int)
  · rcases hst with ⟨rfl, rfl⟩ | ⟨⟨y, z, rfl⟩, rfl⟩
    · have HA : Hid (addSt most (some zs) ys = none) := by
        show addSt most (some zs) ys = none
        unfold addSt
        exact if_neg (by rw [HL.out, ← HN.out]; omega)
      go_enter Tryd.func28, Tryd.ntmps28
      go_wp2
      go_quiet (fail)
      go_wp2_with (go_at_call 47; refine (fail_set g t x _ (by simpa using c2) (by simpa using f2)).mono ?_)
      rintro e w1 ⟨rfl, hw1⟩
      have HW1 : Hid (Wr w1 g most none) := by
        show Wr w1 g most none
        rw [hw1]
        exact wr_failed (w := w.drewN nq) (by simpa [HV.out, HL.out] using c0) (by simpa using c1) (by simpa using c2) (by simpa using f0) (by simpa using f2) HO.out (by rw [HL.out]; exact hl) hm HB.out
      have hb1 : Below g w w1 := by rw [hw1]; exact Below.setCell (p := ⟨g, 2, none⟩) (Below.drewN' (Below.refl g w) nq) (Nat.le_refl g) _
      have d2 : w1.cell? ⟨g, 2, none⟩ = some (.iface t x) := by rw [hw1]; exact World.cell?_setCell_same _ _ _ (by simpa using c2)
      clear hw1
      go_wp2
      go_end0
      exact ⟨rfl, hb1, by rw [HA.out]; exact HW1.out⟩
    · go_enter Tryd.func28, Tryd.ntmps28
      go_wp2
      go_quiet (fail)
      go_wp2_with (go_at_call 47; refine (fail_keep g t x _ y z (by simpa using c2)).mono ?_)
      rintro e w1 ⟨rfl, rfl⟩
      go_wp2
      go_end0
      exact ⟨rfl, Below.drewN' (Below.refl _ _) nq, HW.out.drewN nq⟩
  · rcases hst with ⟨rfl, rfl⟩ | ⟨⟨y, z, rfl⟩, rfl⟩
    · have HA : Hid (addSt most (some zs) ys = some (zs ++ ys)) := by
        show addSt most (some zs) ys = some (zs ++ ys)
        unfold addSt
        exact if_pos (by rw [HL.out, ← HN.out]; omega)
      have HO' : Hid (Ob w (g + 1) (.slice va L vc) zs) := by show Ob w (g + 1) (.slice va L vc) zs; rw [← HL.out, ← HV.out]; exact HO.out
      go_enter Tryd.func28, Tryd.ntmps28
      go_wp2
      go_quiet (fail)
      go_wp2_with (at_builtin; refine wpList_append_rd rfl _ _ rfl (g + 1) _ zs rfl (HO'.out.drewN nq) a n c ys rfl (HS.out.drewN nq) ?b ?base ?_)
      case b => rw [HL.out, ← HN.out]; omega
      case base => simp; omega
      intro v2 w2 hown2 hg2
      have hb2 : Below (g + 1) w w2 := Ob.below (HO'.out.drewN nq) (Below.drewN' (Below.refl _ _) nq) (by simp; omega) hg2
      have HO2 := hid hown2
      obtain ⟨a2, k2, hv2⟩ := hown2.shape
      have d0 := (hb2.cell (p := ⟨g, 0, none⟩) (by simp)).trans c0
      have d1 := (hb2.cell (p := ⟨g, 1, none⟩) (by simp)).trans c1
      have d2 := (hb2.cell (p := ⟨g, 2, none⟩) (by simp)).trans c2
      have e0 := (hb2.frozen (p := ⟨g, 0, none⟩) (by simp)).trans f0
      have e2 := (hb2.frozen (p := ⟨g, 2, none⟩) (by simp)).trans f2
      generalize hL2 : (zs ++ ys).length = L2 at hv2
      have HL2 := hid hL2
      have HV2 := hid hv2
      clear hown2 hg2 hL2
      rw [hv2]
      clear hv2
      go_wp2
      go_end0
      refine ⟨rfl, Below.setCell (p := ⟨g, 0, none⟩) (hb2.mono (Nat.le_succ g)) (Nat.le_refl g) _, ?_⟩
      rw [HA.out]
      refine ⟨.slice a2 L2 k2, .nilIface, zs ++ ys, World.cell?_setCell_same _ _ _ d0, ?_, ?_, by simpa using e0, by simpa using e2, ?_, ?_, hm, byte_append HB.out HY.out, .inl ⟨rfl, rfl⟩⟩
      · rw [World.cell?_setCell_other (h := by simp)]; exact d1
      · rw [World.cell?_setCell_other (h := by simp)]; exact d2
      · rw [← HV2.out]; exact ownsRow_setCell_below HO2.out (by simp) _
      · rw [List.length_append, HL.out, ← HN.out]; omega
    · go_enter Tryd.func28, Tryd.ntmps28
      go_wp2
      go_quiet (fail)
      go_wp2
      go_end0
      exact ⟨rfl, Below.drewN' (Below.refl _ _) nq, HW.out.drewN nq⟩

set_option maxHeartbeats 400000 in
theorem addByte_any (g most : Nat) (st : Option (List Int)) (z : Int) (w : World) (h : Wr w g most st) (he : Err w 0) (hg : 0 < g) (h0 : 0 ≤ z) (h1 : z ≤ 255) :
    Calls Tryd.prog 27 #[.pointer (some ⟨g, 0, none⟩), .int .u8 z] w fun e w' => e = .returned (.tuple #[]) ∧ Below g w w' ∧ Wr w' g most (addSt most st [z]) := by
  have hlt := h.lt
  have HW := hid h
  have HE := hid he
  clear h he
  have hb1 : Below g w (w.alloc (.cells #[.int .u8 z] 5)) := (Below.refl _ _).alloc (Nat.le_of_lt hlt) _
  have HB := hid hb1
  clear hb1
  go_enter Tryd.func27, Tryd.ntmps27
  go_wp2_with (go_at_call 28; refine (add_any g most st _ 1 1 [z] _ (HW.out.alloc _) (HE.out.below HB.out hg) (rd_one w z h0 h1) (by omega)).mono ?_; rintro e w1 ⟨rfl, hb, hw⟩)
  go_end0
  exact ⟨rfl, HB.out.trans hb, hw⟩
theorem addSt_none (most : Nat) (ys : List Int) : addSt most none ys = none := rfl
theorem addSt_addSt (most : Nat) (st : Option (List Int)) (xs ys : List Int) : addSt most (addSt most st xs) ys = addSt most st (xs ++ ys) := by
  cases st with
  | none => rfl
  | some zs =>
    by_cases h : zs.length + xs.length ≤ most
    · have e : addSt most (some zs) xs = some (zs ++ xs) := by unfold addSt; exact if_pos h
      rw [e]
      unfold addSt
      simp [Nat.add_assoc]
    · have e : addSt most (some zs) xs = none := by unfold addSt; exact if_neg h
      have e2 : addSt most (some zs) (xs ++ ys) = none := by unfold addSt; exact if_neg (by rw [List.length_append]; omega)
      rw [e, e2, addSt_none]
theorem Wr.add_nil {w : World} {g most : Nat} {st : Option (List Int)} (h : Wr w g most st) : addSt most st [] = st := by
  obtain ⟨v, ev, zs, _, _, _, _, _, _, hl, _, _, ⟨_, rfl⟩ | ⟨_, rfl⟩⟩ := h
  · unfold addSt; simp [hl]
  · rfl

set_option maxHeartbeats 400000 in
theorem isNumber_any (n : Int) (w : World) (b : Bool) (hb : b = decide (0 ≤ n ∧ n ≤ 1099511627775)) :
    Calls Tryd.prog 71 #[.int .i64 n] w fun e w' => e = .returned (.bool b) ∧ w = w' := by
  have HB : Hid (b = decide (0 ≤ n ∧ n ≤ 1099511627775)) := hb
  clear hb
  by_cases h0 : 0 ≤ n
  · by_cases h1 : n ≤ 1099511627775
    · go_enter Tryd.func71, Tryd.ntmps71
      go_wp2
      go_ret
      exact ⟨by rw [HB.out]; simp [h0, h1], rfl⟩
    · go_enter Tryd.func71, Tryd.ntmps71
      go_wp2
      go_ret
      exact ⟨by rw [HB.out]; simp [h1], rfl⟩
  · go_enter Tryd.func71, Tryd.ntmps71
    go_wp2
    go_ret
    exact ⟨by rw [HB.out, decide_eq_false (by omega)]; rfl, rfl⟩
/-- What number does to the writer's state. -/
def numSt (most : Nat) (st : Option (List Int)) (n : Int) : Option (List Int) := if 0 ≤ n ∧ n ≤ 1099511627775 then addSt most st (enc n) else none

set_option maxHeartbeats 800000 in
theorem number_any (g most : Nat) (st : Option (List Int)) (m : Int) (w : World) (h : Wr w g most st) (he : Err w 0) (he2 : Err w 2) (hg : 0 < g) :
    Calls Tryd.prog 54 #[.pointer (some ⟨g, 0, none⟩), .int .i64 m] w fun e w' => e = .returned (.tuple #[]) ∧ Below g w w' ∧ Wr w' g most (numSt most st m) := by
  by_cases hok : 0 ≤ m ∧ m ≤ 1099511627775
  · have HA : Hid (numSt most st m = addSt most st (enc m)) := by show numSt most st m = addSt most st (enc m); unfold numSt; exact if_pos hok
    obtain ⟨h0, h1⟩ := hok
    have HW := hid h
    have HE := hid he
    clear h he he2
    go_enter Tryd.func54, Tryd.ntmps54
    go_wp2_with (go_at_call 71; refine (isNumber_any m _ true (by simp [h0, h1])).mono ?_; rintro e w' ⟨rfl, rfl⟩)
    go_loopw [1] (fun i wr => ∃ (f : Nat) (q : Int) (ds : List Int), i = .int .i64 q ∧ 0 ≤ q ∧ q ≤ 1099511627775 ∧ q < bnd f ∧ ds ++ encF f q = enc m ∧ Wr wr g most (addSt most st ds) ∧ Below g w wr) (fun i _ => (intOf i).toNat)
    case atStart => exact ⟨6, m, [], rfl, h0, h1, by simp [bnd]; omega, rfl, by rw [HW.out.add_nil]; exact HW.out, Below.refl _ _⟩
    case round =>
      obtain ⟨f, q, ds, rfl, hq0, hq1, hqb, hds, hwr, hbel⟩ := hrel
      have HD := hid hds
      have HQ := hid hqb
      have HR := hid hwr
      clear hds hqb hwr
      have HE2 := hid (HE.out.below hbel hg)
      by_cases hge : 128 ≤ q
      · obtain ⟨f', hf'⟩ : ∃ f', f = f' + 1 := by
          cases f with
          | zero => have := HQ.out; simp [bnd] at this; omega
          | succ f => exact ⟨f, rfl⟩
        subst hf'
        have HD2 : Hid (ds ++ [q % 128 + 128] ++ encF f' (q / 128) = enc m) := by
          show ds ++ [q % 128 + 128] ++ encF f' (q / 128) = enc m
          rw [← HD.out, encF_big f' q hge, Int.add_comm]; simp
        have HQ2 : Hid (q / 128 < bnd f') := bnd_down f' q HQ.out
        go_wp2_with (go_at_call 27; refine (addByte_any g most _ (q % 128 + 128) _ HR.out HE2.out hg (by omega) (by omega)).mono ?_; rintro e w2 ⟨rfl, hb2, hw2⟩)
        go_roundw
        case rel => exact ⟨f', q / 128, ds ++ [q % 128 + 128], rfl, by omega, by omega, HQ2.out, HD2.out, by rw [← addSt_addSt]; exact hw2, hbel.trans hb2⟩
        case measure => simp [intOf]; omega
      · have HE3 : Hid (ds ++ [q] = enc m) := by
          show ds ++ [q] = enc m
          rw [← HD.out, encF_small f q (by omega)]
        go_wp2_with (go_at_call 27; refine (addByte_any g most _ q _ HR.out HE2.out hg (by omega) (by omega)).mono ?_; rintro e w2 ⟨rfl, hb2, hw2⟩)
        go_end0
        exact ⟨rfl, hbel.trans hb2, by rw [HA.out, ← HE3.out, ← addSt_addSt]; exact hw2⟩
  · have HA : Hid (numSt most st m = none) := by show numSt most st m = none; unfold numSt; exact if_neg hok
    have HW := hid h
    obtain ⟨t, x, hx⟩ := he2
    obtain ⟨v, ev, zs, c0, c1, c2, f0, f2, ho, hl, hm, hb, hst⟩ := h
    have HO := hid ho
    have HB := hid hb
    clear ho hb he
    rcases hst with ⟨rfl, rfl⟩ | ⟨⟨y, z, rfl⟩, rfl⟩
    · go_enter Tryd.func54, Tryd.ntmps54
      go_wp2_with (first
        | (go_at_call 71; refine (isNumber_any m _ false (by rw [decide_eq_false hok])).mono ?_; rintro e w' ⟨rfl, rfl⟩)
        | (go_at_call 47; refine (fail_set g t x _ c2 f2).mono ?_; rintro e w1 ⟨rfl, hw1⟩))
      refine bodyPost_ret (results_none rfl _ _ _) rfl ⟨rfl, ?_, ?_⟩
      · exact Below.setCell (p := ⟨g, 2, none⟩) (Below.refl g w) (Nat.le_refl g) _
      · rw [HA.out]; exact wr_failed c0 c1 c2 f0 f2 HO.out hl hm HB.out
    · go_enter Tryd.func54, Tryd.ntmps54
      go_wp2_with (first
        | (go_at_call 71; refine (isNumber_any m _ false (by rw [decide_eq_false hok])).mono ?_; rintro e w' ⟨rfl, rfl⟩)
        | (go_at_call 47; refine (fail_keep g t x _ y z c2).mono ?_; rintro e w1 ⟨rfl, rfl⟩))
      exact bodyPost_ret (results_none rfl _ _ _) rfl ⟨rfl, Below.refl _ _, by rw [HA.out]; exact HW.out⟩
set_option maxHeartbeats 400000 in
/-- A new writer begins with a copy of the bytes. -/
theorem newWriter_any (most : Nat) (a : Option Addr) (n c : Nat) (ys : List Int) (w : World) (he : Err w 0) (hg : 0 < w.heap.size) (hs : Rd w a n c ys) (hn : n ≤ 1099511627776) (hm : most ≤ 1099511627776) :
    Calls Tryd.prog 26 #[.slice a n c, .int .i64 most] w fun e w' => e = .returned (.pointer (some ⟨w.heap.size, 0, none⟩)) ∧ Below w.heap.size w w' ∧ Wr w' w.heap.size most (addSt most (some []) ys) := by
  have HE := hid he
  have HS := hid hs
  have HG := hid hg
  clear he hs hg
  go_enter Tryd.func26, Tryd.ntmps26
  have hw0 : Wr (w.alloc (.cells #[.slice none 0 0, .int .i64 most, .nilIface] 76)) w.heap.size most (some []) := by
    refine ⟨.slice none 0 0, .nilIface, [], ?_, ?_, ?_, World.frozen?_alloc_at (hn := rfl) .., World.frozen?_alloc_at (hn := rfl) .., World.ownsRow_nil _ _ _ _, by simp, hm, by simp, .inl ⟨rfl, rfl⟩⟩
    · rw [World.cell?_alloc_at (hn := rfl)]; rfl
    · rw [World.cell?_alloc_at (hn := rfl)]; rfl
    · rw [World.cell?_alloc_at (hn := rfl)]; rfl
  have hb0 : Below w.heap.size w (w.alloc (.cells #[.slice none 0 0, .int .i64 most, .nilIface] 76)) := (Below.refl _ _).alloc (Nat.le_refl _) _
  have HW0 := hid hw0
  have HB0 := hid hb0
  clear hw0 hb0
  go_wp2_with (go_at_call 28; refine (add_any w.heap.size most (some []) a n c ys _ HW0.out (HE.out.below HB0.out HG.out) (HS.out.kept HB0.out) hn).mono ?_; rintro e w1 ⟨rfl, hb1, hw1⟩)
  go_ret
  exact ⟨rfl, HB0.out.trans hb1, hw1⟩

set_option maxHeartbeats 400000 in
theorem told_none (g most : Nat) (w : World) (h : Wr w g most none) :
    Calls Tryd.prog 30 #[.pointer (some ⟨g, 0, none⟩)] w fun e w' => e = .returned (.tuple #[.slice none 0 0, .bool false]) ∧ w = w' := by
  obtain ⟨v, ev, zs, c0, c1, c2, f0, f2, ho, hl, hm, hb, ⟨_, h⟩ | ⟨⟨t, x, rfl⟩, _⟩⟩ := h
  · cases h
  · clear ho hb
    go_enter Tryd.func30, Tryd.ntmps30
    go_wp2
    go_ret2
    exact ⟨rfl, rfl⟩
set_option maxHeartbeats 400000 in
theorem told_some (g most : Nat) (out : List Int) (w : World) (h : Wr w g most (some out)) :
    Calls Tryd.prog 30 #[.pointer (some ⟨g, 0, none⟩)] w fun e w' => ∃ v, e = .returned (.tuple #[v, .bool true]) ∧ Ob w (g + 1) v out ∧ w = w' := by
  obtain ⟨v, ev, zs, c0, c1, c2, f0, f2, ho, hl, hm, hb, ⟨rfl, h⟩ | ⟨⟨t, x, rfl⟩, h⟩⟩ := h
  · cases h
    obtain ⟨va, vc, hv⟩ := ho.shape
    have HO := hid ho
    have HV := hid hv
    rw [hv] at c0
    clear ho hb hv
    go_enter Tryd.func30, Tryd.ntmps30
    go_wp2
    go_ret2
    exact ⟨_, rfl, by have := HO.out; rw [HV.out] at this; exact this, rfl⟩
  · cases h
end Go.Proofs.YtpgogpphobafoabDoor
/-
  What the model's PutVar answers, for every slice of bytes and every number.
-/
namespace Go.Proofs.YtpgogpphobafoabDoor
open Go.RowKit

set_option maxHeartbeats 400000 in
theorem specNum_any (n : Int) (w : World) (b : Bool) (hb : b = decide (0 ≤ n ∧ n ≤ 1099511627775)) :
    Calls Tryd.prog 60 #[.int .i64 n] w fun e w' => e = .returned (.bool b) ∧ w = w' := by
  have HB : Hid (b = decide (0 ≤ n ∧ n ≤ 1099511627775)) := hb
  clear hb
  by_cases h0 : 0 ≤ n
  · by_cases h1 : n ≤ 1099511627775
    · go_enter Tryd.func60, Tryd.ntmps60
      go_wp2
      go_ret
      exact ⟨by rw [HB.out]; simp [h0, h1], rfl⟩
    · go_enter Tryd.func60, Tryd.ntmps60
      go_wp2
      go_ret
      exact ⟨by rw [HB.out]; simp [h1], rfl⟩
  · go_enter Tryd.func60, Tryd.ntmps60
    go_wp2
    go_ret
    exact ⟨by rw [HB.out, decide_eq_false (by omega)]; rfl, rfl⟩

/-- What a put leaves: nil and false, or a row of the call's own and true. -/
def Put (w : World) (r : Option (List Int)) (e : Ending) (w' : World) : Prop :=
  Below w.heap.size w w' ∧ ((r = none ∧ e = .returned (.tuple #[.slice none 0 0, .bool false])) ∨ ∃ v zs, r = some zs ∧ e = .returned (.tuple #[v, .bool true]) ∧ Ob w' w.heap.size v zs)

set_option maxHeartbeats 800000 in
theorem specPutVar_any (a : Option Addr) (n c : Nat) (zs : List Int) (m : Int) (w : World) (h : Rd w a n c zs) (hlen : n ≤ 1099511627776) :
    Calls Tryd.prog 41 #[.slice a n c, .int .i64 m] w fun e w' => Put w (pv zs m) e w' := by
  have HN : Hid (n = zs.length) := h.1
  by_cases hok : 0 ≤ m ∧ m ≤ 1099511627775
  · obtain ⟨h0, h1⟩ := hok
    go_enter Tryd.func41, Tryd.ntmps41
    go_wp2_with (first
      | (go_at_call 60; refine (specNum_any m _ true (by simp [h0, h1])).mono ?_; rintro e w' ⟨rfl, rfl⟩)
      | (at_builtin; refine wpList_append_rd rfl _ _ rfl w.heap.size _ [] rfl (ob_new w w.heap.size (Nat.le_refl _)) a n c zs rfl ?src ?b ?base ?_))
    case src => exact h.kept ((Below.refl _ _).alloc (Nat.le_refl _) _)
    case b => rw [← HN.out]; simp; omega
    case base => simp
    intro v1 w1 hown1 hg1
    have hb1 : Below w.heap.size w w1 := Ob.below (ob_new w w.heap.size (Nat.le_refl _)) ((Below.refl _ _).alloc (Nat.le_refl _) _) (by simp) hg1
    have hown1' : Ob w1 w.heap.size v1 zs := by simpa using hown1
    clear hown1 hg1
    go_wp2
    go_loopw [6, 1] (fun v i wr => ∃ (f : Nat) (q : Int) (ds : List Int), i = .int .i64 q ∧ 0 ≤ q ∧ q ≤ 1099511627775 ∧ q < bnd f ∧ f ≤ 6 ∧ ds.length + f ≤ 6 ∧ ds ++ encF f q = enc m ∧ (∀ z ∈ ds, 0 ≤ z ∧ z ≤ 255) ∧ Ob wr w.heap.size v (zs ++ ds) ∧ Below w.heap.size w wr) (fun _ i _ => (intOf i).toNat)
    case atStart => exact ⟨6, m, [], rfl, h0, h1, by simp [bnd]; omega, by omega, by simp, rfl, by simp, by simpa using hown1', hb1⟩
    case round =>
      obtain ⟨f, q, ds, rfl, hq0, hq1, hqb, hf6, hdl, hds, hdb, hown, hbel⟩ := hrel
      have HD : Hid (ds ++ encF f q = enc m) := hds
      have HB : Hid (∀ z ∈ ds, 0 ≤ z ∧ z ≤ 255) := hdb
      have HQ : Hid (q < bnd f) := hqb
      have HO : Hid (Ob wr w.heap.size u6 (zs ++ ds)) := hown
      clear hds hdb hqb hown hb1 hown1'
      by_cases hge : 128 ≤ q
      · obtain ⟨f', hf'⟩ : ∃ f', f = f' + 1 := by
          cases f with
          | zero => have := HQ.out; simp [bnd] at this; omega
          | succ f => exact ⟨f, rfl⟩
        subst hf'
        have HD2 : Hid (ds ++ [128 + q % 128] ++ encF f' (q / 128) = enc m) := by
          show ds ++ [128 + q % 128] ++ encF f' (q / 128) = enc m
          rw [← HD.out, encF_big f' q hge]; simp
        have HQ2 : Hid (q / 128 < bnd f') := bnd_down f' q HQ.out
        go_wp2_with (at_builtin; refine wpList_append_rd rfl _ _ rfl w.heap.size _ (zs ++ ds) rfl (HO.out.alloc _) _ _ _ [128 + q % 128] rfl ?src ?b ?base ?_)
        case src => exact rd_one wr (128 + q % 128) (by omega) (by omega)
        case b => have := HN.out; simp; omega
        case base => have := hbel.size; simp; omega
        intro v2 w2 hown2 hg2
        have hb2 : Below w.heap.size w w2 := Ob.below (HO.out.alloc _) (hbel.alloc hbel.size _) (by have := hbel.size; simp; omega) hg2
        have HO2 : Hid (Ob w2 w.heap.size v2 (zs ++ (ds ++ [128 + q % 128]))) := hown2
        clear hown2 hg2
        go_wp2
        go_roundw
        case rel => exact ⟨f', q / 128, ds ++ [128 + q % 128], rfl, by omega, by omega, HQ2.out, by omega, by simp; omega, HD2.out, byte_append HB.out (by intro z hz; simp at hz; omega), HO2.out, hb2⟩
        case measure => simp [intOf]; omega
      · have HE : Hid (ds ++ [q] = enc m) := by
          show ds ++ [q] = enc m
          rw [← HD.out, encF_small f q (by omega)]
        go_wp2_with (at_builtin; refine wpList_append_rd rfl _ _ rfl w.heap.size _ (zs ++ ds) rfl (HO.out.alloc _) _ _ _ [q] rfl ?src ?b ?base ?_)
        case src => exact rd_one wr q (by omega) (by omega)
        case b => have := HN.out; simp; omega
        case base => have := hbel.size; simp; omega
        intro v2 w2 hown2 hg2
        have hb2 : Below w.heap.size w w2 := Ob.below (HO.out.alloc _) (hbel.alloc hbel.size _) (by have := hbel.size; simp; omega) hg2
        have hown3 : Ob w2 w.heap.size v2 (zs ++ enc m) := by
          rw [← HE.out]; exact hown2
        have HO2 : Hid (Ob w2 w.heap.size v2 (zs ++ enc m)) := hown3
        obtain ⟨a2, c2, hv2⟩ := hown3.shape
        have hl2 : (zs ++ enc m).length ≤ 1099511627783 := by
          have := (enc_len m).2
          have := HN.out
          simp; omega
        generalize hL : (zs ++ enc m).length = L at hv2 hl2
        have HL : Hid ((zs ++ enc m).length = L) := hL
        clear hown2 hg2 hown3 hL
        rw [hv2]
        by_cases hbig : 4096 < L
        · go_wp2
          go_ret2
          exact ⟨hb2, .inl ⟨pv_long _ _ (by rw [HL.out]; exact hbig), rfl⟩⟩
        · go_wp2
          go_ret2
          exact ⟨hb2, .inr ⟨_, _, pv_ok _ _ h0 h1 (by rw [HL.out]; omega), rfl, by rw [← hv2]; exact HO2.out⟩⟩
  · have HB : Hid (pv zs m = none) := pv_bad zs m (by omega)
    go_enter Tryd.func41, Tryd.ntmps41
    go_wp2_with (go_at_call 60; refine (specNum_any m _ false (by rw [decide_eq_false hok])).mono ?_; rintro e w' ⟨rfl, rfl⟩)
    go_ret2
    exact ⟨Below.refl _ _, .inl ⟨HB.out, rfl⟩⟩
end Go.Proofs.YtpgogpphobafoabDoor
/-
  What the program's PutVar answers, for every slice of bytes and every number: the same as the model's.
-/
namespace Go.Proofs.YtpgogpphobafoabDoor
open Go.RowKit

theorem addSt_start (most : Nat) (zs : List Int) : addSt most (some []) zs = if zs.length ≤ most then some zs else none := by
  unfold addSt; simp
theorem addSt_two (most : Nat) (xs ys : List Int) : addSt most (addSt most (some []) xs) ys = if (xs ++ ys).length ≤ most then some (xs ++ ys) else none := by
  rw [addSt_addSt, addSt_start]
theorem Ob.mono {w : World} {B B' : Nat} {v : Value} {zs : List Int} (h : Ob w B v zs) (hB : B' ≤ B) : Ob w B' v zs := by
  obtain ⟨h1, h2⟩ := h
  refine ⟨h1, ?_⟩
  rcases h2 with h | ⟨g, cap, cur, e, hbg, hr⟩
  · exact .inl h
  · exact .inr ⟨g, cap, cur, e, Nat.le_trans hB hbg, hr⟩
/-- What told tells, as a put. -/
theorem told_put (w w1 : World) (most : Nat) (st : Option (List Int)) (h : Wr w1 w.heap.size most st) (hb : Below w.heap.size w w1) :
    Calls Tryd.prog 30 #[.pointer (some ⟨w.heap.size, 0, none⟩)] w1 fun e w' => ∃ v b, e = .returned (.tuple #[v, .bool b]) ∧ (∃ a n c, v = .slice a n c) ∧ Put w st (.returned (.tuple #[v, .bool b])) w' := by
  cases st with
  | none =>
    refine (told_none w.heap.size most w1 h).mono ?_
    rintro e w' ⟨rfl, rfl⟩
    exact ⟨_, _, rfl, ⟨_, _, _, rfl⟩, hb, .inl ⟨rfl, rfl⟩⟩
  | some out =>
    refine (told_some w.heap.size most out w1 h).mono ?_
    rintro e w' ⟨v, rfl, ho, rfl⟩
    obtain ⟨a, c, hv⟩ := ho.shape
    exact ⟨_, _, rfl, ⟨_, _, _, hv⟩, hb, .inr ⟨v, out, rfl, rfl, ho.mono (Nat.le_succ _)⟩⟩
end Go.Proofs.YtpgogpphobafoabDoor
/-
  'append(v, make([]byte, k)...)' onto a slice of bytes that the call owns; '[]byte(s)' as a slice that is read.
-/
namespace Go.Proofs.YtpgogpphobafoabDoor
open Go.RowKit

theorem zeroCells_one (k : Nat) : Builtin.zeroCells #[.int .u8 0] k = (List.replicate k (Value.int .u8 0)).toArray := by
  apply Array.ext
  · simp [Builtin.zeroCells]
  · intro i h1 h2
    simp [Builtin.zeroCells, Nat.mod_one]

theorem run_append_zeros {w : World} (ty : TypeId) (base : Nat) (v : Value) (zs : List Int) (hown : Ob w base v zs) (k : Nat) (hb : zs.length + k ≤ 70368744177664) (hbase : base ≤ w.heap.size) :
    ∃ v' w', (Builtin.append_ #[22, 3] ty #[v, .int .i64 (k : Int)]).run Tryd.prog w = .ok v' w' ∧ Ob w' base v' (zs ++ List.replicate k 0) ∧ w.grownBy w' v.ownBlock := by
  obtain ⟨i0, hi, hz0, hz1, hz2⟩ := info_parts infoU8
  have hwr : IntKind.i64.wrap (k : Int) = k := by rw [IntKind.wrap_i64]; omega
  have hneg : ¬ ((k : Int) < 0) := by omega
  have h48 : ¬ (281474976710656 < (k : Int)) := by omega
  have ht := Tryd.underlying22
  have htn := Tryd.underlying3
  have grown : ∀ (old : Nat), old < zs.length + k → ∀ (row : Option Nat),
      Ob (w.drew.alloc (.cells ((zs.map (Value.int .u8)).toArray ++ Builtin.zeroCells #[.int .u8 0] k ++ Builtin.zeroCells #[.int .u8 0] (grownCap w (zs.length + k) old 5 - (zs.length + k))) 5)) base
        (.slice (some ⟨w.heap.size, 0, none⟩) (zs.length + k) (grownCap w (zs.length + k) old 5)) (zs ++ List.replicate k 0) ∧
      w.grownBy (w.drew.alloc (.cells ((zs.map (Value.int .u8)).toArray ++ Builtin.zeroCells #[.int .u8 0] k ++ Builtin.zeroCells #[.int .u8 0] (grownCap w (zs.length + k) old 5 - (zs.length + k))) 5)) row := by
    intro old ho row
    have hge := grownCap_ge w (zs.length + k) old 5
    have hcm : grownCap w (zs.length + k) old 5 ≤ maxLen := grownCap_le_maxLen w (zs.length + k) old 5 (by unfold maxLen; omega)
    have hl : (zs ++ List.replicate k (0 : Int)).length = zs.length + k := by simp
    refine ⟨⟨by simp, .inr ⟨w.heap.size, _, _, by rw [hl], hbase, heap_alloc_new w.drew _, by rw [hl]; exact hge, hcm, ?_, ?_⟩⟩, ⟨rfl, rfl, rfl, by simp, fun j hj _ => Below.heap_alloc w.drew _ j hj⟩⟩
    · simp [zeroCells_one]; omega
    · rw [hl, zeroCells_one, Nat.mul_one]
      simp only [Array.toList_append, List.map_append, List.map_replicate]
      rw [List.take_left' (by simp)]
  have hcc : (Value.int .u8 0).cells = #[.int .u8 0] := rfl
  rcases hown.2 with ⟨rfl, h0⟩ | ⟨g, cap, cur, rfl, hbg, hg, hnc, hcm, hcs, htake⟩
  · have hx : zs = [] := List.eq_nil_of_length_eq_zero h0
    subst hx
    by_cases hk : k = 0
    · subst hk
      refine ⟨.slice none 0 0, w, ?_, World.ownsRow_nil w base 5 1, ⟨rfl, rfl, rfl, Nat.le_refl _, fun _ _ _ => rfl⟩⟩
      simp [Builtin.append_, run_underlying ht, run_underlying htn, sizeOf, typeInfo, hi, hz2, asInt, asIntOf, IntKind.wrap_i64]
    · have hgr := grown 0 (by simp; omega) (Value.ownBlock (.slice none 0 0))
      simp only [List.length_nil, Nat.zero_add, List.map_nil, List.nil_append, Array.empty_append] at hgr ⊢
      refine ⟨_, _, ?_, hgr.1, hgr.2⟩
      have h63 : ¬ (9223372036854775807 < (k : Int)) := by omega
      have hfit := growslice_fits (need := k) (old := 0) (bytes := 1) (by omega) (by omega)
      have hfit' : ¬ (281474976710656 < Builtin.nextslicecap k 0) := by omega
      have hk' : ¬ k ≤ 0 := by omega
      simp [Builtin.append_, run_underlying ht, run_underlying htn, sizeOf, typeInfo, hi, hz0, hz1, hz2, asInt, asIntOf, hwr, hneg, h48, hk, h63, hfit', zeroValue, hcc, Question.forced, Builtin.firstCells, newRow, grownCap]
  · by_cases hroom : zs.length + k ≤ cap
    · have hst := run_storeCells_at Tryd.prog g zs.length 5 (List.replicate k (.int .u8 0)) 0 cur w hg (by simp; omega) (by intro v hv; obtain ⟨_, rfl⟩ := List.mem_replicate.1 hv; rfl)
      simp only [Nat.add_zero, List.length_replicate] at hst
      have hr : (Builtin.append_ #[22, 3] ty #[.slice (some ⟨g, 0, none⟩) zs.length cap, .int .i64 (k : Int)]).run Tryd.prog w = .ok (.slice (some ⟨g, 0, none⟩) (zs.length + k) cap) (w.setRow g (cur.toList.take zs.length ++ List.replicate k (Value.int .u8 0) ++ cur.toList.drop (zs.length + k)).toArray) := by
        by_cases hk : k = 0
        · subst hk
          simp only [List.replicate_zero, List.append_nil, Nat.add_zero, List.take_append_drop, Array.toArray_toList] at hst ⊢
          simp [Builtin.append_, run_underlying ht, run_underlying htn, sizeOf, typeInfo, hi, hz1, hz2, asInt, asIntOf, IntKind.wrap_i64, hnc, Addr.add_lit, hst]
        · simp [Builtin.append_, run_underlying ht, run_underlying htn, sizeOf, typeInfo, hi, hz0, hz1, hz2, asInt, asIntOf, hwr, hneg, h48, hk, hroom, zeroValue, hcc, zeroCells_one, Addr.add_lit, hst]
      refine ⟨_, _, hr, ⟨by simp, .inr ⟨g, cap, _, by simp, hbg, setRow_heap w g cur _ 5 _ hg, by simp; exact hroom, hcm, ?_, ?_⟩⟩, ⟨rfl, rfl, rfl, by simp, fun j _ hj => setRow_other w g j _ (fun e => hj (by simp [Value.ownBlock, e]))⟩⟩
      · simp only [List.size_toArray, List.length_append, List.length_take, List.length_drop, List.length_replicate, Array.length_toList]
        omega
      · have ht2 : cur.toList.take zs.length = zs.map (Value.int .u8) := by rw [← htake, Nat.mul_one]
        rw [ht2]
        simp only [List.map_append, List.map_replicate]
        rw [List.take_left' (by simp)]
    · have holds := hown.cells (g := g) rfl
      have hold : (Builtin.firstCells 1 zs.length (.slice (some ⟨g, 0, none⟩) zs.length cap)).run Tryd.prog w.drew = .ok (zs.map (Value.int .u8)).toArray w.drew := run_firstCells_some w.drew 1 zs.length ⟨g, 0, none⟩ zs.length cap (zs.map (Value.int .u8)) (by simp) holds
      have hgr := grown cap (by omega) (Value.ownBlock (.slice (some ⟨g, 0, none⟩) zs.length cap))
      refine ⟨_, _, ?_, hgr.1, hgr.2⟩
      have h63 : ¬ (9223372036854775807 < (zs.length : Int) + (k : Int)) := by omega
      have hfit := growslice_fits (need := zs.length + k) (old := cap) (bytes := 1) (by omega) (by omega)
      have hfit' : ¬ (281474976710656 < Builtin.nextslicecap (zs.length + k) cap) := by omega
      have hk : ¬ k = 0 := by omega
      simp [Builtin.append_, run_underlying ht, run_underlying htn, sizeOf, typeInfo, hi, hz0, hz1, hz2, asInt, asIntOf, hwr, hneg, h48, hk, h63, hfit', hroom, zeroValue, hcc, Question.forced, hold, newRow, grownCap]

theorem wpList_append_zeros {w : World} {ops : Array Oper} {rest : List Oper} {o : Oper} {a : Act} {Q : Exit → Act → World → Prop} (hgd : o.guard = none) (s x : Operand)
    (ho : o.op = .call { callee := .builtin .append, args := #[s, x], argTypes := #[22, 3] }) (base : Nat) (v : Value) (zs : List Int) (hs : a.eval s = v) (hown : Ob w base v zs)
    (k : Nat) (hx : a.eval x = .int .i64 (k : Int)) (hb : zs.length + k ≤ 70368744177664) (hbase : base ≤ w.heap.size)
    (h : ∀ v' w', Ob w' base v' (zs ++ List.replicate k 0) → w.grownBy w' v.ownBlock → wpList Tryd.prog ops Q rest (a.put o.dst v') w') : wpList Tryd.prog ops Q (o :: rest) a w := by
  refine wpList_plain hgd fun K hK => ?_
  obtain ⟨v', w', hr, h2, h3⟩ := run_append_zeros (w := w) o.type base v zs hown k hb hbase
  unfold Oper.wp execOp
  simp only [ho, resolve, invoke, builtin, Sem.run_bind, Sem.run_pure, Result.andThen_ok, List.map_toArray, List.map_cons, List.map_nil, hs, hx, hr]
  exact hK _ _ (h v' w' h2 h3)

/-- The bytes of a string. -/
def bytesOf (s : ByteArray) : List Int := s.data.toList.map fun b => (b.toNat : Int)
theorem bytesOf_len (s : ByteArray) : (bytesOf s).length = s.size := by
  simp [bytesOf]
theorem bytesOf_byte (s : ByteArray) : ∀ z ∈ bytesOf s, 0 ≤ z ∧ z ≤ 255 := by
  intro z hz
  obtain ⟨b, _, rfl⟩ := List.mem_map.1 hz
  have := b.toNat_lt
  omega
theorem rd_conv (w : World) (s : ByteArray) (c : Nat) (fr : Nat × Nat) (hs : s.size ≤ 140737488355328) (hc : s.size ≤ c) (hm : c ≤ 9223372036854775807) :
    Rd (w.alloc (.cells (bytesRow s c) 5 fr)) (some ⟨w.heap.size, 0, none⟩) s.size c (bytesOf s) := by
  refine ⟨(bytesOf_len s).symm, hc, hm, hs, fun i => ?_, fun _ => ⟨w.heap.size, 0, rfl, by simp, fun i hi => ?_⟩⟩
  · by_cases hi : i < (bytesOf s).length
    · rw [List.getElem?_eq_getElem hi]; exact bytesOf_byte s _ (List.getElem_mem hi)
    · rw [List.getElem?_eq_none (by omega)]; simp
  · rw [World.cell?_alloc_mark]
    simp [bytesRow, bytesOf, Array.getElem?_append, hi]
end Go.Proofs.YtpgogpphobafoabDoor
/-
  What both PutTexts answer, for every slice of bytes and every string that is not too long.
-/
namespace Go.Proofs.YtpgogpphobafoabDoor
open Go.RowKit

theorem specPutVar_none (a : Option Addr) (n c : Nat) (zs : List Int) (m : Int) (w : World) (h : Rd w a n c zs) (hlen : n ≤ 1099511627776) (hr : pv zs m = none) :
    Calls Tryd.prog 41 #[.slice a n c, .int .i64 m] w fun e w' => e = .returned (.tuple #[.slice none 0 0, .bool false]) ∧ Below w.heap.size w w' := by
  refine (specPutVar_any a n c zs m w h hlen).mono ?_
  rintro e w' ⟨hb, ⟨_, he⟩ | ⟨v, zs', hr', _⟩⟩
  · exact ⟨he, hb⟩
  · rw [hr] at hr'; cases hr'
theorem specPutVar_some (a : Option Addr) (n c : Nat) (zs out : List Int) (m : Int) (w : World) (h : Rd w a n c zs) (hlen : n ≤ 1099511627776) (hr : pv zs m = some out) :
    Calls Tryd.prog 41 #[.slice a n c, .int .i64 m] w fun e w' => ∃ v, e = .returned (.tuple #[v, .bool true]) ∧ Ob w' w.heap.size v out ∧ Below w.heap.size w w' := by
  refine (specPutVar_any a n c zs m w h hlen).mono ?_
  rintro e w' ⟨hb, ⟨hr', _⟩ | ⟨v, zs', hr', he, ho⟩⟩
  · rw [hr] at hr'; cases hr'
  · rw [hr] at hr'; cases hr'
    exact ⟨v, he, ho, hb⟩
theorem Ob.drew {w : World} {B : Nat} {v : Value} {zs : List Int} (h : Ob w B v zs) : Ob w.drew B v zs := h
/-- What PutText answers. -/
def pt (zs : List Int) (s : ByteArray) : Option (List Int) := if (zs ++ enc s.size ++ bytesOf s).length ≤ 4096 then some (zs ++ enc s.size ++ bytesOf s) else none

set_option maxHeartbeats 800000 in
theorem specPutText_any (a : Option Addr) (n c : Nat) (zs : List Int) (s : ByteArray) (w : World) (h : Rd w a n c zs) (hlen : n ≤ 1099511627776) (hs : s.size ≤ 1048576) :
    Calls Tryd.prog 42 #[.slice a n c, .string s] w fun e w' => Put w (pt zs s) e w' := by
  have HR := hid h
  clear h
  by_cases h1 : (zs ++ enc s.size).length ≤ 4096
  · have HP := hid (pv_ok zs s.size (by omega) (by omega) h1)
    have hol : (zs ++ enc s.size).length ≤ 4096 := h1
    have HT : Hid (pt zs s = if (zs ++ enc s.size).length + s.size ≤ 4096 then some (zs ++ enc s.size ++ bytesOf s) else none) := by
      show pt zs s = _
      unfold pt
      rw [show (zs ++ enc s.size ++ bytesOf s).length = (zs ++ enc s.size).length + s.size from by rw [List.length_append, bytesOf_len]]
    clear h1
    generalize zs ++ enc s.size = out at HP hol HT
    generalize hL : out.length = L at HT hol
    have HL := hid hL
    clear hL
    have hcv := fun w => run_bytes_of_string (P := Tryd.prog) w 9 22 5 s Tryd.underlying9 Tryd.underlying22 Tryd.underlying5
    by_cases hbig : (4096 : Int) - (L : Int) < (s.size : Int)
    · have HN : Hid (pt zs s = none) := by show pt zs s = none; rw [HT.out]; exact if_neg (by omega)
      go_enter Tryd.func42, Tryd.ntmps42
      go_wp2_with fail
      refine (specPutVar_some a n c zs out _ w HR.out hlen HP.out).mono ?_
      rintro e w1 ⟨v, rfl, ho, hb1⟩
      obtain ⟨a1, c1, hv⟩ := ho.shape
      have HO := hid ho
      rw [HL.out] at hv
      clear ho
      rw [hv]
      go_wp2
      go_ret2
      exact ⟨hb1, .inl ⟨HN.out, rfl⟩⟩
    · have HN : Hid (pt zs s = some (out ++ bytesOf s)) := by show pt zs s = some (out ++ bytesOf s); rw [HT.out]; exact if_pos (by omega)
      go_enter Tryd.func42, Tryd.ntmps42
      go_wp2_with fail
      refine (specPutVar_some a n c zs out _ w HR.out hlen HP.out).mono ?_
      rintro e w1 ⟨v, rfl, ho, hb1⟩
      obtain ⟨a1, c1, hv⟩ := ho.shape
      rw [HL.out] at hv
      have HO : Hid (Ob w1 w.heap.size (.slice a1 L c1) out) := by show Ob w1 w.heap.size (.slice a1 L c1) out; rw [← hv]; exact ho
      clear ho
      rw [hv]
      clear hv
      go_wp2_with (at_builtin; refine wpList_append_rd rfl _ _ rfl w.heap.size _ out rfl ?own _ _ _ (bytesOf s) rfl ?src ?b ?base ?_)
      case own => exact HO.out.alloc _
      case src => exact rd_conv _ s _ _ (by omega) (grownCap_ge _ _ _ _) (by have := grownCap_le_maxLen w1 s.size 0 5 (by unfold maxLen; omega); unfold maxLen at this; omega)
      case b => rw [HL.out, bytesOf_len]; omega
      case base => have := hb1.size; simp; omega
      intro v2 w2 hown2 hg2
      have hb2 : Below w.heap.size w w2 := Ob.below (HO.out.alloc _).drew ((hb1.alloc hb1.size _).drew) (by have := hb1.size; simp; omega) hg2
      have HO2 := hid hown2
      obtain ⟨a2, c2, hv2⟩ := hown2.shape
      clear hown2 hg2
      go_wp2
      go_ret2
      exact ⟨hb2, .inr ⟨v2, out ++ bytesOf s, HN.out, rfl, HO2.out⟩⟩
  · have HP := hid (pv_long zs s.size (by omega))
    have HN : Hid (pt zs s = none) := by
      show pt zs s = none
      unfold pt
      rw [show (zs ++ enc s.size ++ bytesOf s).length = (zs ++ enc s.size).length + s.size from by rw [List.length_append, bytesOf_len]]
      exact if_neg (by omega)
    go_enter Tryd.func42, Tryd.ntmps42
    go_wp2_with (go_at_call 41; refine (specPutVar_none a n c zs _ w HR.out hlen HP.out).mono ?_; rintro e w1 ⟨rfl, hb1⟩)
    go_ret2
    exact ⟨hb1, .inl ⟨HN.out, rfl⟩⟩

set_option maxHeartbeats 400000 in
theorem text_any (g most : Nat) (st : Option (List Int)) (s : ByteArray) (w : World) (h : Wr w g most st) (he : Err w 0) (he2 : Err w 2) (hg : 0 < g) (hs : s.size ≤ 1048576) :
    Calls Tryd.prog 55 #[.pointer (some ⟨g, 0, none⟩), .string s] w fun e w' => e = .returned (.tuple #[]) ∧ Below g w w' ∧ Wr w' g most (addSt most (numSt most st s.size) (bytesOf s)) := by
  have hlt := h.lt
  have HW := hid h
  have HE := hid he
  have HE2 := hid he2
  clear h he he2
  have hcv := fun w => run_bytes_of_string (P := Tryd.prog) w 9 22 5 s Tryd.underlying9 Tryd.underlying22 Tryd.underlying5
  go_enter Tryd.func55, Tryd.ntmps55
  go_wp2_with (go_at_call 54; refine (number_any g most st s.size w HW.out HE.out HE2.out hg).mono ?_; rintro e w1 ⟨rfl, hb1, hw1⟩)
  have HW1 := hid hw1
  have HB1 := hid hb1
  clear hw1 hb1
  have hlt1 : g ≤ w1.heap.size := Nat.le_of_lt HW1.out.lt
  refine (add_any g most (numSt most st s.size) _ s.size _ (bytesOf s) _ ?gw ?ge ?gs (by omega)).mono ?_
  case gw => exact HW1.out.alloc _
  case ge => exact (HE.out.below HB1.out hg).below ((Below.refl g w1).alloc hlt1 _).drew hg
  case gs => exact rd_conv _ s _ _ (by omega) (grownCap_ge _ _ _ _) (by have := grownCap_le_maxLen w1 s.size 0 5 (by unfold maxLen; omega); unfold maxLen at this; omega)
  rintro e w2 ⟨rfl, hb2, hw2⟩
  have HB2 := hid hb2
  have HW2 := hid hw2
  clear hb2 hw2
  go_wp2
  go_end0
  exact ⟨rfl, HB1.out.trans (((Below.refl g w1).alloc hlt1 _).drew.trans HB2.out), HW2.out⟩
theorem addSt_pt (zs : List Int) (s : ByteArray) (hs : s.size ≤ 1048576) : addSt 4096 (numSt 4096 (addSt 4096 (some []) zs) s.size) (bytesOf s) = pt zs s := by
  unfold numSt
  rw [if_pos ⟨by omega, by omega⟩, addSt_addSt, addSt_addSt, addSt_start]
  unfold pt
  rw [List.append_assoc]

end Go.Proofs.YtpgogpphobafoabDoor
/-
  What both Fills answer, for every slice of bytes and every size.
-/
namespace Go.Proofs.YtpgogpphobafoabDoor
open Go.RowKit

/-- What Fill answers. -/
def fl (zs : List Int) (m : Int) : Option (List Int) := if (zs.length : Int) ≤ m ∧ m ≤ 4096 then some (zs ++ List.replicate (m - zs.length).toNat 0) else none
theorem fl_bad (zs : List Int) (m : Int) (h : m < zs.length ∨ 4096 < m) : fl zs m = none := by unfold fl; exact if_neg (by omega)
theorem fl_ok (zs : List Int) (k : Nat) (h : zs.length + k ≤ 4096) : fl zs ((zs.length : Int) + (k : Int)) = some (zs ++ List.replicate k 0) := by
  unfold fl
  rw [if_pos (by omega)]
  congr 3
  omega

set_option maxHeartbeats 800000 in
theorem specFill_any (a : Option Addr) (n c : Nat) (zs : List Int) (m : Int) (w : World) (h : Rd w a n c zs) (hlen : n ≤ 1099511627776) :
    Calls Tryd.prog 43 #[.slice a n c, .int .i64 m] w fun e w' => Put w (fl zs m) e w' := by
  have HN : Hid (n = zs.length) := h.1
  have HR := hid h
  clear h
  by_cases h0 : m < 0
  · have HF : Hid (fl zs m = none) := fl_bad zs m (by omega)
    go_enter Tryd.func43, Tryd.ntmps43
    go_wp2
    go_ret2
    exact ⟨Below.refl _ _, .inl ⟨HF.out, rfl⟩⟩
  · by_cases h1 : 4096 < m
    · have HF : Hid (fl zs m = none) := fl_bad zs m (by omega)
      go_enter Tryd.func43, Tryd.ntmps43
      go_wp2
      go_ret2
      exact ⟨Below.refl _ _, .inl ⟨HF.out, rfl⟩⟩
    · by_cases h2 : m < (n : Int)
      · have HF : Hid (fl zs m = none) := fl_bad zs m (by rw [← HN.out]; exact .inl h2)
        go_enter Tryd.func43, Tryd.ntmps43
        go_wp2
        go_ret2
        exact ⟨Below.refl _ _, .inl ⟨HF.out, rfl⟩⟩
      · obtain ⟨k, hk⟩ : ∃ k : Nat, m - (n : Int) = (k : Int) := ⟨(m - (n : Int)).toNat, by omega⟩
        have HF : Hid (fl zs m = some (zs ++ List.replicate k 0)) := by
          show fl zs m = some (zs ++ List.replicate k 0)
          have := fl_ok zs k (by rw [← HN.out]; omega)
          rw [← HN.out] at this
          rw [← this]; congr 1; omega
        have HK := hid hk
        have hkb : k ≤ 4096 := by omega
        clear hk
        go_enter Tryd.func43, Tryd.ntmps43
        go_wp2_with (at_builtin; refine wpList_append_rd rfl _ _ rfl w.heap.size _ [] rfl (ob_new w w.heap.size (Nat.le_refl _)) a n c zs rfl ?src ?b ?base ?_)
        case src => exact HR.out.kept ((Below.refl _ _).alloc (Nat.le_refl _) _)
        case b => rw [← HN.out]; omega
        intro v1 w1 hown1 hg1
        have hb1 : Below w.heap.size w w1 := Ob.below (ob_new w w.heap.size (Nat.le_refl _)) ((Below.refl _ _).alloc (Nat.le_refl _) _) (by simp) hg1
        have HO : Hid (Ob w1 w.heap.size v1 zs) := by show Ob w1 w.heap.size v1 zs; simpa using hown1
        clear hown1 hg1
        go_wp2_with (at_builtin; refine wpList_append_zeros rfl _ _ rfl w.heap.size _ zs rfl HO.out k (congrArg (Value.int .i64) HK.out) ?b2 ?base2 ?_)
        case b2 => rw [← HN.out]; omega
        case base2 => exact hb1.size
        intro v2 w2 hown2 hg2
        have hb2 : Below w.heap.size w w2 := Ob.below HO.out hb1 hb1.size hg2
        have HO2 := hid hown2
        clear hown2 hg2
        go_wp2
        go_ret2
        exact ⟨hb2, .inr ⟨v2, _, HF.out, rfl, HO2.out⟩⟩
/-- What fill does to the writer's state. -/
def fillSt (most : Nat) : Option (List Int) → Int → Option (List Int)
  | none, _ => none
  | some zs, m => if (zs.length : Int) ≤ m ∧ m ≤ most then some (zs ++ List.replicate (m - zs.length).toNat 0) else none

theorem rd_zero (w : World) (k : Nat) (hk : k ≤ 1048576) : Rd (w.alloc (.cells (madeCells #[.int .u8 0] k) 5)) (some ⟨w.heap.size, 0, none⟩) k k (List.replicate k 0) := by
  refine ⟨by simp, Nat.le_refl _, by omega, by omega, fun i => ?_, fun _ => ⟨w.heap.size, 0, rfl, by simp, fun i hi => ?_⟩⟩
  · by_cases hi : i < k
    · simp [hi]
    · rw [List.getElem?_eq_none (by simp; omega)]; simp
  · rw [World.cell?_alloc_at (hn := rfl)]
    simp [madeCells, hi, Nat.mod_one]

set_option maxHeartbeats 800000 in
theorem fill_any (g most : Nat) (st : Option (List Int)) (m : Int) (w : World) (h : Wr w g most st) (hm4 : most ≤ 1048576) (he : Err w 0) (he2 : Err w 1) (hg : 0 < g) :
    Calls Tryd.prog 29 #[.pointer (some ⟨g, 0, none⟩), .int .i64 m] w fun e w' => e = .returned (.tuple #[]) ∧ Below g w w' ∧ Wr w' g most (fillSt most st m) := by
  have HW := hid h
  have HE := hid he
  have hlt := h.lt
  obtain ⟨v, ev, zs, c0, c1, c2, f0, f2, ho, hl, hm, hb, hst⟩ := h
  obtain ⟨t, x, hx⟩ := he2
  obtain ⟨va, vc, hv⟩ := ho.shape
  have HO := hid ho
  have HB := hid hb
  have HV := hid hv
  rw [hv] at c0
  generalize hL : zs.length = L at hv hl c0
  have HL := hid hL
  clear ho hb hL hv he
  by_cases hbad : m < (L : Int) ∨ (most : Int) < m
  · rcases hst with ⟨rfl, rfl⟩ | ⟨⟨y, z, rfl⟩, rfl⟩
    · have HA : Hid (fillSt most (some zs) m = none) := by
        show fillSt most (some zs) m = none
        unfold fillSt
        exact if_neg (by rw [HL.out]; omega)
      rcases (by omega : m < (L : Int) ∨ (¬ m < (L : Int) ∧ (most : Int) < m)) with hb1 | ⟨hb1, hb3⟩
      all_goals
        clear hbad
        go_enter Tryd.func29, Tryd.ntmps29
        go_wp2_with (go_at_call 47; refine (fail_set g t x _ c2 f2).mono ?_; rintro e w1 ⟨rfl, hw1⟩)
        go_end0
        refine ⟨rfl, Below.setCell (p := ⟨g, 2, none⟩) (Below.refl g w) (Nat.le_refl g) _, ?_⟩
        rw [HA.out]
        exact wr_failed (by rw [c0, HV.out, HL.out]) c1 c2 f0 f2 HO.out (by rw [HL.out]; exact hl) hm HB.out
    · rcases (by omega : m < (L : Int) ∨ (¬ m < (L : Int) ∧ (most : Int) < m)) with hb1 | ⟨hb1, hb3⟩
      all_goals
        clear hbad
        go_enter Tryd.func29, Tryd.ntmps29
        go_wp2_with (go_at_call 47; refine (fail_keep g t x _ y z c2).mono ?_; rintro e w1 ⟨rfl, rfl⟩)
        go_end0
        exact ⟨rfl, Below.refl _ _, HW.out⟩
  · have hb1 : ¬ m < (L : Int) := by omega
    have hb2 : ¬ (most : Int) < m := by omega
    clear hbad
    rcases hst with ⟨rfl, rfl⟩ | ⟨⟨y, z, rfl⟩, rfl⟩
    · obtain ⟨k, hk⟩ : ∃ k : Nat, m - (L : Int) = (k : Int) := ⟨(m - (L : Int)).toNat, by omega⟩
      have hkb : k ≤ 1048576 := by omega
      have HK := hid hk
      clear hk
      have HA : Hid (fillSt most (some zs) m = addSt most (some zs) (List.replicate k 0)) := by
        show fillSt most (some zs) m = addSt most (some zs) (List.replicate k 0)
        have := HK.out
        have e1 : fillSt most (some zs) m = if (zs.length : Int) ≤ m ∧ m ≤ most then some (zs ++ List.replicate (m - zs.length).toNat 0) else none := rfl
        have e2 : addSt most (some zs) (List.replicate k 0) = if zs.length + (List.replicate k (0 : Int)).length ≤ most then some (zs ++ List.replicate k 0) else none := rfl
        rw [e1, e2, HL.out, this, if_pos (by omega), if_pos (by simp; omega)]
        simp
      have hmk : ∀ w, (Instr.makeSlice 22 (.int .i64 (m - (L : Int))) (.int .i64 (m - (L : Int)))).run Tryd.prog w = .ok (.slice (some ⟨w.heap.size, 0, none⟩) k k) (w.alloc (.cells (madeCells #[.int .u8 0] k) 5)) := fun w => by
        rw [HK.out]
        exact run_make_row' (P := Tryd.prog) 22 5 (.int .u8 0) 1 Tryd.underlying22 infoU8 rfl .i64 .i64 k (by omega) (by omega) w
      have HB0 := hid (show Below g w (w.alloc (.cells (madeCells #[.int .u8 0] k) 5)) from (Below.refl _ _).alloc (Nat.le_of_lt hlt) _)
      go_enter Tryd.func29, Tryd.ntmps29
      go_wp2_with (go_at_call 28; refine (add_any g most (some zs) _ k k (List.replicate k 0) _ (HW.out.alloc _) (HE.out.below HB0.out hg) (rd_zero w k hkb) (by omega)).mono ?_; rintro e w1 ⟨rfl, hb, hw⟩)
      go_end0
      exact ⟨rfl, HB0.out.trans hb, by rw [HA.out]; exact hw⟩
    · go_enter Tryd.func29, Tryd.ntmps29
      go_wp2
      go_end0
      exact ⟨rfl, Below.refl _ _, HW.out⟩
theorem fillSt_fl (zs : List Int) (m : Int) : fillSt 4096 (addSt 4096 (some []) zs) m = fl zs m := by
  rw [addSt_start]
  by_cases h : zs.length ≤ 4096
  · rw [if_pos h]; rfl
  · rw [if_neg h, fl_bad zs m (by omega)]; rfl

set_option maxHeartbeats 400000 in
theorem implFill_any (a : Option Addr) (n c : Nat) (zs : List Int) (m : Int) (w : World) (h : Rd w a n c zs) (hlen : n ≤ 1099511627776)
    (he : Err w 0) (he2 : Err w 1) (hg : 0 < w.heap.size) (hg2 : 1 < w.heap.size) :
    Calls Tryd.prog 44 #[.slice a n c, .int .i64 m] w fun e w' => Put w (fl zs m) e w' := by
  have HR := hid h
  have HE := hid he
  have HE2 := hid he2
  have HG := hid hg
  have HG2 := hid hg2
  have HP := hid (fillSt_fl zs m)
  clear h he he2 hg hg2
  go_enter Tryd.func44, Tryd.ntmps44
  go_wp2_with fail
  refine (newWriter_any 4096 a n c zs w HE.out HG.out HR.out hlen (by omega)).mono ?_
  rintro e w1 ⟨rfl, hb1, hw1⟩
  have HB1 := hid hb1
  have HW1 := hid hw1
  clear hb1 hw1
  go_wp2_with fail
  refine (fill_any w.heap.size 4096 _ m w1 HW1.out (by omega) (HE.out.below HB1.out HG.out) (HE2.out.below HB1.out HG2.out) HG.out).mono ?_
  rintro e w2 ⟨rfl, hb2, hw2⟩
  have HB2 := hid (HB1.out.trans hb2)
  have HW2 := hid hw2
  clear hb2 hw2
  go_wp2_with fail
  refine (told_put w w2 4096 _ HW2.out HB2.out).mono ?_
  rintro e w3 ⟨v, b, rfl, ⟨a3, n3, c3, hv⟩, hput⟩
  rw [HP.out] at hput
  have HQ := hid hput
  clear hput
  rw [hv] at HQ
  rw [hv]
  go_wp2
  go_ret2
  exact HQ.out
end Go.Proofs.YtpgogpphobafoabDoor
/-
  A page's bytes as plain data; PageBytes of the specification.
-/
namespace Go.Proofs.YtpgogpphobafoabDoor
open Go.RowKit
def pgHead (p : PG) : List Int := (if p.kids.length = 0 then [76] else [66]) ++ enc p.keys.length ++ (if p.kids.length = 0 then [] else enc (iAt p.kids 0))
def pgPart (p : PG) (i : Nat) : List Int := enc (sAt p.keys i).size ++ bytesOf (sAt p.keys i) ++ (if p.kids.length = 0 then enc (sAt p.vals i).size ++ bytesOf (sAt p.vals i) else enc (iAt p.kids (i + 1)))
def pgBody (p : PG) : Nat → List Int
  | 0 => pgHead p
  | j + 1 => pgBody p j ++ pgPart p j
def pgRaw (p : PG) : List Int := pgBody p p.keys.length
def pgFull (p : PG) : List Int := pgRaw p ++ List.replicate (512 - (pgRaw p).length) 0
def pgBytes (p : PG) : Option (List Int) := if pgOk p = true then some (pgFull p) else none
theorem sOkF_all (ss : List ByteArray) : ∀ f k, sOkF ss f k = true → ∀ i, k ≤ i → i < k + f → kOk (ss[i]?.getD ⟨#[]⟩) = true
  | 0, k, _, i, h1, h2 => by omega
  | f + 1, k, h, i, h1, h2 => by
    simp only [sOkF, Bool.and_eq_true] at h
    by_cases e : i = k
    · rw [e]; exact h.1.1
    · exact sOkF_all ss f (k + 1) h.2 i (by omega) (by omega)
theorem all_at {α : Type} {l : List α} {f : α → Bool} (h : l.all f = true) (d : α) {i : Nat} (hi : i < l.length) : f (l[i]?.getD d) = true := by
  have := (List.all_eq_true.1 h) l[i] (List.getElem_mem hi)
  simpa [hi] using this
/-- What a right page is, in numbers. -/
structure PgF (p : PG) : Prop where
  nk : p.keys.length ≤ 4
  ks : ∀ i, i < p.keys.length → (sAt p.keys i).size ≤ 16
  lf : p.kids.length = 0 → p.vals.length = p.keys.length ∧ ∀ i, i < p.vals.length → (sAt p.vals i).size ≤ 60
  br : ¬ p.kids.length = 0 → p.kids.length = p.keys.length + 1 ∧ ∀ i, i < p.kids.length → 2 ≤ iAt p.kids i ∧ iAt p.kids i < 400
theorem pgOk_facts {p : PG} (h : pgOk p = true) : PgF p := by
  simp only [pgOk, Bool.and_eq_true] at h
  obtain ⟨h1, h2⟩ := h
  have hks : ∀ i, i < p.keys.length → (sAt p.keys i).size ≤ 16 := by
    intro i hi
    have := sOkF_all _ _ _ h1 i (Nat.zero_le _) (by omega)
    simp [kOk] at this
    exact this.2
  by_cases h0 : p.kids.length = 0
  · rw [if_pos h0] at h2
    simp only [pgLeaf, Bool.and_eq_true, decide_eq_true_eq] at h2
    obtain ⟨h3, ⟨_, h4⟩, h5⟩ := h2
    refine ⟨h4, hks, fun _ => ⟨h5, fun i hi => ?_⟩, fun h => absurd h0 h⟩
    have := all_at h3 ⟨#[]⟩ hi
    simpa [vOk, sAt] using this
  · rw [if_neg h0] at h2
    simp only [pgBranch, Bool.and_eq_true, decide_eq_true_eq] at h2
    obtain ⟨h3, ⟨⟨_, h4⟩, h5⟩, h6⟩ := h2
    refine ⟨by omega, hks, fun h => absurd h h0, fun _ => ⟨by omega, fun i hi => ?_⟩⟩
    have := all_at h3 0 hi
    simpa [kidOk, iAt] using this
theorem pgPart_len {p : PG} (h : PgF p) {i : Nat} (hi : i < p.keys.length) : (pgPart p i).length ≤ 90 := by
  have h1 := h.ks i hi
  have e1 := enc_len (sAt p.keys i).size
  unfold pgPart
  by_cases h0 : p.kids.length = 0
  · obtain ⟨h2, h3⟩ := h.lf h0
    have h4 := h3 i (by omega)
    have e2 := enc_len (sAt p.vals i).size
    rw [if_pos h0]
    simp only [List.length_append, bytesOf_len]
    omega
  · have e2 := enc_len (iAt p.kids (i + 1))
    rw [if_neg h0]
    simp only [List.length_append, bytesOf_len]
    omega
theorem pgHead_len (p : PG) : (pgHead p).length ≤ 15 := by
  have e1 := enc_len p.keys.length
  have e2 := enc_len (iAt p.kids 0)
  unfold pgHead
  split
  · simp; omega
  · simp; omega
theorem pgBody_len {p : PG} (h : PgF p) : ∀ j, j ≤ p.keys.length → (pgBody p j).length ≤ 15 + j * 90
  | 0, _ => by simpa [pgBody] using pgHead_len p
  | j + 1, hj => by
    have h1 := pgBody_len h j (by omega)
    have h2 := pgPart_len h (show j < p.keys.length by omega)
    rw [pgBody, List.length_append]
    omega
theorem pgPart_byte {p : PG} (h : PgF p) {i : Nat} (hi : i < p.keys.length) : ∀ z ∈ pgPart p i, 0 ≤ z ∧ z ≤ 255 := by
  have h1 := h.ks i hi
  unfold pgPart
  refine byte_append (byte_append (enc_byte _ (by omega) (by omega)) (bytesOf_byte _)) ?_
  by_cases h0 : p.kids.length = 0
  · obtain ⟨h2, h3⟩ := h.lf h0
    have h4 := h3 i (by omega)
    rw [if_pos h0]
    exact byte_append (enc_byte _ (by omega) (by omega)) (bytesOf_byte _)
  · obtain ⟨h2, h3⟩ := h.br h0
    have h4 := h3 (i + 1) (by omega)
    rw [if_neg h0]
    exact enc_byte _ (by omega) (by omega)
theorem pgHead_byte {p : PG} (h : PgF p) : ∀ z ∈ pgHead p, 0 ≤ z ∧ z ≤ 255 := by
  have h1 := h.nk
  unfold pgHead
  by_cases h0 : p.kids.length = 0
  · rw [if_pos h0, if_pos h0]
    exact byte_append (byte_append (by intro z hz; simp at hz; omega) (enc_byte _ (by omega) (by omega))) (by intro z hz; cases hz)
  · obtain ⟨h2, h3⟩ := h.br h0
    have h4 := h3 0 (by omega)
    rw [if_neg h0, if_neg h0]
    exact byte_append (byte_append (by intro z hz; simp at hz; omega) (enc_byte _ (by omega) (by omega))) (enc_byte _ (by omega) (by omega))
theorem pgBody_byte {p : PG} (h : PgF p) : ∀ j, j ≤ p.keys.length → ∀ z ∈ pgBody p j, 0 ≤ z ∧ z ≤ 255
  | 0, _ => by rw [pgBody]; exact pgHead_byte h
  | j + 1, hj => by rw [pgBody]; exact byte_append (pgBody_byte h j (by omega)) (pgPart_byte h (show j < p.keys.length by omega))
/-- An owned row of bytes, as a slice that is read. -/
theorem Ob.rdS {w : World} {B : Nat} {v : Value} {zs : List Int} (h : Ob w B v zs) (hl : ∀ z ∈ zs, 0 ≤ z ∧ z ≤ 255) (hb : zs.length ≤ 1000) : ∃ a n c, v = .slice a n c ∧ Hid (Rd w a n c zs) ∧ n ≤ 1000 := by
  obtain ⟨a, c, e, hr, _⟩ := h.rd (byte_at hl) (by omega)
  exact ⟨a, _, c, e, hr, hb⟩
theorem Put.got {w w' : World} {r : Option (List Int)} {e : Ending} {zs : List Int} (h : Put w r e w') (hr : r = some zs) : ∃ v, e = .returned (.tuple #[v, .bool true]) ∧ Ob w' w.heap.size v zs ∧ Below w.heap.size w w' := by
  obtain ⟨hb, ⟨h1, _⟩ | ⟨v, zs', h1, h2, h3⟩⟩ := h
  · rw [hr] at h1; cases h1
  · rw [hr] at h1; cases h1
    exact ⟨v, h2, h3, hb⟩
/-- What PageBytes holds in hand while it writes. -/
structure Pw1 (w v : World) (x : Nat) (ka : Option Addr) (kn kc : Nat) (va : Option Addr) (vn vc : Nat) (ia : Option Addr) (jn ic : Nat) (p : PG) : Prop where
  be : Below w.heap.size w v
  bk : Bk v x 40 [.slice ka kn kc, .slice va vn vc, .slice ia jn ic]
  pg : Pgr v (fun _ => True) ka kn kc va vn vc ia jn ic p
theorem Pw1.below {w v v' : World} {x : Nat} {ka : Option Addr} {kn kc : Nat} {va : Option Addr} {vn vc : Nat} {ia : Option Addr} {jn ic : Nat} {p : PG} (h : Pw1 w v x ka kn kc va vn vc ia jn ic p) (hb : Below v.heap.size v v') : Pw1 w v' x ka kn kc va vn vc ia jn ic p :=
  ⟨h.be.trans (hb.mono h.be.size), h.bk.below hb, h.pg.below hb⟩
theorem Pw1.cells {w v : World} {x : Nat} {ka : Option Addr} {kn kc : Nat} {va : Option Addr} {vn vc : Nat} {ia : Option Addr} {jn ic : Nat} {p : PG} (h : Pw1 w v x ka kn kc va vn vc ia jn ic p) : v.cell? ⟨x, 0, none⟩ = some (.slice ka kn kc) ∧ v.cell? ⟨x, 1, none⟩ = some (.slice va vn vc) ∧ v.cell? ⟨x, 2, none⟩ = some (.slice ia jn ic) :=
  ⟨h.bk.cell (j := 0) rfl, h.bk.cell (j := 1) rfl, h.bk.cell (j := 2) rfl⟩
set_option maxHeartbeats 8000000 in
set_option maxRecDepth 20000 in
theorem specPageBytes_any (S : Nat → Prop) (ka : Option Addr) (kn kc : Nat) (va : Option Addr) (vn vc : Nat) (ia : Option Addr) (jn ic : Nat) (p : PG) (w : World) (h : Pgr w S ka kn kc va vn vc ia jn ic p) :
    Calls Tryd.prog 19 #[.agg #[.slice ka kn kc, .slice va vn vc, .slice ia jn ic]] w fun e w' => Put w (pgBytes p) e w' := by
  have hb0 := below_new (o := .cells #[.slice ka kn kc, .slice va vn vc, .slice ia jn ic] 40) (w := w) (Below.refl _ _)
  have L0 : Hid (Pw1 w (w.alloc (.cells #[.slice ka kn kc, .slice va vn vc, .slice ia jn ic] 40)) w.heap.size ka kn kc va vn vc ia jn ic p) := by
    have hp := h.below hb0
    exact ⟨hb0, Bk.new w 40 [.slice ka kn kc, .slice va vn vc, .slice ia jn ic], Rw.mono hp.hk (fun _ _ _ => trivial), Rw.mono hp.hv (fun _ _ _ => trivial), Rw.mono hp.hi (fun _ _ _ => trivial)⟩
  have HNK := hid (Rw.len h.hk).1
  have HNV := hid (Rw.len h.hv).1
  have HNI := hid (Rw.len h.hi).1
  have bk := (Rw.len h.hk).2
  have bv := (Rw.len h.hv).2
  have bi := (Rw.len h.hi).2
  clear h hb0
  obtain ⟨c0, c1, c2⟩ := L0.out.cells
  go_enter Tryd.func19, Tryd.ntmps19
  go_wp2_with fail
  refine (specPageOk_any _ ka kn kc va vn vc ia jn ic p _ L0.out.pg).mono ?_
  generalize w.alloc (.cells #[.slice ka kn kc, .slice va vn vc, .slice ia jn ic] 40) = U at *
  rintro e w1 ⟨rfl, hb1⟩
  have L1 := hid (L0.out.below hb1)
  clear hb1 L0 c0 c1 c2
  have HP : Hid (pgBytes p = if pgOk p = true then some (pgFull p) else none) := rfl
  cases hok : pgOk p with
  | false =>
    have HN : Hid (pgBytes p = none) := by show _ = _; rw [HP.out, hok]; rfl
    go_wp2
    go_ret2
    exact ⟨L1.out.be, .inl ⟨HN.out, rfl⟩⟩
  | true =>
    have HN : Hid (pgBytes p = some (pgFull p)) := by show _ = _; rw [HP.out, hok]; rfl
    have HF := hid (pgOk_facts hok)
    have hk4 : kn ≤ 4 := by rw [HNK.out]; exact HF.out.nk
    clear hok HP
    by_cases hi0 : jn = 0
    · subst hi0
      have h0 : p.kids.length = 0 := HNI.out.symm
      have HEH : Hid (pgHead p = [76] ++ enc (kn : Int)) := by show _ = _; rw [pgHead, if_pos h0, if_pos h0, ← HNK.out]; simp
      have hpv : pv [76] (kn : Int) = some ([76] ++ enc (kn : Int)) := pv_ok _ _ (by omega) (by omega) (by have := enc_len (kn : Int); simp; omega)
      have HPV := hid hpv
      have HPA : Hid (∀ i, pgPart p i = enc (sAt p.keys i).size ++ bytesOf (sAt p.keys i) ++ (enc (sAt p.vals i).size ++ bytesOf (sAt p.vals i))) := fun i => by rw [pgPart, if_pos h0]
      obtain ⟨hvl, hvs⟩ := HF.out.lf h0
      have hvn : vn = kn := by rw [HNV.out, hvl, HNK.out]
      have HVS := hid hvs
      clear hpv h0 hvl hvs
      have ba := below_new (o := .cells #[.int .u8 76] 5) (w := w1) (Below.refl _ _)
      have L2 := hid (L1.out.below ba)
      have R2 := hid (rd_one w1 76 (by omega) (by omega))
      clear ba L1
      obtain ⟨c0, c1, c2⟩ := L2.out.cells
      go_wp2_with fail
      refine (specPutVar_any _ _ _ _ _ _ R2.out (by omega)).mono ?_
      generalize w1.alloc (.cells #[.int .u8 76] 5) = U2 at *
      intro e w3 hput
      obtain ⟨v3, rfl, hO3, hb3⟩ := hput.got HPV.out
      rw [← HEH.out] at hO3
      obtain ⟨a3, n3, c3, rfl, R3, hn3⟩ := hO3.rdS (pgHead_byte HF.out) (by have := pgHead_len p; omega)
      have L3 := hid (L2.out.below hb3)
      clear hput hO3 hb3 L2 R2 c0 c1 c2 HPV HEH
      obtain ⟨c0, c1, c2⟩ := L3.out.cells
      go_wp2_with fail
      clear c0 c1 c2
      go_loopw [4, 41] (fun xv i wr => ∃ (j : Nat) (a4 : Option Addr) (n4 c4 : Nat), j ≤ kn ∧ i = .int .i64 j ∧ xv = .slice a4 n4 c4 ∧ n4 ≤ 1000 ∧ Hid (Rd wr a4 n4 c4 (pgBody p j)) ∧ Hid (Pw1 w wr w.heap.size ka kn kc va vn vc ia 0 ic p)) (fun _ i _ => kn - (intOf i).toNat)
      case atStart => exact ⟨0, a3, n3, c3, Nat.zero_le _, rfl, rfl, hn3, R3.out, L3.out⟩
      case round =>
        obtain ⟨j, a4, n4, c4, hj, rfl, rfl, hn4, R4, L4⟩ := hrel
        clear R3 L3
        by_cases hlt : j < kn
        · have hlt' : (j : Int) < (kn : Int) := by omega
          have hjl : j < p.keys.length := by rw [← HNK.out]; exact hlt
          have hjv : j < p.vals.length := by rw [← HNV.out]; omega
          obtain ⟨c0, c1, c2⟩ := L4.out.cells
          obtain ⟨kb, ko, hka, -, -, hck⟩ := L4.out.pg.hk.at (by omega)
          obtain ⟨vb, vo, hva, -, -, hcv⟩ := L4.out.pg.hv.at (by omega)
          subst hka hva
          have m0 := hck j hlt
          have hks := HF.out.ks j hjl
          have hvs := HVS.out j hjv
          have HST : Hid (pgBody p (j + 1) = pgBody p j ++ (enc (sAt p.keys j).size ++ bytesOf (sAt p.keys j) ++ (enc (sAt p.vals j).size ++ bytesOf (sAt p.vals j)))) := by show _ = _; rw [pgBody, HPA.out]
          have HLN := hid (pgBody_len HF.out j (by omega))
          have HBY := hid (pgBody_byte HF.out j (by omega))
          have HCV : Hid (∀ u, Pw1 w u w.heap.size (some ⟨kb, ko, none⟩) kn kc (some ⟨vb, vo, none⟩) vn vc ia 0 ic p → u.cell? ⟨vb, vo + j, none⟩ = some (.string (sAt p.vals j))) := by
            intro u hu
            obtain ⟨vb', vo', e, -, -, hc⟩ := hu.pg.hv.at (by omega)
            cases e
            exact hc j (by omega)
          clear hck hcv
          generalize sAt p.keys j = kk at *
          generalize sAt p.vals j = vv at *
          have ek := enc_len kk.size
          have ev := enc_len vv.size
          have HPT1 : Hid (pt (pgBody p j) kk = some (pgBody p j ++ enc kk.size ++ bytesOf kk)) := by
            show _ = _
            rw [pt, if_pos]
            have := HLN.out
            simp only [List.length_append, bytesOf_len]
            omega
          have HPT2 : Hid (pt (pgBody p j ++ enc kk.size ++ bytesOf kk) vv = some (pgBody p (j + 1))) := by
            show _ = _
            rw [pt, if_pos, HST.out]
            · simp
            · have := HLN.out
              simp only [List.length_append, bytesOf_len]
              omega
          have HB1 : Hid (∀ z ∈ pgBody p j ++ enc kk.size ++ bytesOf kk, 0 ≤ z ∧ z ≤ 255) := byte_append (byte_append HBY.out (enc_byte _ (by omega) (by omega))) (bytesOf_byte _)
          have HL1 : Hid ((pgBody p j ++ enc kk.size ++ bytesOf kk).length ≤ 1000) := by
            show _ ≤ _
            have := HLN.out
            simp only [List.length_append, bytesOf_len]
            omega
          have HB2 := hid (pgBody_byte HF.out (j + 1) (by omega))
          have HL2 : Hid ((pgBody p (j + 1)).length ≤ 1000) := by have := pgBody_len HF.out (j + 1) (by omega); show _ ≤ _; omega
          clear ek ev
          go_wp2_with fail
          refine (specPutText_any a4 n4 c4 _ kk _ R4.out (by omega) (by omega)).mono ?_
          intro e w5 hput
          obtain ⟨v5, rfl, hO5, hb5⟩ := hput.got HPT1.out
          obtain ⟨a5, n5, c5, rfl, R5, hn5⟩ := hO5.rdS HB1.out HL1.out
          have L5 := hid (L4.out.below hb5)
          have m5 := HCV.out _ L5.out
          clear hput hO5 hb5 L4 R4 c0 c1 c2 m0
          obtain ⟨c0, c1, c2⟩ := L5.out.cells
          go_wp2_with fail
          refine (specPutText_any a5 n5 c5 _ vv _ R5.out (by omega) (by omega)).mono ?_
          intro e w6 hput
          obtain ⟨v6, rfl, hO6, hb6⟩ := hput.got HPT2.out
          obtain ⟨a6, n6, c6, rfl, R6, hn6⟩ := hO6.rdS HB2.out HL2.out
          have L6 := hid (L5.out.below hb6)
          clear hput hO6 hb6 L5 R5 c0 c1 c2 m5 HPT1 HPT2 HB1 HL1 HB2 HL2 HST HLN HBY HCV
          go_wp2
          go_roundw
          case rel => exact ⟨j + 1, a6, n6, c6, by omega, by go_num, rfl, hn6, R6.out, L6.out⟩
          case measure => simp [intOf]; omega
        · have hlt' : ¬ (j : Int) < (kn : Int) := by omega
          have hjk : j = p.keys.length := by rw [← HNK.out]; omega
          have HFL : Hid (fl (pgBody p j) 512 = some (pgFull p)) := by
            show _ = _
            have hl := pgBody_len HF.out p.keys.length (Nat.le_refl _)
            have hn := HF.out.nk
            rw [hjk, fl, if_pos (by omega)]
            show some (pgRaw p ++ _) = _
            rw [pgFull]
            congr 3
            show ((512 : Int) - ((pgRaw p).length : Int)).toNat = _
            omega
          clear hjk
          go_wp2_with fail
          refine (specFill_any a4 n4 c4 _ 512 _ R4.out (by omega)).mono ?_
          intro e w5 hput
          obtain ⟨v5, rfl, hO5, hb5⟩ := hput.got HFL.out
          have L5 := hid (L4.out.below hb5)
          have HO : Hid (Ob w5 w.heap.size v5 (pgFull p)) := hO5.mono L4.out.be.size
          clear hput hO5 hb5 L4 R4 HFL
          go_wp2
          go_ret2
          exact ⟨L5.out.be, .inr ⟨_, _, HN.out, rfl, HO.out⟩⟩
    · have hi0' : (0 : Int) < (jn : Int) := by omega
      have h0 : ¬ p.kids.length = 0 := by rw [← HNI.out]; exact hi0
      obtain ⟨hil, his⟩ := HF.out.br h0
      have HJN : Hid (jn = kn + 1) := by show _ = _; rw [HNI.out, hil, HNK.out]
      have HIS := hid his
      have h00 := his 0 (by have := HNI.out; omega)
      have HEH : Hid (pgHead p = [66] ++ enc (kn : Int) ++ enc (iAt p.kids 0)) := by show _ = _; rw [pgHead, if_neg h0, if_neg h0, ← HNK.out]
      have HPV : Hid (pv [66] (kn : Int) = some ([66] ++ enc (kn : Int))) := pv_ok _ _ (by omega) (by omega) (by have := enc_len (kn : Int); simp; omega)
      have HPV2 : Hid (pv ([66] ++ enc (kn : Int)) (iAt p.kids 0) = some (pgHead p)) := by
        show _ = _
        rw [HEH.out]
        exact pv_ok _ _ (by omega) (by omega) (by have := enc_len (kn : Int); have := enc_len (iAt p.kids 0); simp; omega)
      have HBY0 : Hid (∀ z ∈ [66] ++ enc (kn : Int), 0 ≤ z ∧ z ≤ 255) := byte_append (by intro z hz; simp at hz; omega) (enc_byte _ (by omega) (by omega))
      have HLN0 : Hid (([66] ++ enc (kn : Int)).length ≤ 1000) := by have := enc_len (kn : Int); show _ ≤ _; simp; omega
      have HPA : Hid (∀ i, pgPart p i = enc (sAt p.keys i).size ++ bytesOf (sAt p.keys i) ++ enc (iAt p.kids (i + 1))) := fun i => by rw [pgPart, if_neg h0]
      clear h0 hil his
      have ba := below_new (o := .cells #[.int .u8 66] 5) (w := w1) (Below.refl _ _)
      have L2 := hid (L1.out.below ba)
      have R2 := hid (rd_one w1 66 (by omega) (by omega))
      have LA := hid (L1.out.below (below_new (o := .cells #[.int .u8 76] 5) (w := w1) (Below.refl _ _)))
      clear ba L1
      obtain ⟨d0, d1, d2⟩ := LA.out.cells
      obtain ⟨c0, c1, c2⟩ := L2.out.cells
      go_wp2_with fail
      refine (specPutVar_any _ _ _ _ _ _ R2.out (by omega)).mono ?_
      generalize w1.alloc (.cells #[.int .u8 66] 5) = U2 at *
      intro e w2 hput
      obtain ⟨v2, rfl, hO2, hb2⟩ := hput.got HPV.out
      obtain ⟨a2, n2, cc2, rfl, R2', hn2⟩ := hO2.rdS HBY0.out HLN0.out
      have L2' := hid (L2.out.below hb2)
      clear hput hO2 hb2 L2 LA R2 c0 c1 c2 d0 d1 d2 HPV HBY0 HLN0
      obtain ⟨c0, c1, c2⟩ := L2'.out.cells
      obtain ⟨ib, io, hia, -, -, hci⟩ := L2'.out.pg.hi.at (by omega)
      subst hia
      have k0 := hci 0 (by omega)
      rw [Nat.add_zero] at k0
      clear hci
      generalize iAt p.kids 0 = kid0 at *
      go_wp2_with fail
      refine (specPutVar_any a2 n2 cc2 _ kid0 _ R2'.out (by omega)).mono ?_
      intro e w3 hput
      obtain ⟨v3, rfl, hO3, hb3⟩ := hput.got HPV2.out
      obtain ⟨a3, n3, c3, rfl, R3, hn3⟩ := hO3.rdS (pgHead_byte HF.out) (by have := pgHead_len p; omega)
      have L3 := hid (L2'.out.below hb3)
      clear hput hO3 hb3 L2' R2' c0 c1 c2 k0 HPV2 HEH h00
      obtain ⟨c0, c1, c2⟩ := L3.out.cells
      go_wp2_with fail
      clear c0 c1 c2
      go_loopw [4, 41] (fun xv i wr => ∃ (j : Nat) (a4 : Option Addr) (n4 c4 : Nat), j ≤ kn ∧ i = .int .i64 j ∧ xv = .slice a4 n4 c4 ∧ n4 ≤ 1000 ∧ Hid (Rd wr a4 n4 c4 (pgBody p j)) ∧ Hid (Pw1 w wr w.heap.size ka kn kc va vn vc (some ⟨ib, io, none⟩) jn ic p)) (fun _ i _ => kn - (intOf i).toNat)
      case atStart => exact ⟨0, a3, n3, c3, Nat.zero_le _, rfl, rfl, hn3, R3.out, L3.out⟩
      case round =>
        obtain ⟨j, a4, n4, c4, hj, rfl, rfl, hn4, R4, L4⟩ := hrel
        clear R3 L3
        by_cases hlt : j < kn
        · have hlt' : (j : Int) < (kn : Int) := by omega
          have hlt2 : (j : Int) + 1 < (jn : Int) := by have := HJN.out; omega
          have hjl : j < p.keys.length := by rw [← HNK.out]; exact hlt
          obtain ⟨c0, c1, c2⟩ := L4.out.cells
          obtain ⟨kb, ko, hka, -, -, hck⟩ := L4.out.pg.hk.at (by omega)
          subst hka
          have m0 := hck j hlt
          have hks := HF.out.ks j hjl
          have hvs := HIS.out (j + 1) (by rw [← HNI.out]; have := HJN.out; omega)
          have HST : Hid (pgBody p (j + 1) = pgBody p j ++ (enc (sAt p.keys j).size ++ bytesOf (sAt p.keys j) ++ enc (iAt p.kids (j + 1)))) := by show _ = _; rw [pgBody, HPA.out]
          have HLN := hid (pgBody_len HF.out j (by omega))
          have HBY := hid (pgBody_byte HF.out j (by omega))
          have HCV : Hid (∀ u, Pw1 w u w.heap.size (some ⟨kb, ko, none⟩) kn kc va vn vc (some ⟨ib, io, none⟩) jn ic p → u.cell? ⟨ib, io + (j + 1), none⟩ = some (.int .i64 (iAt p.kids (j + 1)))) := by
            intro u hu
            obtain ⟨vb', vo', e, -, -, hc⟩ := hu.pg.hi.at (by omega)
            cases e
            exact hc (j + 1) (by have := HJN.out; omega)
          clear hck
          generalize sAt p.keys j = kk at *
          generalize iAt p.kids (j + 1) = vv at *
          have ek := enc_len kk.size
          have ev := enc_len vv
          have HPT1 : Hid (pt (pgBody p j) kk = some (pgBody p j ++ enc kk.size ++ bytesOf kk)) := by
            show _ = _
            rw [pt, if_pos]
            have := HLN.out
            simp only [List.length_append, bytesOf_len]
            omega
          have HPT2 : Hid (pv (pgBody p j ++ enc kk.size ++ bytesOf kk) vv = some (pgBody p (j + 1))) := by
            show _ = _
            rw [HST.out, pv_ok _ _ (by omega) (by omega)]
            · simp
            · have := HLN.out
              simp only [List.length_append, bytesOf_len]
              omega
          have HB1 : Hid (∀ z ∈ pgBody p j ++ enc kk.size ++ bytesOf kk, 0 ≤ z ∧ z ≤ 255) := byte_append (byte_append HBY.out (enc_byte _ (by omega) (by omega))) (bytesOf_byte _)
          have HL1 : Hid ((pgBody p j ++ enc kk.size ++ bytesOf kk).length ≤ 1000) := by
            show _ ≤ _
            have := HLN.out
            simp only [List.length_append, bytesOf_len]
            omega
          have HB2 := hid (pgBody_byte HF.out (j + 1) (by omega))
          have HL2 : Hid ((pgBody p (j + 1)).length ≤ 1000) := by have := pgBody_len HF.out (j + 1) (by omega); show _ ≤ _; omega
          clear ek ev
          go_wp2_with fail
          refine (specPutText_any a4 n4 c4 _ kk _ R4.out (by omega) (by omega)).mono ?_
          intro e w5 hput
          obtain ⟨v5, rfl, hO5, hb5⟩ := hput.got HPT1.out
          obtain ⟨a5, n5, c5, rfl, R5, hn5⟩ := hO5.rdS HB1.out HL1.out
          have L5 := hid (L4.out.below hb5)
          have m5 := HCV.out _ L5.out
          clear hput hO5 hb5 L4 R4 c0 c1 c2 m0
          obtain ⟨c0, c1, c2⟩ := L5.out.cells
          go_wp2_with fail
          refine (specPutVar_any a5 n5 c5 _ vv _ R5.out (by omega)).mono ?_
          intro e w6 hput
          obtain ⟨v6, rfl, hO6, hb6⟩ := hput.got HPT2.out
          obtain ⟨a6, n6, c6, rfl, R6, hn6⟩ := hO6.rdS HB2.out HL2.out
          have L6 := hid (L5.out.below hb6)
          clear hput hO6 hb6 L5 R5 c0 c1 c2 m5 HPT1 HPT2 HB1 HL1 HB2 HL2 HST HLN HBY HCV
          go_wp2
          go_roundw
          case rel => exact ⟨j + 1, a6, n6, c6, by omega, by go_num, rfl, hn6, R6.out, L6.out⟩
          case measure => simp [intOf]; omega
        · have hlt' : ¬ (j : Int) < (kn : Int) := by omega
          have hjk : j = p.keys.length := by rw [← HNK.out]; omega
          have HFL : Hid (fl (pgBody p j) 512 = some (pgFull p)) := by
            show _ = _
            have hl := pgBody_len HF.out p.keys.length (Nat.le_refl _)
            have hn := HF.out.nk
            rw [hjk, fl, if_pos (by omega)]
            show some (pgRaw p ++ _) = _
            rw [pgFull]
            congr 3
            show ((512 : Int) - ((pgRaw p).length : Int)).toNat = _
            omega
          clear hjk
          go_wp2_with fail
          refine (specFill_any a4 n4 c4 _ 512 _ R4.out (by omega)).mono ?_
          intro e w5 hput
          obtain ⟨v5, rfl, hO5, hb5⟩ := hput.got HFL.out
          have L5 := hid (L4.out.below hb5)
          have HO : Hid (Ob w5 w.heap.size v5 (pgFull p)) := hO5.mono L4.out.be.size
          clear hput hO5 hb5 L4 R4 HFL
          go_wp2
          go_ret2
          exact ⟨L5.out.be, .inr ⟨_, _, HN.out, rfl, HO.out⟩⟩
end Go.Proofs.YtpgogpphobafoabDoor
/-
  What the program's GetVar answers, for every slice of bytes and every place; it changes nothing.
-/
namespace Go.Proofs.YtpgogpphobafoabDoor
open Go.RowKit

theorem mul_bounds (x u : Int) (h0 : 0 ≤ x) (h1 : x ≤ 127) (hu : 0 ≤ u) : 0 ≤ x * u ∧ x * u ≤ 127 * u :=
  ⟨Int.mul_nonneg h0 hu, Int.mul_le_mul_of_nonneg_right h1 hu⟩

theorem gv_neg (zs : List Int) (p : Int) (h : p < 0) : gv zs p = (0, -1) := by unfold gv; rw [if_pos h]
theorem gv_nat (zs : List Int) (k : Nat) : gv zs (k : Int) = gvGo 6 zs k 0 1 := by unfold gv; rw [if_neg (by omega), Int.toNat_natCast]

set_option maxHeartbeats 800000 in
theorem implGetVar_any (a : Option Addr) (n c : Nat) (zs : List Int) (p : Int) (w : World) (h : Rd w a n c zs) (hp : p ≤ 9223372036854775807) :
    Calls Tryd.prog 85 #[.slice a n c, .int .i64 p] w fun e w' => e = .returned (.tuple #[.int .i64 (gv zs p).1, .int .i64 (gv zs p).2]) ∧ w = w' := by
  obtain ⟨hn0, hc, hm, hnm, hb, hcell⟩ := h
  have HN : Hid (n = zs.length) := hn0
  clear hn0
  by_cases hneg : p < 0
  · have HG : Hid (gv zs p = (0, -1)) := gv_neg zs p hneg
    go_enter Tryd.func85, Tryd.ntmps85
    go_wp2
    go_ret2
    exact ⟨by rw [HG.out]; rfl, rfl⟩
  · obtain ⟨k0, rfl⟩ := Int.eq_ofNat_of_zero_le (by omega : 0 ≤ p)
    go_enter Tryd.func85, Tryd.ntmps85
    go_wp2
    go_loop [1, 6, 7] (fun i s t => ∃ (f k : Nat) (r u : Int), i = .int .i64 k ∧ s = .int .i64 r ∧ t = .int .i64 u ∧ f ≤ 6 ∧ k ≤ 9223372036854775807 ∧ u = uOf f ∧ 0 ≤ r ∧ r < u ∧ gvGo f zs k r u = gv zs k0) (fun i _ _ => n - (intOf i).toNat)
    case atStart => exact ⟨6, k0, 0, 1, rfl, rfl, rfl, by omega, by omega, rfl, by omega, by omega, by rw [gv_nat]⟩
    case round =>
      obtain ⟨f, k, r, u, rfl, rfl, rfl, hf6, hkm, hu, hr0, hru, hgv⟩ := hrel
      have HU : Hid (u = uOf f) := hu
      have HG : Hid (gvGo f zs k r u = gv zs k0) := hgv
      clear hu hgv
      by_cases hlt : k < n
      · obtain ⟨b, off, ha, hbw, hcell⟩ := hcell (by omega)
        have hck := hcell k hlt
        have hbk := (hb k).1
        have hbk2 := (hb k).2
        have HK : Hid (k < zs.length) := by show k < zs.length; rw [← HN.out]; exact hlt
        have hlt' : (k : Int) < (n : Int) := by omega
        clear hcell hb
        rw [ha]
        cases f with
        | zero =>
          have hu' : 1099511627775 < u := by rw [HU.out]; decide
          have HR : Hid (gv zs k0 = (0, -1)) := by show gv zs k0 = (0, -1); rw [← HG.out]; rfl
          go_wp2
          go_ret2
          exact ⟨by rw [HR.out]; rfl, rfl⟩
        | succ f =>
          have hu1 : 1 ≤ u := by rw [HU.out]; exact (uOf_le (f + 1) (by omega)).1
          have hu2 : u ≤ 34359738368 := by rw [HU.out]; exact (uOf_le (f + 1) (by omega)).2
          have HU2 : Hid (u * 128 = uOf f) := by show u * 128 = uOf f; rw [HU.out]; exact uOf_next f (by omega)
          by_cases hd : 128 ≤ zs[k]?.getD 0
          · have HG2 : Hid (gvGo f zs (k + 1) (r + (zs[k]?.getD 0 - 128) * u) (u * 128) = gv zs k0) := by
              show gvGo f zs (k + 1) (r + (zs[k]?.getD 0 - 128) * u) (u * 128) = gv zs k0
              rw [← HG.out, gvGo_more f zs k r u HK.out hd]
            generalize zs[k]?.getD 0 = d at *
            obtain ⟨m0, m1⟩ := mul_bounds (d - 128) u (by omega) (by omega) (by omega)
            go_wp2
            go_round
            case rel => exact ⟨f, k + 1, r + (d - 128) * u, u * 128, by go_num, rfl, rfl, by omega, by omega, HU2.out, by omega, by omega, HG2.out⟩
            case measure => simp [intOf]; omega
          · by_cases hbad : 1099511627775 < r + zs[k]?.getD 0 * u
            · have HR : Hid (gv zs k0 = (0, -1)) := by
                show gv zs k0 = (0, -1)
                rw [← HG.out]; exact gvGo_bad f zs k r u HK.out (by omega) (.inl hbad)
              generalize zs[k]?.getD 0 = d at *
              obtain ⟨m0, m1⟩ := mul_bounds d u (by omega) (by omega) (by omega)
              go_wp2
              go_ret2
              exact ⟨by rw [HR.out]; rfl, rfl⟩
            · by_cases hz : zs[k]?.getD 0 = 0
              · by_cases hu3 : 1 < u
                · have HR : Hid (gv zs k0 = (0, -1)) := by
                    show gv zs k0 = (0, -1)
                    rw [← HG.out]; exact gvGo_bad f zs k r u HK.out (by omega) (.inr ⟨hz, hu3⟩)
                  rw [hz] at hck hbad
                  clear hz hbk hbk2 hd
                  go_wp2
                  go_ret2
                  exact ⟨by rw [HR.out]; rfl, rfl⟩
                · have HR : Hid (gv zs k0 = (r + 0 * u, (k : Int) + 1)) := by
                    show gv zs k0 = (r + 0 * u, (k : Int) + 1)
                    rw [← HG.out, gvGo_good f zs k r u HK.out (by omega) (by omega), hz]
                  rw [hz] at hck hbad
                  clear hz hbk hbk2 hd
                  go_wp2
                  go_ret2
                  exact ⟨by rw [HR.out]; simp, rfl⟩
              · have HR : Hid (gv zs k0 = (r + zs[k]?.getD 0 * u, (k : Int) + 1)) := by
                  show gv zs k0 = (r + zs[k]?.getD 0 * u, (k : Int) + 1)
                  rw [← HG.out, gvGo_good f zs k r u HK.out (by omega) (by omega)]
                generalize zs[k]?.getD 0 = d at *
                have hz' : (d == 0) = false := by simp [hz]
                obtain ⟨m0, m1⟩ := mul_bounds d u (by omega) (by omega) (by omega)
                clear hz
                go_wp2
                go_ret2
                exact ⟨by rw [HR.out]; rfl, rfl⟩
      · have HR : Hid (gv zs k0 = (0, -1)) := by
          show gv zs k0 = (0, -1)
          rw [← HG.out]; exact gvGo_end f zs k r u (by rw [← HN.out]; omega)
        have hlt' : ¬ (k : Int) < (n : Int) := by omega
        go_wp2
        go_ret2
        exact ⟨by rw [HR.out]; rfl, rfl⟩
end Go.Proofs.YtpgogpphobafoabDoor
/-
  What both GetTexts answer, for every slice of bytes and every place.
-/
namespace Go.Proofs.YtpgogpphobafoabDoor
open Go.RowKit

theorem gvGo_range (f : Nat) (zs : List Int) (hb : ∀ i : Nat, 0 ≤ zs[i]?.getD 0 ∧ zs[i]?.getD 0 ≤ 255) : ∀ (k : Nat) (n u : Int), 0 ≤ n → 0 ≤ u →
    gvGo f zs k n u = (0, -1) ∨ ∃ j : Nat, (gvGo f zs k n u).2 = j ∧ 1 ≤ j ∧ j ≤ zs.length ∧ 0 ≤ (gvGo f zs k n u).1 ∧ (gvGo f zs k n u).1 ≤ 1099511627775 := by
  induction f with
  | zero => intro k n u _ _; exact .inl rfl
  | succ f ih =>
    intro k n u hn hu
    by_cases hk : k < zs.length
    · by_cases hd : 128 ≤ zs[k]?.getD 0
      · rw [gvGo_more f zs k n u hk hd]
        have := Int.mul_nonneg (show 0 ≤ zs[k]?.getD 0 - 128 by omega) hu
        exact ih (k + 1) _ _ (by omega) (by omega)
      · by_cases hbad : 1099511627775 < n + zs[k]?.getD 0 * u ∨ (zs[k]?.getD 0 = 0 ∧ 1 < u)
        · exact .inl (gvGo_bad f zs k n u hk (by omega) hbad)
        · rw [gvGo_good f zs k n u hk (by omega) hbad]
          have := Int.mul_nonneg (hb k).1 hu
          exact .inr ⟨k + 1, by simp, by omega, by omega, by show 0 ≤ n + zs[k]?.getD 0 * u; omega, by show n + zs[k]?.getD 0 * u ≤ 1099511627775; omega⟩
    · exact .inl (gvGo_end (f + 1) zs k n u (by omega))
theorem gv_range (zs : List Int) (hb : ∀ i : Nat, 0 ≤ zs[i]?.getD 0 ∧ zs[i]?.getD 0 ≤ 255) (p : Int) :
    gv zs p = (0, -1) ∨ ∃ j : Nat, (gv zs p).2 = j ∧ 1 ≤ j ∧ j ≤ zs.length ∧ 0 ≤ (gv zs p).1 ∧ (gv zs p).1 ≤ 1099511627775 := by
  unfold gv
  split
  · exact .inl rfl
  · exact gvGo_range 6 zs hb _ 0 1 (by omega) (by omega)

theorem rd_empty (w : World) (a : Option Addr) : Rd w a 0 0 [] := ⟨rfl, Nat.le_refl _, by omega, by omega, by simp, fun h => by omega⟩
/-- What GetText answers. -/
def gt (zs : List Int) (p : Int) : List Int × Int := if (gv zs p).2 < 0 ∨ (zs.length : Int) - (gv zs p).2 < (gv zs p).1 then ([], -1) else ((zs.drop (gv zs p).2.toNat).take (gv zs p).1.toNat, (gv zs p).2 + (gv zs p).1)

/-- A slice of a slice, read. -/
theorem Rd.slice {w : World} {b off n c : Nat} {zs : List Int} (h : Rd w (some ⟨b, off, none⟩) n c zs) (lo m : Nat) (hm : lo + m ≤ n) (k : Nat) (hk : m ≤ k) (hk2 : k ≤ c) : Rd w (some ⟨b, off + lo, none⟩) m k ((zs.drop lo).take m) := by
  obtain ⟨h1, h2, h3, h30, h4, h5⟩ := h
  refine ⟨by simp; omega, hk, by omega, by omega, fun i => ?_, fun hp => ⟨b, off + lo, rfl, ?_, fun i hi => ?_⟩⟩
  · by_cases hi : i < m
    · rw [List.getElem?_take_of_lt hi, List.getElem?_drop]; exact h4 (lo + i)
    · rw [List.getElem?_eq_none (by simp; omega)]; simp
  · obtain ⟨b', off', e, hb, _⟩ := h5 (by omega)
    cases e; exact hb
  · obtain ⟨b', off', e, hb, hc⟩ := h5 (by omega)
    cases e
    rw [List.getElem?_take_of_lt hi, List.getElem?_drop, ← hc (lo + i) (by omega), Nat.add_assoc]

set_option maxHeartbeats 800000 in
set_option maxRecDepth 20000 in
theorem implGetText_any (a : Option Addr) (n c : Nat) (zs : List Int) (p : Int) (w : World) (h : Rd w a n c zs) (hp : p ≤ 9223372036854775807) :
    Calls Tryd.prog 84 #[.slice a n c, .int .i64 p] w fun e w' => e = .returned (.tuple #[.string (strOf (gt zs p).1), .int .i64 (gt zs p).2]) ∧ w = w' := by
  have HN : Hid (n = zs.length) := h.1
  have hnm : n ≤ 140737488355328 := h.2.2.2.1
  have hcm : c ≤ 9223372036854775807 := h.2.2.1
  have hnc : n ≤ c := h.2.1
  have HC := implGetVar_any a n c zs p w h hp
  have hrg := gv_range zs h.2.2.2.2.1 p
  have HT : Hid (gt zs p = if (gv zs p).2 < 0 ∨ (zs.length : Int) - (gv zs p).2 < (gv zs p).1 then ([], -1) else ((zs.drop (gv zs p).2.toNat).take (gv zs p).1.toNat, (gv zs p).2 + (gv zs p).1)) := rfl
  generalize gv zs p = g at *
  obtain ⟨s, f⟩ := g
  have HC' := hid HC
  clear HC
  rcases hrg with hg | ⟨j, hj, hj1, hj2, hs0, hs1⟩
  · cases hg
    have HR : Hid (gt zs p = ([], -1)) := by show gt zs p = ([], -1); rw [HT.out]; simp
    clear HT
    have HD := hid h
    clear h
    go_enter Tryd.func84, Tryd.ntmps84
    go_wp2_with (go_at_call 85; refine HC'.out.mono ?_; rintro e w' ⟨rfl, rfl⟩)
    go_ret2
    exact ⟨by rw [HR.out]; rfl, rfl⟩
  · simp only at hj hs0 hs1
    subst hj
    have hjn : j ≤ n := by rw [HN.out]; exact hj2
    clear hj2
    obtain ⟨b, off, ha, hbw, _⟩ := h.2.2.2.2.2 (by omega)
    subst ha
    by_cases hlong : (n : Int) - (j : Int) < s
    · have HR : Hid (gt zs p = ([], -1)) := by
        show gt zs p = ([], -1)
        rw [HT.out]
        exact if_pos (.inr (by rw [← HN.out]; exact hlong))
      clear HT
      have HD := hid h
      clear h
      go_enter Tryd.func84, Tryd.ntmps84
      go_wp2_with (go_at_call 85; refine HC'.out.mono ?_; rintro e w' ⟨rfl, rfl⟩)
      go_ret2
      exact ⟨by rw [HR.out]; rfl, rfl⟩
    · obtain ⟨m, rfl⟩ := Int.eq_ofNat_of_zero_le hs0
      have HR : Hid (gt zs p = ((zs.drop j).take m, (j : Int) + (m : Int))) := by
        show gt zs p = ((zs.drop j).take m, (j : Int) + (m : Int))
        rw [HT.out]
        rw [if_neg (by rw [← HN.out]; simp; omega)]
        simp
      clear HT
      by_cases hcj : c = j
      · have hm0 : m = 0 := by omega
        subst hm0
        subst hcj
        have hst := run_str (rd_empty w (some ⟨b, off, none⟩))
        have HD := hid h
        clear h
        go_enter Tryd.func84, Tryd.ntmps84
        go_wp2_with (go_at_call 85; refine (HC'.out).mono ?_; rintro e w' ⟨rfl, rfl⟩)
        go_ret2
        exact ⟨by rw [HR.out]; simp, rfl⟩
      · have hst := run_str (h.slice j m (by omega) (c - j) (by omega) (by omega))
        have hj0 : ¬ j = 0 := by omega
        have HD := hid h
        clear h
        go_enter Tryd.func84, Tryd.ntmps84
        go_wp2_with (go_at_call 85; refine HC'.out.mono ?_; rintro e w' ⟨rfl, rfl⟩)
        go_ret2
        exact ⟨by rw [HR.out]; rfl, rfl⟩
end Go.Proofs.YtpgogpphobafoabDoor
/-
  Rows that are appended to, of any element; of strings and of numbers.
-/
namespace Go.Proofs.YtpgogpphobafoabDoor
open Go.RowKit
/-- append(dst, src...), and where the new row lies. -/
theorem wpList_append_st1 {w : World} {ops : Array Oper} {rest : List Oper} {o : Oper} {a : Act} {Q : Exit → Act → World → Prop} (hgd : o.guard = none) (s x : Operand)
    (ho : o.op = .call { callee := .builtin .append, args := #[s, x], argTypes := #[37, 37] }) (v : Value) (n : Nat) (xs : List Value) (hs : a.eval s = v) (hown : w.ownsRow 0 9 1 v n xs)
    (g : Nat) (z : ByteArray) (hx : a.eval x = .slice (some ⟨g, 0, none⟩) 1 1) (hB : Bk w g 9 [.string z]) (hb : n ≤ 1048576)
    (h : ∀ a' n' c' w', w'.ownsRow 0 9 1 (.slice a' n' c') (n + 1) (xs ++ [.string z]) → w.grownBy w' v.ownBlock → ((Value.slice a' n' c').ownBlock = v.ownBlock ∨ (Value.slice a' n' c').ownBlock = some w.heap.size) → wpList Tryd.prog ops Q rest (a.put o.dst (.slice a' n' c')) w') : wpList Tryd.prog ops Q (o :: rest) a w := by
  obtain ⟨i, hi, hz, hsz, hby⟩ := info_of infoStr'
  refine wpList_append_row_at hgd s x 37 ho 0 9 i _ 1 16 Tryd.underlying37 hi hz hsz hby rfl (by decide) v n xs hs hown (fun _ => True) _ 1 [.string z] hx (hB.rw (Nat.le_refl _) (by omega) (fun h => by omega) _ trivial) rfl
    (by intro u hu; simp at hu; subst hu; rfl) (by unfold maxLen; omega) (by omega) (Nat.zero_le _) ?_
  intro v' w' k1 k2 k3
  obtain ⟨a', c', rfl⟩ := own_shape k1
  exact h a' _ c' w' k1 k2 k3
theorem wpList_append_in1 {w : World} {ops : Array Oper} {rest : List Oper} {o : Oper} {a : Act} {Q : Exit → Act → World → Prop} (hgd : o.guard = none) (s x : Operand)
    (ho : o.op = .call { callee := .builtin .append, args := #[s, x], argTypes := #[38, 38] }) (v : Value) (n : Nat) (xs : List Value) (hs : a.eval s = v) (hown : w.ownsRow 0 3 1 v n xs)
    (g : Nat) (z : Int) (hx : a.eval x = .slice (some ⟨g, 0, none⟩) 1 1) (hB : Bk w g 3 [.int .i64 z]) (hb : n ≤ 1048576)
    (h : ∀ a' n' c' w', w'.ownsRow 0 3 1 (.slice a' n' c') (n + 1) (xs ++ [.int .i64 z]) → w.grownBy w' v.ownBlock → ((Value.slice a' n' c').ownBlock = v.ownBlock ∨ (Value.slice a' n' c').ownBlock = some w.heap.size) → wpList Tryd.prog ops Q rest (a.put o.dst (.slice a' n' c')) w') : wpList Tryd.prog ops Q (o :: rest) a w := by
  obtain ⟨i, hi, hz, hsz, hby⟩ := info_of infoInt'
  refine wpList_append_row_at hgd s x 38 ho 0 3 i _ 1 8 Tryd.underlying38 hi hz hsz hby rfl (by decide) v n xs hs hown (fun _ => True) _ 1 [.int .i64 z] hx (hB.rw (Nat.le_refl _) (by omega) (fun h => by omega) _ trivial) rfl
    (by intro u hu; simp at hu; subst hu; rfl) (by unfold maxLen; omega) (by omega) (Nat.zero_le _) ?_
  intro v' w' k1 k2 k3
  obtain ⟨a', c', rfl⟩ := own_shape k1
  exact h a' _ c' w' k1 k2 k3
end Go.Proofs.YtpgogpphobafoabDoor
/-
  l04Same: two slices of bytes hold the same.
-/
namespace Go.Proofs.YtpgogpphobafoabDoor
open Go.RowKit
def zAt (zs : List Int) (i : Nat) : Int := zs[i]?.getD 0
theorem strOf_eq {xs ys : List Int} (hx : ∀ z ∈ xs, 0 ≤ z ∧ z ≤ 255) (hy : ∀ z ∈ ys, 0 ≤ z ∧ z ≤ 255) (h : strOf xs = strOf ys) : xs = ys := by
  have key : ∀ (o : List Int), (∀ z ∈ o, 0 ≤ z ∧ z ≤ 255) → bytesOf (strOf o) = o := by
    intro o ho
    simp only [bytesOf, strOf, List.map_map]
    conv => rhs; rw [← List.map_id o]
    refine List.map_congr_left fun z hz => ?_
    have := ho z hz
    simp
    omega
  rw [← key xs hx, ← key ys hy, h]
end Go.Proofs.YtpgogpphobafoabDoor
/-
  What is read out of a page's bytes, as plain data; PageRead of the specification.
-/
namespace Go.Proofs.YtpgogpphobafoabDoor
open Go.RowKit
/-- One round of the reading: a key, and a kid or a value. -/
def cdStep (zs : List Int) (B : Bool) (p : PG) (at' : Int) : PG × Int :=
  if B = true then (⟨p.keys ++ [strOf (gt zs at').1], p.vals, p.kids ++ [(gv zs (gt zs at').2).1]⟩, (gv zs (gt zs at').2).2)
  else (⟨p.keys ++ [strOf (gt zs at').1], p.vals ++ [strOf (gt zs (gt zs at').2).1], p.kids⟩, (gt zs (gt zs at').2).2)
def cdGo (zs : List Int) (B : Bool) (n : Int) : Nat → Nat → PG → Int → PG
  | 0, _, p, _ => p
  | f + 1, i, p, a => if (i : Int) < n ∧ i ≤ 4 ∧ 0 ≤ a then cdGo zs B n f (i + 1) (cdStep zs B p a).1 (cdStep zs B p a).2 else p
/-- What PageRead takes to be there. -/
def cd (zs : List Int) : PG :=
  if zAt zs 0 = 66 then
    (if 0 ≤ (gv zs 1).2 then cdGo zs true (gv zs 1).1 6 0 ⟨[], [], [(gv zs (gv zs 1).2).1]⟩ (gv zs (gv zs 1).2).2 else cdGo zs true (gv zs 1).1 6 0 ⟨[], [], []⟩ (gv zs 1).2)
  else cdGo zs false (gv zs 1).1 6 0 ⟨[], [], []⟩ (gv zs 1).2
def prd (zs : List Int) : Option PG := if zs.length = 512 ∧ (zAt zs 0 = 76 ∨ zAt zs 0 = 66) ∧ pgBytes (cd zs) = some zs then some (cd zs) else none
theorem cdGo_stop (zs : List Int) (B : Bool) (n : Int) (f i : Nat) (p : PG) (a : Int) (h : ¬ ((i : Int) < n ∧ i ≤ 4 ∧ 0 ≤ a)) : cdGo zs B n f i p a = p := by
  cases f with
  | zero => rfl
  | succ f => rw [cdGo, if_neg h]
theorem cdGo_on (zs : List Int) (B : Bool) (n : Int) (f i : Nat) (p : PG) (a : Int) (h : (i : Int) < n ∧ i ≤ 4 ∧ 0 ≤ a) : cdGo zs B n (f + 1) i p a = cdGo zs B n f (i + 1) (cdStep zs B p a).1 (cdStep zs B p a).2 := by rw [cdGo, if_pos h]
theorem results_pg2 {fn : Func} {p u : Tmp} (h : fn.results = #[.cell p 40, .tmp u]) (tmps : Array Value) (w : World) (g : Nat) {x y z b : Value} (hp : tmps.getD p undef = .pointer (some ⟨g, 0, none⟩)) (hb : tmps.getD u undef = b)
    (c0 : w.cell? ⟨g, 0, none⟩ = some x) (c1 : w.cell? ⟨g, 1, none⟩ = some y) (c2 : w.cell? ⟨g, 2, none⟩ = some z) : (results fn tmps).run Tryd.prog w = .ok (.tuple #[.agg #[x, y, z], b]) w := by
  have hp' : tmps[p]?.getD undef = .pointer (some ⟨g, 0, none⟩) := by simpa using hp
  have hb' : tmps[u]?.getD undef = b := by simpa using hb
  have hl : (loadVar 40 ⟨g, 0, none⟩).run Tryd.prog w = .ok (.agg #[x, y, z]) w := by go_simp
  simp [results, h, hp', hb', asAddr, hl, Result.andThen]
/-- The page that is being read lies in the box behind the result's, its rows its own and apart. -/
structure Pr1 (w v : World) (kv vv iv : Value) (p : PG) : Prop where
  be : Below w.heap.size w v
  rb : Bk v w.heap.size 40 [.slice none 0 0, .slice none 0 0, .slice none 0 0]
  bk : Bk v (w.heap.size + 1) 40 [kv, vv, iv]
  hk : v.ownsRow 0 9 1 kv p.keys.length (p.keys.map Value.string)
  hv : v.ownsRow 0 9 1 vv p.vals.length (p.vals.map Value.string)
  hi : v.ownsRow 0 3 1 iv p.kids.length (p.kids.map (Value.int .i64))
  lo : ∀ y, (kv.ownBlock = some y ∨ vv.ownBlock = some y ∨ iv.ownBlock = some y) → w.heap.size + 1 < y
  ap : ∀ y, (kv.ownBlock = some y → vv.ownBlock ≠ some y ∧ iv.ownBlock ≠ some y) ∧ (vv.ownBlock = some y → iv.ownBlock ≠ some y)
theorem Pr1.below {w v v' : World} {kv vv iv : Value} {p : PG} (h : Pr1 w v kv vv iv p) (hb : Below v.heap.size v v') : Pr1 w v' kv vv iv p :=
  ⟨h.be.trans (hb.mono h.be.size), h.rb.below hb, h.bk.below hb, own_kept h.hk (only_of_below hb (fun _ => False)) (fun _ _ h => h), own_kept h.hv (only_of_below hb (fun _ => False)) (fun _ _ h => h), own_kept h.hi (only_of_below hb (fun _ => False)) (fun _ _ h => h), h.lo, h.ap⟩
theorem Pr1.cells {w v : World} {kv vv iv : Value} {p : PG} (h : Pr1 w v kv vv iv p) : v.cell? ⟨w.heap.size + 1, 0, none⟩ = some kv ∧ v.cell? ⟨w.heap.size + 1, 1, none⟩ = some vv ∧ v.cell? ⟨w.heap.size + 1, 2, none⟩ = some iv :=
  ⟨h.bk.cell (j := 0) rfl, h.bk.cell (j := 1) rfl, h.bk.cell (j := 2) rfl⟩
theorem Pr1.pgr {w v : World} {ka va ia : Option Addr} {kn kc vn vc jn ic : Nat} {p : PG} (h : Pr1 w v (.slice ka kn kc) (.slice va vn vc) (.slice ia jn ic) p) : Pgr v (fun y => w.heap.size + 1 < y) ka kn kc va vn vc ia jn ic p :=
  ⟨rw_own h.hk (fun k e _ _ => h.lo k (.inl e)), rw_own h.hv (fun k e _ _ => h.lo k (.inr (.inl e))), rw_own h.hi (fun k e _ _ => h.lo k (.inr (.inr e)))⟩
theorem Pr1.addK {w v w' : World} {kv vv iv nw : Value} {p : PG} {s : ByteArray} (h : Pr1 w v kv vv iv p) (hO : w'.ownsRow 0 9 1 nw (p.keys.length + 1) (p.keys.map (Value.string) ++ [Value.string s])) (hg : v.grownBy w' kv.ownBlock) (ha : nw.ownBlock = kv.ownBlock ∨ ∃ k, nw.ownBlock = some k ∧ v.heap.size ≤ k) :
    Pr1 w (w'.setCell ⟨w.heap.size + 1, 0, none⟩ nw) nw vv iv ⟨p.keys ++ [s], p.vals, p.kids⟩ ∧ Bk w' (w.heap.size + 1) 40 [kv, vv, iv] := by
  have hon : Only (fun y => kv.ownBlock = some y) v w' := only_of_grown hg (fun k e => e)
  have hos : Only (fun y => y = w.heap.size + 1) w' (w'.setCell ⟨w.heap.size + 1, 0, none⟩ nw) := only_set (R := fun y => y = w.heap.size + 1) rfl _
  have hlo : ∀ y, kv.ownBlock = some y → w.heap.size + 1 < y := fun y e => h.lo y (.inl e)
  have hbl := h.bk.lt
  have hnw : ∀ y, nw.ownBlock = some y → kv.ownBlock = some y ∨ v.heap.size ≤ y := by
    intro y hy
    rcases ha with e | ⟨k, e, hk⟩
    · exact .inl (e ▸ hy)
    · rw [e] at hy; cases hy; exact .inr hk
  have hnl : ∀ y, nw.ownBlock = some y → w.heap.size + 1 < y := by
    intro y hy
    rcases hnw y hy with e | e
    · exact hlo y e
    · omega
  have hb2 : Bk w' (w.heap.size + 1) 40 [kv, vv, iv] := h.bk.to hon (fun e => by have := hlo _ e; omega)
  have hrb : Bk w' w.heap.size 40 [.slice none 0 0, .slice none 0 0, .slice none 0 0] := h.rb.to hon (fun e => by have := hlo _ e; omega)
  have hk2 := World.ownsRow.lt h.hk
  have hv2 := World.ownsRow.lt h.hv
  have hi2 := World.ownsRow.lt h.hi
  refine ⟨⟨(h.be.trans (hon.below h.be.size (fun b hb e => by have := hlo _ e; omega))).setCell (p := ⟨w.heap.size + 1, 0, none⟩) (Nat.le_succ _) _, hrb.setOther (by omega) _ _, ?_, ?_, ?_, ?_, ?_, ?_⟩, hb2⟩
  · exact hb2.set 0 nw
  · have : (w'.setCell ⟨w.heap.size + 1, 0, none⟩ nw).ownsRow 0 9 1 nw (p.keys.length + 1) (p.keys.map (Value.string) ++ [Value.string s]) := own_kept hO hos (fun k e e2 => by have := hnl k e; omega)
    simpa using this
  · exact own_kept (own_kept h.hv hon (fun k e e2 => ((h.ap k).1 e2).1 e)) hos (fun k e e2 => by have := h.lo k (.inr (.inl e)); omega)
  · exact own_kept (own_kept h.hi hon (fun k e e2 => ((h.ap k).1 e2).2 e)) hos (fun k e e2 => by have := h.lo k (.inr (.inr e)); omega)
  · rintro y (e | e | e)
    · exact hnl y e
    · exact h.lo y (.inr (.inl e))
    · exact h.lo y (.inr (.inr e))
  · intro y
    refine ⟨fun e => ⟨fun e2 => ?_, fun e2 => ?_⟩, (h.ap y).2⟩
    · rcases hnw y e with e3 | e3
      · exact ((h.ap y).1 e3).1 e2
      · have := (hv2 y e2).2; omega
    · rcases hnw y e with e3 | e3
      · exact ((h.ap y).1 e3).2 e2
      · have := (hi2 y e2).2; omega
theorem Pr1.addV {w v w' : World} {kv vv iv nw : Value} {p : PG} {s : ByteArray} (h : Pr1 w v kv vv iv p) (hO : w'.ownsRow 0 9 1 nw (p.vals.length + 1) (p.vals.map (Value.string) ++ [Value.string s])) (hg : v.grownBy w' vv.ownBlock) (ha : nw.ownBlock = vv.ownBlock ∨ ∃ k, nw.ownBlock = some k ∧ v.heap.size ≤ k) :
    Pr1 w (w'.setCell ⟨w.heap.size + 1, 1, none⟩ nw) kv nw iv ⟨p.keys, p.vals ++ [s], p.kids⟩ ∧ Bk w' (w.heap.size + 1) 40 [kv, vv, iv] := by
  have hon : Only (fun y => vv.ownBlock = some y) v w' := only_of_grown hg (fun k e => e)
  have hos : Only (fun y => y = w.heap.size + 1) w' (w'.setCell ⟨w.heap.size + 1, 1, none⟩ nw) := only_set (R := fun y => y = w.heap.size + 1) rfl _
  have hlo : ∀ y, vv.ownBlock = some y → w.heap.size + 1 < y := fun y e => h.lo y (.inr (.inl e))
  have hbl := h.bk.lt
  have hnw : ∀ y, nw.ownBlock = some y → vv.ownBlock = some y ∨ v.heap.size ≤ y := by
    intro y hy
    rcases ha with e | ⟨k, e, hk⟩
    · exact .inl (e ▸ hy)
    · rw [e] at hy; cases hy; exact .inr hk
  have hnl : ∀ y, nw.ownBlock = some y → w.heap.size + 1 < y := by
    intro y hy
    rcases hnw y hy with e | e
    · exact hlo y e
    · omega
  have hb2 : Bk w' (w.heap.size + 1) 40 [kv, vv, iv] := h.bk.to hon (fun e => by have := hlo _ e; omega)
  have hrb : Bk w' w.heap.size 40 [.slice none 0 0, .slice none 0 0, .slice none 0 0] := h.rb.to hon (fun e => by have := hlo _ e; omega)
  have hk2 := World.ownsRow.lt h.hk
  have hv2 := World.ownsRow.lt h.hv
  have hi2 := World.ownsRow.lt h.hi
  refine ⟨⟨(h.be.trans (hon.below h.be.size (fun b hb e => by have := hlo _ e; omega))).setCell (p := ⟨w.heap.size + 1, 1, none⟩) (Nat.le_succ _) _, hrb.setOther (by omega) _ _, ?_, ?_, ?_, ?_, ?_, ?_⟩, hb2⟩
  · exact hb2.set 1 nw
  · exact own_kept (own_kept h.hk hon (fun k e e2 => ((h.ap k).1 e).1 e2)) hos (fun k e e2 => by have := h.lo k (.inl e); omega)
  · have : (w'.setCell ⟨w.heap.size + 1, 1, none⟩ nw).ownsRow 0 9 1 nw (p.vals.length + 1) (p.vals.map (Value.string) ++ [Value.string s]) := own_kept hO hos (fun k e e2 => by have := hnl k e; omega)
    simpa using this
  · exact own_kept (own_kept h.hi hon (fun k e e2 => (h.ap k).2 e2 e)) hos (fun k e e2 => by have := h.lo k (.inr (.inr e)); omega)
  · rintro y (e | e | e)
    · exact h.lo y (.inl e)
    · exact hnl y e
    · exact h.lo y (.inr (.inr e))
  · intro y
    refine ⟨fun e => ⟨fun e2 => ?_, ((h.ap y).1 e).2⟩, fun e e2 => ?_⟩
    · rcases hnw y e2 with e3 | e3
      · exact ((h.ap y).1 e).1 e3
      · have := (hk2 y e).2; omega
    · rcases hnw y e with e3 | e3
      · exact (h.ap y).2 e3 e2
      · have := (hi2 y e2).2; omega
theorem Pr1.addI {w v w' : World} {kv vv iv nw : Value} {p : PG} {s : Int} (h : Pr1 w v kv vv iv p) (hO : w'.ownsRow 0 3 1 nw (p.kids.length + 1) (p.kids.map (Value.int .i64) ++ [Value.int .i64 s])) (hg : v.grownBy w' iv.ownBlock) (ha : nw.ownBlock = iv.ownBlock ∨ ∃ k, nw.ownBlock = some k ∧ v.heap.size ≤ k) :
    Pr1 w (w'.setCell ⟨w.heap.size + 1, 2, none⟩ nw) kv vv nw ⟨p.keys, p.vals, p.kids ++ [s]⟩ ∧ Bk w' (w.heap.size + 1) 40 [kv, vv, iv] := by
  have hon : Only (fun y => iv.ownBlock = some y) v w' := only_of_grown hg (fun k e => e)
  have hos : Only (fun y => y = w.heap.size + 1) w' (w'.setCell ⟨w.heap.size + 1, 2, none⟩ nw) := only_set (R := fun y => y = w.heap.size + 1) rfl _
  have hlo : ∀ y, iv.ownBlock = some y → w.heap.size + 1 < y := fun y e => h.lo y (.inr (.inr e))
  have hbl := h.bk.lt
  have hnw : ∀ y, nw.ownBlock = some y → iv.ownBlock = some y ∨ v.heap.size ≤ y := by
    intro y hy
    rcases ha with e | ⟨k, e, hk⟩
    · exact .inl (e ▸ hy)
    · rw [e] at hy; cases hy; exact .inr hk
  have hnl : ∀ y, nw.ownBlock = some y → w.heap.size + 1 < y := by
    intro y hy
    rcases hnw y hy with e | e
    · exact hlo y e
    · omega
  have hb2 : Bk w' (w.heap.size + 1) 40 [kv, vv, iv] := h.bk.to hon (fun e => by have := hlo _ e; omega)
  have hrb : Bk w' w.heap.size 40 [.slice none 0 0, .slice none 0 0, .slice none 0 0] := h.rb.to hon (fun e => by have := hlo _ e; omega)
  have hk2 := World.ownsRow.lt h.hk
  have hv2 := World.ownsRow.lt h.hv
  have hi2 := World.ownsRow.lt h.hi
  refine ⟨⟨(h.be.trans (hon.below h.be.size (fun b hb e => by have := hlo _ e; omega))).setCell (p := ⟨w.heap.size + 1, 2, none⟩) (Nat.le_succ _) _, hrb.setOther (by omega) _ _, ?_, ?_, ?_, ?_, ?_, ?_⟩, hb2⟩
  · exact hb2.set 2 nw
  · exact own_kept (own_kept h.hk hon (fun k e e2 => ((h.ap k).1 e).2 e2)) hos (fun k e e2 => by have := h.lo k (.inl e); omega)
  · exact own_kept (own_kept h.hv hon (fun k e e2 => (h.ap k).2 e e2)) hos (fun k e e2 => by have := h.lo k (.inr (.inl e)); omega)
  · have : (w'.setCell ⟨w.heap.size + 1, 2, none⟩ nw).ownsRow 0 3 1 nw (p.kids.length + 1) (p.kids.map (Value.int .i64) ++ [Value.int .i64 s]) := own_kept hO hos (fun k e e2 => by have := hnl k e; omega)
    simpa using this
  · rintro y (e | e | e)
    · exact h.lo y (.inl e)
    · exact h.lo y (.inr (.inl e))
    · exact hnl y e
  · intro y
    refine ⟨fun e => ⟨((h.ap y).1 e).1, fun e2 => ?_⟩, fun e e2 => ?_⟩
    · rcases hnw y e2 with e3 | e3
      · exact ((h.ap y).1 e).2 e3
      · have := (hk2 y e).2; omega
    · rcases hnw y e2 with e3 | e3
      · exact (h.ap y).2 e e3
      · have := (hv2 y e).2; omega
end Go.Proofs.YtpgogpphobafoabDoor
/-
  PageRead of the specification.
-/
namespace Go.Proofs.YtpgogpphobafoabDoor
open Go.RowKit
def PrPost (o : Option PG) (w : World) (e : Ending) (w' : World) : Prop := Below w.heap.size w w' ∧ ((o = none ∧ e = .returned (.tuple #[.agg #[.slice none 0 0, .slice none 0 0, .slice none 0 0], .bool false])) ∨ ∃ (p : PG) (ka : Option Addr) (kn kc : Nat) (va : Option Addr) (vn vc : Nat) (ia : Option Addr) (jn ic : Nat), o = some p ∧ e = .returned (.tuple #[.agg #[.slice ka kn kc, .slice va vn vc, .slice ia jn ic], .bool true]) ∧ Pgr w' (fun y => w.heap.size ≤ y) ka kn kc va vn vc ia jn ic p)
theorem gv_rng (zs : List Int) (hb : ∀ i : Nat, 0 ≤ zs[i]?.getD 0 ∧ zs[i]?.getD 0 ≤ 255) (p : Int) : -1 ≤ (gv zs p).2 ∧ (gv zs p).2 ≤ zs.length ∧ 0 ≤ (gv zs p).1 ∧ (gv zs p).1 ≤ 1099511627775 := by
  rcases gv_range zs hb p with h | ⟨j, h1, h2, h3, h4, h5⟩
  · rw [h]; exact ⟨by decide, by show (-1 : Int) ≤ _; omega, by decide, by decide⟩
  · exact ⟨by omega, by omega, h4, h5⟩
theorem gt_range (zs : List Int) (hb : ∀ i : Nat, 0 ≤ zs[i]?.getD 0 ∧ zs[i]?.getD 0 ≤ 255) (p : Int) : -1 ≤ (gt zs p).2 ∧ (gt zs p).2 ≤ zs.length := by
  have h := gv_rng zs hb p
  unfold gt
  split
  · exact ⟨by decide, by show (-1 : Int) ≤ _; omega⟩
  · rename_i h2
    show -1 ≤ (gv zs p).2 + (gv zs p).1 ∧ (gv zs p).2 + (gv zs p).1 ≤ zs.length
    omega
theorem pgBytes_some {p : PG} {bs : List Int} (h : pgBytes p = some bs) : (∀ z ∈ bs, 0 ≤ z ∧ z ≤ 255) ∧ bs.length = 512 := by
  unfold pgBytes at h
  split at h
  · rename_i hok
    cases h
    have hF := pgOk_facts hok
    have hl := pgBody_len hF p.keys.length (Nat.le_refl _)
    have hn := hF.nk
    have hr : (pgRaw p).length ≤ 512 := by show (pgBody p p.keys.length).length ≤ 512; omega
    refine ⟨byte_append (pgBody_byte hF _ (Nat.le_refl _)) (fun z hz => by have := List.eq_of_mem_replicate hz; omega), ?_⟩
    rw [pgFull, List.length_append, List.length_replicate]
    omega
  · cases h
end Go.Proofs.YtpgogpphobafoabDoor
/-
  What a row's list of errors gives: the variable's cell holds an error.
-/
namespace Go.Proofs.YtpgogpphobafoabDoor
open Go.RowKit Go.ChangeShapes

theorem laid_err {P : Program} {n nm : String} {d : DataW Unit} {r : List (String × DataW Unit)} {W : World} {g : Nat} {ti : TypeId} {ms : Array (String × TypeId)}
    (h : laidMet P ((n, .iface nm d) :: r) W) (hg : P.globalNamed n = some g) (ht : (P.globals[g]?).map (·.type) = some ti) (hi : P.underlying ti = some (.interface ms)) : Err W g := by
  obtain ⟨ps, ⟨g0, t0, cs0, f0, p0, q0, hg0, ht0, hv0, hd0, _, e0⟩, _, hrows⟩ := h
  obtain rfl := Option.some.inj (hg.symm.trans hg0)
  obtain rfl := Option.some.inj (ht.symm.trans ht0)
  obtain ⟨f1, u, v, hcs, hn, h1⟩ := iface_of_trod hi hd0
  have hc : cs0 = #[.iface u v] := by
    cases cs0
    simp_all
  subst hc
  exact ⟨u, v, by simpa using World.var?_cell hg0 hv0 0⟩
theorem Err.lt {w : World} {g : Nat} (h : Err w g) : g < w.heap.size := by
  obtain ⟨t, x, hc⟩ := h
  exact block_lt hc
end Go.Proofs.YtpgogpphobafoabDoor
/-
  The program's reader of pages: its parts, and how it gives up.
-/
namespace Go.Proofs.YtpgogpphobafoabDoor
open Go.RowKit
/-- The call ends in a panic of its own. -/
def Gave (e : Ending) : Prop := ∃ t x, e = .panicked [{ v := .iface t x, recovered := false }]
set_option maxHeartbeats 800000 in
theorem giveUp_any (R : Nat) (w : World) (he : Err w 3) : Calls Tryd.prog 56 #[.pointer (some ⟨R, 0, none⟩)] w fun e w' => Gave e ∧ w = w' := by
  obtain ⟨t, x, hx⟩ := he
  go_enter Tryd.func56, Tryd.ntmps56
  go_wp2
  exact ⟨rfl, ⟨t, x, rfl⟩, rfl⟩
set_option maxHeartbeats 800000 in
theorem goTo_no (R : Nat) (q : Int) (w : World) (he : Err w 3) (hq : q < 0) : Calls Tryd.prog 57 #[.pointer (some ⟨R, 0, none⟩), .int .i64 q] w fun e w' => Gave e ∧ w = w' := by
  have HE := hid he
  clear he
  go_enter Tryd.func57, Tryd.ntmps57
  go_wp2_with fail
  refine (giveUp_any R w HE.out).mono ?_
  rintro e w1 ⟨⟨t, x, rfl⟩, rfl⟩
  go_wp2
  exact ⟨rfl, ⟨t, x, rfl⟩, rfl⟩
set_option maxHeartbeats 800000 in
theorem goTo_yes (R : Nat) (q : Int) (w : World) {u : Value} {y : Int} (hb : Bk w R 64 [u, .int .i64 y]) (hq : 0 ≤ q) : Calls Tryd.prog 57 #[.pointer (some ⟨R, 0, none⟩), .int .i64 q] w fun e w' => e = .returned (.tuple #[]) ∧ w' = w.setCell ⟨R, 1, none⟩ (.int .i64 q) := by
  have c1 := hb.cell (j := 1) rfl
  have f1 := hb.free 1
  have hq' : ¬ q < 0 := by omega
  clear hb
  go_enter Tryd.func57, Tryd.ntmps57
  go_wp2
  go_end0
  exact ⟨rfl, rfl⟩
end Go.Proofs.YtpgogpphobafoabDoor
/-
  The reader's numbers, texts and counts.
-/
namespace Go.Proofs.YtpgogpphobafoabDoor
open Go.RowKit
/-- The reader in its box, with the bytes that it reads below it. -/
structure Rs (v : World) (R : Nat) (a : Option Addr) (n c : Nat) (zs : List Int) (q : Int) : Prop where
  bk : Bk v R 64 [.slice a n c, .int .i64 q]
  rd : Rd v a n c zs
  lo : ∀ x, a = some x → 0 < n → x.block < R
  er : Err v 3
  eg : 3 < R
theorem Rs.to {v v' : World} {P : Nat → Prop} {R : Nat} {a : Option Addr} {n c : Nat} {zs : List Int} {q : Int} (h : Rs v R a n c zs q) (ho : Only P v v') (hP : ∀ y, P y → R < y) : Rs v' R a n c zs q := by
  have hlt := h.bk.lt
  have hb : Below (R + 1) v v' := ho.below (by omega) (fun b hb hr => by have := hP b hr; omega)
  exact ⟨h.bk.to ho (fun hr => by have := hP _ hr; omega), h.rd.below (hb.mono (Nat.le_succ R)) h.lo, h.lo, h.er.below hb (by have := h.eg; omega), h.eg⟩
theorem Rs.below {v v' : World} {R : Nat} {a : Option Addr} {n c : Nat} {zs : List Int} {q : Int} (h : Rs v R a n c zs q) (hb : Below v.heap.size v v') : Rs v' R a n c zs q :=
  h.to (P := fun _ => False) (only_of_below hb _) (fun _ h => h.elim)
/-- The reader behind a part that was there. -/
theorem Rs.went {v v' : World} {R : Nat} {a : Option Addr} {n c : Nat} {zs : List Int} {q q' : Int} (h : Rs v R a n c zs q) (ho : Only (fun y => y = R) v v') (hk : Bk v' R 64 [.slice a n c, .int .i64 q']) : Rs v' R a n c zs q' := by
  have hlt := h.bk.lt
  have hb : Below R v v' := ho.below (by omega) (fun b hb hr => by omega)
  exact ⟨hk, h.rd.below hb h.lo, h.lo, h.er.below hb h.eg, h.eg⟩
/-- A part is read, or the reader gives up where there is none. -/
def PtP (R : Nat) (a : Option Addr) (n c : Nat) (u : Value) (q : Int) (w : World) (e : Ending) (w' : World) : Prop :=
  Only (fun y => y = R) w w' ∧ w'.heap.size = w.heap.size ∧ ((q < 0 ∧ Gave e) ∨ (0 ≤ q ∧ e = .returned u ∧ Bk w' R 64 [.slice a n c, .int .i64 q]))
set_option maxHeartbeats 2000000 in
set_option maxRecDepth 20000 in
theorem rtext_any (R : Nat) (a : Option Addr) (n c : Nat) (zs : List Int) (q : Int) (w : World) (h : Rs w R a n c zs q) (hq : q ≤ 9223372036854775807) :
    Calls Tryd.prog 73 #[.pointer (some ⟨R, 0, none⟩)] w fun e w' => PtP R a n c (.string (strOf (gt zs q).1)) (gt zs q).2 w e w' := by
  have H0 := hid h
  have c0 := h.bk.cell (j := 0) rfl
  have c1 := h.bk.cell (j := 1) rfl
  have HC := hid (implGetText_any a n c zs q w.drew (h.rd.kept (below_drew _)) hq)
  clear h
  generalize strOf (gt zs q).1 = s at *
  generalize (gt zs q).2 = q' at *
  go_enter Tryd.func73, Tryd.ntmps73
  go_wp2_with fail
  go_cut [3, 4] (fun x y v => x = .string s ∧ y = .int .i64 q' ∧ v = w.drew)
  case first =>
    go_region_with (go_at_call 84; refine HC.out.mono ?_; rintro e w1 ⟨rfl, rfl⟩)
    all_goals (go_wp2_with fail; go_meet)
    all_goals exact ⟨rfl, rfl, rfl⟩
  case rest =>
    obtain ⟨rfl, rfl, rfl⟩ := hcut
    have H1 := hid (H0.out.below (below_drew w))
    have O1 : Hid (Only (fun y => y = R) w w.drew) := only_of_below (below_drew w) _
    have Z1 : Hid (w.drew.heap.size = w.heap.size) := rfl
    clear HC c0 c1 H0
    generalize w.drew = v at *
    by_cases hn : q' < 0
    · go_wp2_with fail
      refine (goTo_no R q' v H1.out.er hn).mono ?_
      rintro e w1 ⟨⟨t, x, rfl⟩, rfl⟩
      go_wp2
      exact ⟨rfl, O1.out, Z1.out, .inl ⟨hn, t, x, rfl⟩⟩
    · go_wp2_with fail
      refine (goTo_yes R q' v H1.out.bk (by omega)).mono ?_
      rintro e w1 ⟨rfl, hw1⟩
      have O2 : Hid (Only (fun y => y = R) w w1) := by rw [hw1]; exact O1.out.trans (only_set (R := fun y => y = R) rfl _)
      have K2 : Hid (Bk w1 R 64 [.slice a n c, .int .i64 q']) := by rw [hw1]; exact H1.out.bk.set 1 _
      have Z2 : Hid (w1.heap.size = w.heap.size) := by rw [hw1, ← Z1.out]; show _ = _; simp [World.setCell]
      clear hw1
      go_wp2
      go_ret
      exact ⟨O2.out, Z2.out, .inr ⟨by omega, rfl, K2.out⟩⟩
set_option maxHeartbeats 2000000 in
set_option maxRecDepth 20000 in
theorem rnum_any (R : Nat) (a : Option Addr) (n c : Nat) (zs : List Int) (q : Int) (w : World) (h : Rs w R a n c zs q) (hq : q ≤ 9223372036854775807) :
    Calls Tryd.prog 74 #[.pointer (some ⟨R, 0, none⟩)] w fun e w' => PtP R a n c (.int .i64 (gv zs q).1) (gv zs q).2 w e w' := by
  have H0 := hid h
  have c0 := h.bk.cell (j := 0) rfl
  have c1 := h.bk.cell (j := 1) rfl
  have HC := hid (implGetVar_any a n c zs q w.drew (h.rd.kept (below_drew _)) hq)
  clear h
  generalize (gv zs q).1 = s at *
  generalize (gv zs q).2 = q' at *
  go_enter Tryd.func74, Tryd.ntmps74
  go_wp2_with fail
  go_cut [3, 4] (fun x y v => x = .int .i64 s ∧ y = .int .i64 q' ∧ v = w.drew)
  case first =>
    go_region_with (go_at_call 85; refine HC.out.mono ?_; rintro e w1 ⟨rfl, rfl⟩)
    all_goals (go_wp2_with fail; go_meet)
    all_goals exact ⟨rfl, rfl, rfl⟩
  case rest =>
    obtain ⟨rfl, rfl, rfl⟩ := hcut
    have H1 := hid (H0.out.below (below_drew w))
    have O1 : Hid (Only (fun y => y = R) w w.drew) := only_of_below (below_drew w) _
    have Z1 : Hid (w.drew.heap.size = w.heap.size) := rfl
    clear HC c0 c1 H0
    generalize w.drew = v at *
    by_cases hn : q' < 0
    · go_wp2_with fail
      refine (goTo_no R q' v H1.out.er hn).mono ?_
      rintro e w1 ⟨⟨t, x, rfl⟩, rfl⟩
      go_wp2
      exact ⟨rfl, O1.out, Z1.out, .inl ⟨hn, t, x, rfl⟩⟩
    · go_wp2_with fail
      refine (goTo_yes R q' v H1.out.bk (by omega)).mono ?_
      rintro e w1 ⟨rfl, hw1⟩
      have O2 : Hid (Only (fun y => y = R) w w1) := by rw [hw1]; exact O1.out.trans (only_set (R := fun y => y = R) rfl _)
      have K2 : Hid (Bk w1 R 64 [.slice a n c, .int .i64 q']) := by rw [hw1]; exact H1.out.bk.set 1 _
      have Z2 : Hid (w1.heap.size = w.heap.size) := by rw [hw1, ← Z1.out]; show _ = _; simp [World.setCell]
      clear hw1
      go_wp2
      go_ret
      exact ⟨O2.out, Z2.out, .inr ⟨by omega, rfl, K2.out⟩⟩
/-- A count is read, or the reader gives up where there is none or too great a one. -/
def CtP (R : Nat) (a : Option Addr) (n c : Nat) (m : Int) (o : Int × Int) (w : World) (e : Ending) (w' : World) : Prop :=
  Only (fun y => y = R) w w' ∧ w'.heap.size = w.heap.size ∧ (((o.2 < 0 ∨ m < o.1) ∧ Gave e) ∨ (0 ≤ o.2 ∧ o.1 ≤ m ∧ e = .returned (.int .i64 o.1) ∧ Bk w' R 64 [.slice a n c, .int .i64 o.2]))
set_option maxHeartbeats 2000000 in
theorem rcount_any (R : Nat) (a : Option Addr) (n c : Nat) (zs : List Int) (q m : Int) (w : World) (h : Rs w R a n c zs q) (hq : q ≤ 9223372036854775807) :
    Calls Tryd.prog 72 #[.pointer (some ⟨R, 0, none⟩), .int .i64 m] w fun e w' => CtP R a n c m (gv zs q) w e w' := by
  have H0 := hid h
  have HC := hid (rnum_any R a n c zs q w h hq)
  clear h
  generalize gv zs q = o at *
  obtain ⟨s, q'⟩ := o
  dsimp only at HC
  go_enter Tryd.func72, Tryd.ntmps72
  go_wp2_with fail
  refine HC.out.mono ?_
  rintro e w1 ⟨ho, hz, hcase⟩
  have O1 := hid ho
  have Z1 := hid hz
  clear ho hz HC
  rcases hcase with ⟨hn, t, x, rfl⟩ | ⟨hn, rfl, hk⟩
  · go_wp2
    exact ⟨rfl, O1.out, Z1.out, .inl ⟨.inl hn, t, x, rfl⟩⟩
  · have K1 := hid hk
    have H1 := hid (H0.out.went O1.out hk)
    clear hk
    have HN := hid hn
    clear hn
    by_cases hm : m < s
    · go_wp2_with fail
      refine (giveUp_any R w1 H1.out.er).mono ?_
      rintro e w2 ⟨⟨t, x, rfl⟩, rfl⟩
      go_wp2
      exact ⟨rfl, O1.out, Z1.out, .inl ⟨.inr hm, t, x, rfl⟩⟩
    · go_wp2
      go_ret
      exact ⟨O1.out, Z1.out, .inr ⟨HN.out, by show s ≤ m; omega, rfl, K1.out⟩⟩
end Go.Proofs.YtpgogpphobafoabDoor
/-
  Plain mathematics: a number that was put is got again, and so is a text.
-/
namespace Go.Proofs.YtpgogpphobafoabDoor

theorem encF_down (f : Nat) : ∀ n : Int, n < bnd f → encF (f + 1) n = encF f n := by
  induction f with
  | zero => intro n h; rw [encF_small _ n (by simpa [bnd] using h), encF_small _ n (by simpa [bnd] using h)]
  | succ f ih =>
    intro n h
    by_cases hn : 128 ≤ n
    · rw [encF_big _ n hn, encF_big _ n hn, ih (n / 128) (bnd_down f n h)]
    · rw [encF_small _ n (by omega), encF_small _ n (by omega)]
theorem at_here (pre : List Int) (z : Int) (r : List Int) : (pre ++ z :: r)[pre.length]?.getD 0 = z := by simp
theorem not_bad {r q u : Int} (hs : r + q * u ≤ 1099511627775) (hz : q = 0 → ¬ 1 < u) : ¬ (1099511627775 < r + q * u ∨ (q = 0 ∧ 1 < u)) := by
  rintro (h | ⟨h, h'⟩)
  · omega
  · exact hz h h'
theorem gvGo_enc (f' : Nat) : ∀ (f : Nat) (pre rest : List Int) (q r u : Int), 0 ≤ q → q < bnd f' → f' < f → r + q * u ≤ 1099511627775 → (q = 0 → ¬ 1 < u) →
    gvGo f (pre ++ encF f' q ++ rest) pre.length r u = (r + q * u, ((pre.length + (encF f' q).length : Nat) : Int)) := by
  induction f' with
  | zero =>
    intro f pre rest q r u h0 hq hf hs hz
    obtain ⟨g, rfl⟩ : ∃ g, f = g + 1 := ⟨f - 1, by omega⟩
    have e : pre ++ encF 0 q ++ rest = pre ++ q :: rest := by simp [encF]
    have hq' : q < 128 := hq
    rw [e, gvGo_good g _ pre.length r u (by simp) (by rw [at_here]; exact hq') (by rw [at_here]; exact not_bad hs hz), at_here]
    simp [encF]
  | succ f' ih =>
    intro f pre rest q r u h0 hq hf hs hz
    obtain ⟨g, rfl⟩ : ∃ g, f = g + 1 := ⟨f - 1, by omega⟩
    by_cases hb : 128 ≤ q
    · rw [encF_big f' q hb]
      have e : pre ++ (128 + q % 128) :: encF f' (q / 128) ++ rest = pre ++ (128 + q % 128) :: (encF f' (q / 128) ++ rest) := by simp
      have e2 : pre ++ (128 + q % 128) :: encF f' (q / 128) ++ rest = (pre ++ [128 + q % 128]) ++ encF f' (q / 128) ++ rest := by simp
      have hm : q * u = q % 128 * u + q / 128 * (u * 128) := by
        have : q = q % 128 + 128 * (q / 128) := by omega
        rw [Int.mul_comm u 128, ← Int.mul_assoc, ← Int.add_mul]
        congr 1
        omega
      have hk : pre.length < (pre ++ (128 + q % 128) :: (encF f' (q / 128) ++ rest)).length := by simp
      rw [e, gvGo_more g _ pre.length r u hk (by rw [at_here]; omega), at_here, ← e, e2]
      have hl : pre.length + 1 = (pre ++ [128 + q % 128]).length := by simp
      rw [hl, ih g (pre ++ [128 + q % 128]) rest (q / 128) (r + (128 + q % 128 - 128) * u) (u * 128) (by omega) (bnd_down f' q hq) (by omega) (by
        rw [show 128 + q % 128 - 128 = q % 128 from by omega]; omega) (by intro h; omega)]
      rw [show 128 + q % 128 - 128 = q % 128 from by omega]
      simp only [Prod.mk.injEq]
      constructor
      · omega
      · simp; omega
    · have e : pre ++ encF (f' + 1) q ++ rest = pre ++ q :: rest := by rw [encF_small _ q (by omega)]; simp
      rw [e, gvGo_good g _ pre.length r u (by simp) (by rw [at_here]; omega) (by rw [at_here]; exact not_bad hs hz), at_here, encF_small _ q (by omega)]
      simp
/-- What is put is got. -/
theorem gv_enc (pre rest : List Int) (n : Int) (h0 : 0 ≤ n) (h1 : n ≤ 1099511627775) : gv (pre ++ enc n ++ rest) (pre.length : Int) = (n, ((pre.length + (enc n).length : Nat) : Int)) := by
  have e : enc n = encF 5 n := encF_down 5 n (by simp [bnd]; omega)
  rw [gv_nat, e, gvGo_enc 5 6 pre rest n 0 1 h0 (by simp [bnd]; omega) (by omega) (by omega) (by omega)]
  simp
theorem gt_enc (pre zs : List Int) (h : zs.length ≤ 1048576) : gt (pre ++ enc (zs.length : Int) ++ zs) (pre.length : Int) = (zs, ((pre ++ enc (zs.length : Int) ++ zs).length : Int)) := by
  unfold gt
  rw [gv_enc pre zs (zs.length : Int) (by omega) (by omega)]
  simp only
  rw [if_neg (by simp only [List.length_append]; omega)]
  simp only [Int.toNat_natCast, Prod.mk.injEq]
  refine ⟨?_, ?_⟩
  · have : pre.length + (enc (zs.length : Int)).length = (pre ++ enc (zs.length : Int)).length := by simp
    rw [this, List.drop_left, List.take_length]
  · simp only [List.length_append]; omega
end Go.Proofs.YtpgogpphobafoabDoor
/-
  Plain mathematics: a page's bytes are read as the page.
-/
namespace Go.Proofs.YtpgogpphobafoabDoor
open Go.RowKit
theorem gt_rest (pre zs rest : List Int) (h : zs.length ≤ 1048576) : gt (pre ++ enc (zs.length : Int) ++ zs ++ rest) (pre.length : Int) = (zs, ((pre ++ enc (zs.length : Int) ++ zs).length : Int)) := by
  have hg := gv_enc pre (zs ++ rest) (zs.length : Int) (by omega) (by omega)
  have e : pre ++ enc (zs.length : Int) ++ zs ++ rest = pre ++ enc (zs.length : Int) ++ (zs ++ rest) := by simp
  have hlen : (pre ++ enc (zs.length : Int) ++ (zs ++ rest)).length = pre.length + (enc (zs.length : Int)).length + (zs.length + rest.length) := by simp only [List.length_append]
  rw [e, gt, hg]
  simp only
  rw [if_neg (by rw [hlen]; omega)]
  have hd : ((pre ++ enc (zs.length : Int) ++ (zs ++ rest)).drop ((pre.length + (enc (zs.length : Int)).length : Nat) : Int).toNat) = zs ++ rest := by
    rw [Int.toNat_natCast, show pre.length + (enc (zs.length : Int)).length = (pre ++ enc (zs.length : Int)).length by simp, List.drop_left]
  rw [hd, Int.toNat_natCast, List.take_left]
  simp only [List.length_append, Prod.mk.injEq, true_and]
  omega
theorem strOf_bytesOf (s : ByteArray) : strOf (bytesOf s) = s := by
  apply ByteArray.ext
  simp only [strOf, bytesOf, List.map_map]
  have : (List.map ((fun z : Int => UInt8.ofNat z.toNat) ∘ fun b : UInt8 => ((b.toNat : Nat) : Int)) s.data.toList) = s.data.toList := by
    conv => rhs; rw [← List.map_id s.data.toList]
    refine List.map_congr_left fun b _ => ?_
    simp
  rw [this]
theorem body_split (p : PG) (j : Nat) : ∀ m, ∃ R, pgBody p (j + m) = pgBody p j ++ R
  | 0 => ⟨[], by simp⟩
  | m + 1 => by
    obtain ⟨R, h⟩ := body_split p j m
    exact ⟨R ++ pgPart p (j + m), by rw [← Nat.add_assoc, pgBody, h, List.append_assoc]⟩
theorem sAt_take {l : List ByteArray} {j : Nat} (h : j < l.length) : l.take j ++ [sAt l j] = l.take (j + 1) := by
  rw [List.take_succ_eq_append_getElem h]; simp [sAt, h]
theorem iAt_take {l : List Int} {j : Nat} (h : j < l.length) : l.take j ++ [iAt l j] = l.take (j + 1) := by
  rw [List.take_succ_eq_append_getElem h]; simp [iAt, h]
theorem PG.ext' {p : PG} {a b : List ByteArray} {c : List Int} (h1 : a = p.keys) (h2 : b = p.vals) (h3 : c = p.kids) : (⟨a, b, c⟩ : PG) = p := by
  cases p; simp at h1 h2 h3; simp [h1, h2, h3]
theorem cd_leaf {p : PG} {zs rest : List Int} (hF : PgF p) (h0 : p.kids.length = 0) (hz : zs = pgRaw p ++ rest) : ∀ m j, j + m = p.keys.length → cdGo zs false (p.keys.length : Int) (6 - j) j ⟨p.keys.take j, p.vals.take j, []⟩ ((pgBody p j).length : Int) = p
  | 0, j, hj => by
    obtain ⟨hv, _⟩ := hF.lf h0
    rw [cdGo_stop _ _ _ _ _ _ _ (by omega)]
    exact PG.ext' (List.take_of_length_le (by omega)) (List.take_of_length_le (by omega)) (List.eq_nil_of_length_eq_zero h0).symm
  | m + 1, j, hj => by
    obtain ⟨hv, hvs⟩ := hF.lf h0
    have hn := hF.nk
    have hk := hF.ks j (by omega)
    have hvj := hvs j (by omega)
    obtain ⟨R, hR⟩ := body_split p (j + 1) m
    have e1 : zs = pgBody p j ++ (enc ((bytesOf (sAt p.keys j)).length : Int) ++ bytesOf (sAt p.keys j) ++ (enc ((bytesOf (sAt p.vals j)).length : Int) ++ bytesOf (sAt p.vals j))) ++ (R ++ rest) := by
      rw [hz, pgRaw, ← hj, show j + (m + 1) = j + 1 + m by omega, hR, pgBody, pgPart, if_pos h0, bytesOf_len, bytesOf_len]
      simp only [List.append_assoc]
    have g1 : gt zs ((pgBody p j).length : Int) = (bytesOf (sAt p.keys j), ((pgBody p j ++ enc ((bytesOf (sAt p.keys j)).length : Int) ++ bytesOf (sAt p.keys j)).length : Int)) := by
      have := gt_rest (pgBody p j) (bytesOf (sAt p.keys j)) (enc ((bytesOf (sAt p.vals j)).length : Int) ++ bytesOf (sAt p.vals j) ++ (R ++ rest)) (by rw [bytesOf_len]; omega)
      rw [← this, e1]
      simp only [List.append_assoc]
    have g2 : gt zs ((pgBody p j ++ enc ((bytesOf (sAt p.keys j)).length : Int) ++ bytesOf (sAt p.keys j)).length : Int) = (bytesOf (sAt p.vals j), ((pgBody p (j + 1)).length : Int)) := by
      have := gt_rest (pgBody p j ++ enc ((bytesOf (sAt p.keys j)).length : Int) ++ bytesOf (sAt p.keys j)) (bytesOf (sAt p.vals j)) (R ++ rest) (by rw [bytesOf_len]; omega)
      have e2 : pgBody p (j + 1) = pgBody p j ++ enc ((bytesOf (sAt p.keys j)).length : Int) ++ bytesOf (sAt p.keys j) ++ enc ((bytesOf (sAt p.vals j)).length : Int) ++ bytesOf (sAt p.vals j) := by
        rw [pgBody, pgPart, if_pos h0, bytesOf_len, bytesOf_len]
        simp only [List.append_assoc]
      rw [e2, ← this, e1]
      simp only [List.append_assoc]
    have st : cdStep zs false ⟨p.keys.take j, p.vals.take j, []⟩ ((pgBody p j).length : Int) = (⟨p.keys.take (j + 1), p.vals.take (j + 1), []⟩, ((pgBody p (j + 1)).length : Int)) := by
      rw [cdStep, if_neg (by simp), g1]
      simp only
      rw [g2, strOf_bytesOf, strOf_bytesOf, sAt_take (by omega), sAt_take (by omega)]
    rw [show 6 - j = (6 - (j + 1)) + 1 by omega, cdGo_on _ _ _ _ _ _ _ ⟨by omega, by omega, by omega⟩, st]
    exact cd_leaf hF h0 hz m (j + 1) (by omega)
theorem cd_branch {p : PG} {zs rest : List Int} (hF : PgF p) (h0 : ¬ p.kids.length = 0) (hv0 : p.vals = []) (hz : zs = pgRaw p ++ rest) : ∀ m j, j + m = p.keys.length → cdGo zs true (p.keys.length : Int) (6 - j) j ⟨p.keys.take j, [], p.kids.take (j + 1)⟩ ((pgBody p j).length : Int) = p
  | 0, j, hj => by
    obtain ⟨hv, _⟩ := hF.br h0
    rw [cdGo_stop _ _ _ _ _ _ _ (by omega)]
    exact PG.ext' (List.take_of_length_le (by omega)) hv0.symm (List.take_of_length_le (by omega))
  | m + 1, j, hj => by
    obtain ⟨hv, hvs⟩ := hF.br h0
    have hn := hF.nk
    have hk := hF.ks j (by omega)
    have hvj := hvs (j + 1) (by omega)
    obtain ⟨R, hR⟩ := body_split p (j + 1) m
    have e1 : zs = pgBody p j ++ (enc ((bytesOf (sAt p.keys j)).length : Int) ++ bytesOf (sAt p.keys j) ++ enc (iAt p.kids (j + 1))) ++ (R ++ rest) := by
      rw [hz, pgRaw, ← hj, show j + (m + 1) = j + 1 + m by omega, hR, pgBody, pgPart, if_neg h0, bytesOf_len]
      simp only [List.append_assoc]
    have g1 : gt zs ((pgBody p j).length : Int) = (bytesOf (sAt p.keys j), ((pgBody p j ++ enc ((bytesOf (sAt p.keys j)).length : Int) ++ bytesOf (sAt p.keys j)).length : Int)) := by
      have := gt_rest (pgBody p j) (bytesOf (sAt p.keys j)) (enc (iAt p.kids (j + 1)) ++ (R ++ rest)) (by rw [bytesOf_len]; omega)
      rw [← this, e1]
      simp only [List.append_assoc]
    have g2 : gv zs ((pgBody p j ++ enc ((bytesOf (sAt p.keys j)).length : Int) ++ bytesOf (sAt p.keys j)).length : Int) = (iAt p.kids (j + 1), ((pgBody p (j + 1)).length : Int)) := by
      have := gv_enc (pgBody p j ++ enc ((bytesOf (sAt p.keys j)).length : Int) ++ bytesOf (sAt p.keys j)) (R ++ rest) (iAt p.kids (j + 1)) (by omega) (by omega)
      have e2 : pgBody p (j + 1) = pgBody p j ++ enc ((bytesOf (sAt p.keys j)).length : Int) ++ bytesOf (sAt p.keys j) ++ enc (iAt p.kids (j + 1)) := by
        rw [pgBody, pgPart, if_neg h0, bytesOf_len]
        simp only [List.append_assoc]
      have e3 : ((pgBody p j ++ enc ((bytesOf (sAt p.keys j)).length : Int) ++ bytesOf (sAt p.keys j)).length + (enc (iAt p.kids (j + 1))).length : Nat) = (pgBody p (j + 1)).length := by rw [e2]; exact List.length_append.symm
      rw [e3] at this
      rw [← this, e1]
      simp only [List.append_assoc]
    have st : cdStep zs true ⟨p.keys.take j, [], p.kids.take (j + 1)⟩ ((pgBody p j).length : Int) = (⟨p.keys.take (j + 1), [], p.kids.take (j + 1 + 1)⟩, ((pgBody p (j + 1)).length : Int)) := by
      rw [cdStep, if_pos rfl, g1]
      simp only
      rw [g2, strOf_bytesOf, sAt_take (by omega), iAt_take (by omega)]
    rw [show 6 - j = (6 - (j + 1)) + 1 by omega, cdGo_on _ _ _ _ _ _ _ ⟨by omega, by omega, by omega⟩, st]
    exact cd_branch hF h0 hv0 hz m (j + 1) (by omega)
/-- The bytes of a right page are read as that page. -/
theorem cd_full {p : PG} (hok : pgOk p = true) : cd (pgFull p) = p ∧ (zAt (pgFull p) 0 = 76 ∨ zAt (pgFull p) 0 = 66) := by
  have hF := pgOk_facts hok
  have hn := hF.nk
  obtain ⟨R, hR⟩ := body_split p 0 p.keys.length
  rw [Nat.zero_add] at hR
  have hz : pgFull p = pgRaw p ++ List.replicate (512 - (pgRaw p).length) 0 := rfl
  have hh : pgFull p = pgHead p ++ (R ++ List.replicate (512 - (pgRaw p).length) 0) := by
    have hr : pgRaw p = pgHead p ++ R := hR
    rw [hz]
    generalize List.replicate (512 - (pgRaw p).length) 0 = Z
    rw [hr, List.append_assoc]
  generalize R ++ List.replicate (512 - (pgRaw p).length) 0 = R2 at hh
  by_cases h0 : p.kids.length = 0
  · have hhd : pgHead p = [76] ++ enc (p.keys.length : Int) := by rw [pgHead, if_pos h0, if_pos h0]; simp
    have hz0 : zAt (pgFull p) 0 = 76 := by rw [hh, hhd]; rfl
    have hgv : gv (pgFull p) 1 = ((p.keys.length : Int), ((pgHead p).length : Int)) := by
      have := gv_enc [76] R2 (p.keys.length : Int) (by omega) (by omega)
      rw [hh, hhd]
      simpa [Int.add_comm] using this
    refine ⟨?_, .inl hz0⟩
    rw [cd, if_neg (by rw [hz0]; decide), hgv]
    have := cd_leaf hF h0 hz p.keys.length 0 (by omega)
    simpa [pgBody] using this
  · have hbr := hF.br h0
    have hk0 := hbr.2 0 (by omega)
    have hhd : pgHead p = [66] ++ enc (p.keys.length : Int) ++ enc (iAt p.kids 0) := by rw [pgHead, if_neg h0, if_neg h0]
    have hz0 : zAt (pgFull p) 0 = 66 := by rw [hh, hhd]; rfl
    have hgv : gv (pgFull p) 1 = ((p.keys.length : Int), (([66] ++ enc (p.keys.length : Int)).length : Int)) := by
      have := gv_enc [66] (enc (iAt p.kids 0) ++ R2) (p.keys.length : Int) (by omega) (by omega)
      rw [hh, hhd]
      simpa [Int.add_comm] using this
    have hgv2 : gv (pgFull p) (([66] ++ enc (p.keys.length : Int)).length : Int) = (iAt p.kids 0, ((pgHead p).length : Int)) := by
      have := gv_enc ([66] ++ enc (p.keys.length : Int)) R2 (iAt p.kids 0) (by omega) (by omega)
      rw [hh, hhd, this]
      simp
      omega
    have hv0 : p.vals = [] := by
      have h1 := hok
      simp only [pgOk, Bool.and_eq_true] at h1
      have h2 := h1.2
      rw [if_neg h0] at h2
      simp only [pgBranch, Bool.and_eq_true, decide_eq_true_eq] at h2
      exact List.eq_nil_of_length_eq_zero h2.2.2
    refine ⟨?_, .inr hz0⟩
    rw [cd, if_pos hz0, hgv]
    simp only
    rw [if_pos (by omega), hgv2]
    simp only
    have := cd_branch hF h0 hv0 hz p.keys.length 0 (by omega)
    have e : p.kids.take (0 + 1) = [iAt p.kids 0] := by
      rw [← iAt_take (by omega)]; rfl
    rw [e] at this
    simpa [pgBody] using this
theorem pgFull_len {p : PG} (hok : pgOk p = true) : (pgFull p).length = 512 := (pgBytes_some (p := p) (by rw [pgBytes, if_pos hok])).2
/-- Just the bytes of right pages are read. -/
theorem prd_iff (zs : List Int) (p : PG) : prd zs = some p ↔ pgBytes p = some zs := by
  constructor
  · intro h
    unfold prd at h
    split at h
    · rename_i hc
      cases h
      exact hc.2.2
    · cases h
  · intro h
    have h2 := h
    unfold pgBytes at h2
    split at h2
    · rename_i hok
      cases h2
      obtain ⟨h3, h4⟩ := cd_full hok
      rw [prd, if_pos ⟨pgFull_len hok, h4, by rw [h3]; exact h⟩, h3]
    · cases h2
end Go.Proofs.YtpgogpphobafoabDoor
