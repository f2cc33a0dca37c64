/-
  Rows of subs; l03Split and l03Way of the specification.
-/
import Derived.Test.YtkfeefaokghibabGreatMe2
import Derived.Deep.DeepCutAuto
import Derived.Deep.RegionLaw
import Derived.Test.YtkfeefaokghibabGreatMe1
namespace Go.Proofs.YtkfeefaokghibabGreat
open Go.RowKit
theorem Rw.take {w : World} {S : Nat → Prop} {a : Option Addr} {n c m : Nat} {xs : List Value} (h : Rw w S (.slice a n c) n xs) (hm : m ≤ n) (s : Nat) : Rw w S (.slice a m c) m (xs.take (m * s)) := by
  obtain ⟨a', c', e, h2, h3, h4, hn, h5⟩ := h
  cases e
  refine ⟨a, c, rfl, by omega, h3, fun e => by rw [e]; simp, hn, fun hp => ?_⟩
  obtain ⟨b, off, h6, h7, h8, h9⟩ := h5 (by omega)
  refine ⟨b, off, h6, h7, h8, fun j u hu => h9 j u ?_⟩
  rw [List.getElem?_take] at hu
  split at hu
  · exact hu
  · cases hu
theorem Rw.drop {w : World} {S : Nat → Prop} {b off n c m : Nat} {xs : List Value} (h : Rw w S (.slice (some ⟨b, off, none⟩) n c) n xs) (hm : m ≤ n) (s : Nat) (h0 : n - m = 0 → xs.drop (m * s) = []) : Rw w S (.slice (some ⟨b, off + m * s, none⟩) (n - m) (c - m)) (n - m) (xs.drop (m * s)) := by
  obtain ⟨a', c', e, h2, h3, h4, hn, h5⟩ := h
  cases e
  refine ⟨_, _, rfl, by omega, by omega, h0, fun e => (by cases e), fun hp => ?_⟩
  obtain ⟨b', off', h6, h7, h8, h9⟩ := h5 (by omega)
  cases h6
  refine ⟨b, off + m * s, rfl, h7, h8, fun j u hu => ?_⟩
  rw [List.getElem?_drop] at hu
  have := h9 _ u hu
  rwa [← Nat.add_assoc] at this
theorem ncs_take (V : List V3) : ∀ m, (ncs V).take (m * 3) = ncs (V.take m) := by
  induction V with
  | nil => intro m; simp [ncs]
  | cons p V ih =>
    intro m
    cases m with
    | zero => simp [ncs]
    | succ m =>
      rw [show (m + 1) * 3 = m * 3 + 1 + 1 + 1 by omega, ncs, List.take_succ_cons, List.take_succ_cons, List.take_succ_cons, ih, List.take_succ_cons, ncs]
theorem ncs_drop (V : List V3) : ∀ m, (ncs V).drop (m * 3) = ncs (V.drop m) := by
  induction V with
  | nil => intro m; simp [ncs]
  | cons p V ih =>
    intro m
    cases m with
    | zero => simp
    | succ m =>
      rw [show (m + 1) * 3 = m * 3 + 1 + 1 + 1 by omega, ncs, List.drop_succ_cons, List.drop_succ_cons, List.drop_succ_cons, ih, List.drop_succ_cons]
theorem mkV_take (L : Nat → Bool) (P K : Nat → Value) (n m : Nat) (h : m ≤ n) : (mkV L P K n).take m = mkV L P K m := by
  apply List.ext_getElem
  · simp [mkV]; omega
  · intro i h1 h2; simp [mkV]
theorem mkV_drop (L : Nat → Bool) (P K : Nat → Value) (n m : Nat) : (mkV L P K n).drop m = mkV (fun i => L (m + i)) (fun i => P (m + i)) (fun i => K (m + i)) (n - m) := by
  apply List.ext_getElem
  · simp [mkV]
  · intro i h1 h2; simp [mkV]
theorem mkV_app (L1 L2 : Nat → Bool) (P1 K1 P2 K2 : Nat → Value) (n1 n2 : Nat) : mkV L1 P1 K1 n1 ++ mkV L2 P2 K2 n2 = mkV (fun i => if i < n1 then L1 i else L2 (i - n1)) (fun i => if i < n1 then P1 i else P2 (i - n1)) (fun i => if i < n1 then K1 i else K2 (i - n1)) (n1 + n2) := by
  apply List.ext_getElem
  · simp [mkV]
  · intro i h1 h2
    by_cases hi : i < n1
    · rw [List.getElem_append_left (by simpa [mkV] using hi)]; simp [mkV, hi]
    · rw [List.getElem_append_right (by simpa [mkV] using hi)]; simp [mkV, hi]
/-- The slice v leads to the subs ts. -/
def SubR (w : World) (S : Nat → Prop) (v : Value) (ts : List T) : Prop := ∃ L P K, Rw w S v ts.length (ncs (mkV L P K ts.length)) ∧ ∀ i, i < ts.length → Sub w S (L i) (P i) (K i) (tAt ts i)
theorem SubR.to {w w' : World} {S R : Nat → Prop} {v : Value} {ts : List T} (h : SubR w S v ts) (ho : Only R w w') (hR : ∀ x, S x → x < w.heap.size → ¬ R x) : SubR w' S v ts := by
  obtain ⟨L, P, K, h1, h2⟩ := h
  exact ⟨L, P, K, h1.to ho hR, fun i hi => (h2 i hi).to ho hR⟩
theorem SubR.kept {w w' : World} {S : Nat → Prop} {v : Value} {ts : List T} (h : SubR w S v ts) (hb : Below w.heap.size w w') : SubR w' S v ts := h.to (only_of_below hb (fun _ => False)) (fun _ _ _ h => h)
theorem SubR.mono {w : World} {S R : Nat → Prop} {v : Value} {ts : List T} (h : SubR w S v ts) (hR : ∀ x, S x → x < w.heap.size → R x) : SubR w R v ts := by
  obtain ⟨L, P, K, h1, h2⟩ := h
  exact ⟨L, P, K, h1.mono hR, fun i hi => (h2 i hi).mono hR⟩
theorem SubR.shape {w : World} {S : Nat → Prop} {v : Value} {ts : List T} (h : SubR w S v ts) : ∃ a n c, v = .slice a n c ∧ Hid (n = ts.length) := by
  obtain ⟨L, P, K, h1, h2⟩ := h
  obtain ⟨a, c, e, _⟩ := h1.shape
  exact ⟨a, _, c, e, rfl⟩
/-- A sub of kids alone. -/
theorem SubR.sub {w : World} {S : Nat → Prop} {v : Value} {ts : List T} (h : SubR w S v ts) (hne : ts ≠ []) : Sub w S false (.slice none 0 0) v (.mk [] ts) := by
  obtain ⟨L, P, K, h1, h2⟩ := h
  exact .mk false _ v [] ts L P K (by have := List.length_pos_iff.2 hne; symm; exact decide_eq_false (by omega)) (rw_nil _ _) h1 h2
theorem Sub.row {w : World} {S : Nat → Prop} {lf : Bool} {pv kv : Value} {t : T} (h : Sub w S lf pv kv t) : SubR w S kv t.ks := by
  cases h with
  | mk _ _ _ ps ks L P K hlf hP hK hk => exact ⟨L, P, K, hK, hk⟩
theorem SubR.take {w : World} {S : Nat → Prop} {a : Option Addr} {n c m : Nat} {ts : List T} (h : SubR w S (.slice a n c) ts) (hm : m ≤ n) : SubR w S (.slice a m c) (ts.take m) := by
  obtain ⟨L, P, K, h1, h2⟩ := h
  have hn := h1.len.1
  subst hn
  have hl : (ts.take m).length = m := by rw [List.length_take]; omega
  refine ⟨L, P, K, ?_, fun i hi => ?_⟩
  · have := h1.take hm 3
    rw [ncs_take, mkV_take _ _ _ _ _ hm] at this
    rw [hl]; exact this
  · rw [hl] at hi; rw [tAt_take hi]; exact h2 i (by omega)
theorem SubR.drop {w : World} {S : Nat → Prop} {b off n c m : Nat} {ts : List T} (h : SubR w S (.slice (some ⟨b, off, none⟩) n c) ts) (hm : m ≤ n) : SubR w S (.slice (some ⟨b, off + m * 3, none⟩) (n - m) (c - m)) (ts.drop m) := by
  obtain ⟨L, P, K, h1, h2⟩ := h
  have hn := h1.len.1
  subst hn
  refine ⟨fun i => L (m + i), fun i => P (m + i), fun i => K (m + i), ?_, fun i hi => ?_⟩
  · have := h1.drop hm 3 (fun e => by rw [ncs_drop, mkV_drop, e]; rfl)
    rw [ncs_drop, mkV_drop] at this
    rw [List.length_drop]; exact this
  · rw [List.length_drop] at hi; rw [tAt_drop]; exact h2 (m + i) (by omega)
def SubsPost (w : World) (S : Nat → Prop) (ts : List T) (e : Ending) (w' : World) : Prop := ∃ v, e = .returned v ∧ SubR w' (fun y => S y ∨ w.heap.size ≤ y) v ts ∧ Below w.heap.size w w'
theorem subR_two {w : World} {S : Nat → Prop} {g : Nat} {l1 l2 : Bool} {p1 k1 p2 k2 : Value} {t1 t2 : T} (hB : Bk w g 50 [.bool l1, p1, k1, .bool l2, p2, k2]) (hS : S g) (h1 : Sub w S l1 p1 k1 t1) (h2 : Sub w S l2 p2 k2 t2) : SubR w S (.slice (some ⟨g, 0, none⟩) 2 2) [t1, t2] := by
  refine ⟨fun i => if i = 0 then l1 else l2, fun i => if i = 0 then p1 else p2, fun i => if i = 0 then k1 else k2, hB.rw (Nat.le_refl _) (by omega) (fun h => by omega) _ hS, fun i hi => ?_⟩
  simp at hi
  by_cases e : i = 0
  · subst e; exact h1
  · obtain rfl : i = 1 := by omega
    exact h2
theorem subR_one {w : World} {S : Nat → Prop} {g : Nat} {l1 : Bool} {p1 k1 : Value} {t1 : T} (hB : Bk w g 50 [.bool l1, p1, k1]) (hS : S g) (h1 : Sub w S l1 p1 k1 t1) : SubR w S (.slice (some ⟨g, 0, none⟩) 1 1) [t1] := by
  refine ⟨fun _ => l1, fun _ => p1, fun _ => k1, hB.rw (Nat.le_refl _) (by omega) (fun h => by omega) _ hS, fun i hi => ?_⟩
  simp at hi; subst hi; exact h1
theorem Sub.leafOf {w : World} {S : Nat → Prop} {pv : Value} {ps : List PB} (h : Pr w S pv ps) : Sub w S true pv (.slice none 0 0) (.mk ps []) := .mk true pv _ ps [] (fun _ => false) (fun _ => .slice none 0 0) (fun _ => .slice none 0 0) rfl h (rw_nil _ _) (fun i hi => by simp at hi)
set_option maxHeartbeats 2000000 in
theorem specSplit_any (S : Nat → Prop) (lf : Bool) (ap ak : Option Addr) (np cp nk ck : Nat) (t : T) (w : World) (h : Sub w S lf (.slice ap np cp) (.slice ak nk ck) t) :
    Calls Tryz.prog 73 #[.agg #[.bool lf, .slice ap np cp, .slice ak nk ck]] w fun e w' => SubsPost w S (splT t) e w' := by
  obtain ⟨_, _, _, _, _, _, e1, e2, HNP, HNK, b1, b2, hlf, hP⟩ := h.shape
  cases e1
  cases e2
  have hcp := (Rw.len hP).2
  have HR := hid h.row
  have hck : nk ≤ ck ∧ ck ≤ 9223372036854775807 := by
    obtain ⟨L, P, K, h1, _⟩ := h.row
    exact h1.len.2
  have H0 := hid h
  have HP := hid hP
  have HB0 := hid (below_new (o := .cells #[.bool lf, .slice ap np cp, .slice ak nk ck] 50) (w := w) (Below.refl _ _))
  have K0 := hid (Bk.new w 50 [.bool lf, .slice ap np cp, .slice ak nk ck])
  have c0 := K0.out.cell (j := 0) rfl
  have c1 := K0.out.cell (j := 1) rfl
  have c2 := K0.out.cell (j := 2) rfl
  clear h hP
  obtain ⟨hcp1, hcp2⟩ := hcp
  obtain ⟨hck1, hck2⟩ := hck
  by_cases hk : nk = 0
  · have hlf' : lf = true := by rw [hlf, hk]; rfl
    have HKS : Hid (t.ks = []) := List.eq_nil_of_length_eq_zero (by rw [← HNK.out]; exact hk)
    subst hlf' hk
    by_cases h4 : 4 < np
    · have h4' : (4 : Int) < (np : Int) := by omega
      have h4a : (3 : Int) ≤ (np : Int) := by omega
      have h4b : (3 : Int) ≤ (cp : Int) := by omega
      have HT : Hid (splT t = [.mk (t.ps.take 3) [], .mk (t.ps.drop 3) []]) := by show _ = _; rw [splT, if_pos ⟨HKS.out, by rw [← HNP.out]; exact h4⟩]
      obtain ⟨b, off, hab, _, _, _⟩ := (HP.out).at (by omega)
      subst hab
      have hn : np = t.ps.length := HNP.out
      have HQ : Hid (Pr w S (.slice (some ⟨b, off, none⟩) 3 cp) (t.ps.take 3) ∧ Pr w S (.slice (some ⟨b, off + 3 * 2, none⟩) (np - 3) (cp - 3)) (t.ps.drop 3)) := by
        have hp := HP.out
        unfold Pr at hp
        rw [← hn] at hp
        refine ⟨?_, ?_⟩
        · have := hp.take (m := 3) (by omega) 2
          rw [pcs_take] at this
          unfold Pr
          rw [List.length_take, ← hn, Nat.min_eq_left (by omega)]
          exact this
        · have := hp.drop (m := 3) (by omega) 2 (by omega)
          rw [pcs_drop] at this
          unfold Pr
          rw [List.length_drop, ← hn]
          exact this
      have HFIN : Hid (SubsPost w S (splT t) (.returned (.slice (some ⟨w.heap.size + 1, 0, none⟩) 2 2)) ((w.alloc (.cells #[.bool true, .slice (some ⟨b, off, none⟩) np cp, .slice ak 0 ck] 50)).alloc (.cells #[.bool true, .slice (some ⟨b, off, none⟩) 3 cp, .slice none 0 0, .bool true, .slice (some ⟨b, off + 6, none⟩) (np - 3) (cp - 3), .slice none 0 0] 50)).drew) := by
        have hb : Below w.heap.size w ((w.alloc (.cells #[.bool true, .slice (some ⟨b, off, none⟩) np cp, .slice ak 0 ck] 50)).alloc (.cells #[.bool true, .slice (some ⟨b, off, none⟩) 3 cp, .slice none 0 0, .bool true, .slice (some ⟨b, off + 6, none⟩) (np - 3) (cp - 3), .slice none 0 0] 50)).drew := Below.then' (below_new (below_new (Below.refl _ _))) (below_drew _) (Nat.le_refl _)
        refine ⟨_, rfl, ?_, hb⟩
        rw [HT.out]
        have kb := (Bk.new (w.alloc (.cells #[.bool true, .slice (some ⟨b, off, none⟩) np cp, .slice ak 0 ck] 50)) 50 [.bool true, .slice (some ⟨b, off, none⟩) 3 cp, .slice none 0 0, .bool true, .slice (some ⟨b, off + 6, none⟩) (np - 3) (cp - 3), .slice none 0 0]).below (below_drew _)
        refine subR_two (by simpa using kb) (.inr (by omega)) (Sub.leafOf ((HQ.out.1.below hb).mono (fun y hy _ => .inl hy))) (Sub.leafOf ((HQ.out.2.below hb).mono (fun y hy _ => .inl hy)))
      clear hn HP HR H0 hlf
      go_enter Tryz.func73, Tryz.ntmps73
      go_wp2_with fail
      go_region
      all_goals (go_wp2_with fail)
      all_goals go_ret
      all_goals exact HFIN.out
    · have h4' : ¬ (4 : Int) < (np : Int) := by omega
      have HT : Hid (splT t = [t]) := by show _ = _; rw [splT, if_neg (fun e => by have := e.2; rw [← HNP.out] at this; omega), if_neg (by rw [HKS.out]; simp)]
      have HFIN : Hid (SubsPost w S (splT t) (.returned (.slice (some ⟨w.heap.size + 1, 0, none⟩) 1 1)) ((w.alloc (.cells #[.bool true, .slice ap np cp, .slice ak 0 ck] 50)).alloc (.cells #[.bool true, .slice ap np cp, .slice ak 0 ck] 50))) := by
        have hb : Below w.heap.size w ((w.alloc (.cells #[.bool true, .slice ap np cp, .slice ak 0 ck] 50)).alloc (.cells #[.bool true, .slice ap np cp, .slice ak 0 ck] 50)) := below_new (below_new (Below.refl _ _))
        refine ⟨_, rfl, ?_, hb⟩
        rw [HT.out]
        have kb := (Bk.new (w.alloc (.cells #[.bool true, .slice ap np cp, .slice ak 0 ck] 50)) 50 [.bool true, .slice ap np cp, .slice ak 0 ck])
        exact subR_one (by simpa using kb) (.inr (by omega)) ((H0.out.kept hb).mono (fun y hy _ => .inl hy))
      clear HP HR H0 hlf
      go_enter Tryz.func73, Tryz.ntmps73
      go_wp2
      go_ret
      exact HFIN.out
  · have hlf' : lf = false := by rw [hlf]; exact decide_eq_false hk
    subst hlf'
    have HKS : Hid (t.ks ≠ []) := fun e => hk (by rw [HNK.out, e]; rfl)
    by_cases h4 : 4 < nk
    · have h4' : (4 : Int) < (nk : Int) := by omega
      have h4a : (3 : Int) ≤ (nk : Int) := by omega
      have h4b : (3 : Int) ≤ (ck : Int) := by omega
      have HT : Hid (splT t = [.mk [] (t.ks.take 3), .mk [] (t.ks.drop 3)]) := by show _ = _; rw [splT, if_neg (fun e => HKS.out e.1), if_pos (by rw [← HNK.out]; exact h4)]
      obtain ⟨b, off, hab⟩ : ∃ b off, ak = some ⟨b, off, none⟩ := by
        obtain ⟨L, P, K, h1, _⟩ := HR.out
        obtain ⟨b, off, e, _⟩ := h1.at (by omega)
        exact ⟨b, off, e⟩
      subst hab
      have HQ : Hid (SubR w S (.slice (some ⟨b, off, none⟩) 3 ck) (t.ks.take 3) ∧ SubR w S (.slice (some ⟨b, off + 3 * 3, none⟩) (nk - 3) (ck - 3)) (t.ks.drop 3)) := ⟨HR.out.take (by omega), HR.out.drop (by omega)⟩
      have HFIN : Hid (SubsPost w S (splT t) (.returned (.slice (some ⟨w.heap.size + 1, 0, none⟩) 2 2)) ((w.alloc (.cells #[.bool false, .slice ap np cp, .slice (some ⟨b, off, none⟩) nk ck] 50)).alloc (.cells #[.bool false, .slice none 0 0, .slice (some ⟨b, off, none⟩) 3 ck, .bool false, .slice none 0 0, .slice (some ⟨b, off + 9, none⟩) (nk - 3) (ck - 3)] 50)).drew) := by
        have hb : Below w.heap.size w ((w.alloc (.cells #[.bool false, .slice ap np cp, .slice (some ⟨b, off, none⟩) nk ck] 50)).alloc (.cells #[.bool false, .slice none 0 0, .slice (some ⟨b, off, none⟩) 3 ck, .bool false, .slice none 0 0, .slice (some ⟨b, off + 9, none⟩) (nk - 3) (ck - 3)] 50)).drew := Below.then' (below_new (below_new (Below.refl _ _))) (below_drew _) (Nat.le_refl _)
        refine ⟨_, rfl, ?_, hb⟩
        rw [HT.out]
        have kb := (Bk.new (w.alloc (.cells #[.bool false, .slice ap np cp, .slice (some ⟨b, off, none⟩) nk ck] 50)) 50 [.bool false, .slice none 0 0, .slice (some ⟨b, off, none⟩) 3 ck, .bool false, .slice none 0 0, .slice (some ⟨b, off + 9, none⟩) (nk - 3) (ck - 3)]).below (below_drew _)
        have hl : t.ks.length = nk := HNK.out.symm
        refine subR_two (by simpa using kb) (.inr (by omega)) (((HQ.out.1.kept hb).mono (fun y hy _ => .inl hy)).sub ?_) (((HQ.out.2.kept hb).mono (fun y hy _ => .inl hy)).sub ?_)
        · intro e; have := congrArg List.length e; rw [List.length_take, List.length_nil] at this; omega
        · intro e; have := congrArg List.length e; rw [List.length_drop, List.length_nil] at this; omega
      clear HR H0 hlf
      go_enter Tryz.func73, Tryz.ntmps73
      go_wp2_with fail
      go_region
      all_goals (go_wp2_with fail)
      all_goals go_ret
      all_goals exact HFIN.out
    · have h4' : ¬ (4 : Int) < (nk : Int) := by omega
      have HT : Hid (splT t = [t]) := by show _ = _; rw [splT, if_neg (fun e => HKS.out e.1), if_neg (by rw [← HNK.out]; omega)]
      have HFIN : Hid (SubsPost w S (splT t) (.returned (.slice (some ⟨w.heap.size + 1, 0, none⟩) 1 1)) ((w.alloc (.cells #[.bool false, .slice ap np cp, .slice ak nk ck] 50)).alloc (.cells #[.bool false, .slice ap np cp, .slice ak nk ck] 50))) := by
        have hb : Below w.heap.size w ((w.alloc (.cells #[.bool false, .slice ap np cp, .slice ak nk ck] 50)).alloc (.cells #[.bool false, .slice ap np cp, .slice ak nk ck] 50)) := below_new (below_new (Below.refl _ _))
        refine ⟨_, rfl, ?_, hb⟩
        rw [HT.out]
        have kb := (Bk.new (w.alloc (.cells #[.bool false, .slice ap np cp, .slice ak nk ck] 50)) 50 [.bool false, .slice ap np cp, .slice ak nk ck])
        exact subR_one (by simpa using kb) (.inr (by omega)) ((H0.out.kept hb).mono (fun y hy _ => .inl hy))
      clear HR H0 hlf
      go_enter Tryz.func73, Tryz.ntmps73
      go_wp2
      go_ret
      exact HFIN.out
set_option maxHeartbeats 2000000 in
theorem specWay_any (S : Nat → Prop) (lf : Bool) (ap ak : Option Addr) (np cp nk ck : Nat) (t : T) (k : ByteArray) (w : World) (h : Sub w S lf (.slice ap np cp) (.slice ak nk ck) t) (hs : t.ks.length ≤ 1048576) :
    Calls Tryz.prog 70 #[.agg #[.bool lf, .slice ap np cp, .slice ak nk ck], .string k] w fun e w' => e = .returned (.int .i64 (wayOf t.ks k : Nat)) ∧ Below w.heap.size w w' := by
  obtain ⟨_, _, _, _, _, _, e1, e2, HNP, HNK, b1, b2, -, -⟩ := h.shape
  cases e1
  cases e2
  have hnk : nk ≤ 1048576 := by rw [HNK.out]; exact hs
  have HB0 := hid (below_new (o := .cells #[.bool lf, .slice ap np cp, .slice ak nk ck] 50) (w := w) (Below.refl _ _))
  have K0 := hid (Bk.new w 50 [.bool lf, .slice ap np cp, .slice ak nk ck])
  have H0 := hid h
  clear h hs b1 b2
  go_enter Tryz.func70, Tryz.ntmps70
  go_wp2_with fail
  go_loopw [5, 6] (fun x y wr => ∃ i a f : Nat, x = .int .i64 (a : Int) ∧ y = .int .i64 (i : Int) ∧ 1 ≤ i ∧ i ≤ nk + 1 ∧ Hid (wayF t.ks k f i a = wayOf t.ks k) ∧ Hid (t.ks.length ≤ i + f) ∧ Hid (Bk wr w.heap.size 50 [.bool lf, .slice ap np cp, .slice ak nk ck]) ∧ Hid (Below w.heap.size w wr)) (fun _ y _ => nk + 1 - (intOf y).toNat)
  case atStart => exact ⟨1, 0, t.ks.length, rfl, rfl, Nat.le_refl _, by omega, rfl, Nat.le_add_left _ _, K0.out, HB0.out⟩
  case round =>
    obtain ⟨i, a, f, rfl, rfl, hi1, hi2, HW, HF, HK, HB⟩ := hrel
    have c2 := HK.out.cell (j := 2) rfl
    by_cases hlt : i < nk
    · have hlt' : (i : Int) < (nk : Int) := by omega
      have hi0 : (0 : Int) ≤ (i : Int) := by omega
      obtain ⟨g, off, hak, _, _, hkid⟩ := (H0.out.kept HB.out).kids (by omega)
      subst hak
      obtain ⟨l1, ap1, np1, cp1, ak1, nk1, ck1, x0, x1, x2, hs1⟩ := hkid i hlt
      have HS1 := hid hs1
      clear hkid hs1
      go_wp2_with fail
      refine (specLeast_any _ _ l1 ap1 ak1 np1 cp1 nk1 ck1 wr HS1.out).mono ?_
      rintro e w1 ⟨rfl, hb⟩
      have HB1 := hid (Below.then' HB.out hb (Nat.le_refl _))
      have HK1 := hid (HK.out.below hb)
      obtain ⟨f, rfl⟩ : ∃ g, f = g + 1 := ⟨f - 1, by have := HF.out; have := HNK.out; omega⟩
      have HW2 : Hid (wayF t.ks k f (i + 1) (if klt k (tAt t.ks i).least = false then i else a) = wayOf t.ks k) := by
        have := HW.out
        rw [wayF, if_pos (by rw [← HNK.out]; exact hlt)] at this
        exact this
      have HF2 : Hid (t.ks.length ≤ i + 1 + f) := by have := HF.out; show _ ≤ _; omega
      clear hb HW HF x0 x1 x2 HB HK c2 HS1
      generalize (tAt t.ks i).least = z at *
      rcases tri z k with ⟨h1, h2, h3, h4⟩ | rfl | ⟨h1, h2, h3, h4⟩
      · have hz : klt k z = false := h2
        rw [if_pos hz] at HW2
        clear hz
        go_wp2
        go_roundw
        case rel => exact ⟨i + 1, i, f, rfl, by go_num, by omega, by omega, HW2.out, HF2.out, HK1.out, HB1.out⟩
        case measure => simp [intOf]; omega
      · have hz : klt z z = false := klt_irrefl z
        rw [if_pos hz] at HW2
        clear hz
        go_wp2
        go_roundw
        case rel => exact ⟨i + 1, i, f, rfl, by go_num, by omega, by omega, HW2.out, HF2.out, HK1.out, HB1.out⟩
        case measure => simp [intOf]; omega
      · have hz : klt k z = true := h2
        rw [if_neg (by rw [hz]; simp)] at HW2
        clear hz
        go_wp2
        go_roundw
        case rel => exact ⟨i + 1, a, f, rfl, by go_num, by omega, by omega, HW2.out, HF2.out, HK1.out, HB1.out⟩
        case measure => simp [intOf]; omega
    · have hlt' : ¬ (i : Int) < (nk : Int) := by omega
      have HA : Hid (wayOf t.ks k = a) := by
        show _ = _
        rw [← HW.out]
        cases f with
        | zero => rfl
        | succ f => rw [wayF, if_neg (by rw [← HNK.out]; exact hlt)]
      clear HW HF
      go_wp2
      go_ret
      exact ⟨by rw [HA.out]; rfl, HB.out⟩
end Go.Proofs.YtkfeefaokghibabGreat
/-
  l03Put of the specification.
-/
namespace Go.Proofs.YtkfeefaokghibabGreat
open Go.RowKit
/-- What is kept while a leaf's pairs are gone through: the pair, and the list that is made. -/
structure LeafI (w wr : World) (k v : ByteArray) (o : Value) (l : List PB) : Prop where
  p : Bk wr (w.heap.size + 1) 64 [.string k, .string v]
  o : Ow wr (w.heap.size + 2) o l
  b : Below w.heap.size w wr
  s : w.heap.size + 2 ≤ wr.heap.size
theorem LeafI.keep {w wr w1 : World} {k v : ByteArray} {o : Value} {l : List PB} (h : LeafI w wr k v o l) (hb : Below wr.heap.size wr w1) : LeafI w w1 k v o l := ⟨h.p.below hb, h.o.kept hb, Below.then' h.b hb (Nat.le_refl _), Nat.le_trans h.s hb.size⟩
theorem LeafI.push {w u w2 : World} {k v : ByteArray} {o o' : Value} {l l' : List PB} (h : LeafI w u k v o l) (hO : Ow w2 (w.heap.size + 2) o' l') (hg : u.grownBy w2 o.ownBlock) : LeafI w w2 k v o' l' := by
  have hlt := fun x e => (World.ownsRow.lt h.o x e).1
  have hon : Only (fun y => o.ownBlock = some y) u w2 := only_of_grown hg (fun _ e => e)
  exact ⟨h.p.to hon (fun e => by have := hlt _ e; omega), hO, h.b.trans (hon.below h.b.size (fun b hb e => by have := hlt _ e; omega)), Nat.le_trans h.s hg.size⟩
theorem insS_cons (x : PB) (l : List PB) (p : PB) (d : Bool) : insS (x :: l) p d = (if d = false ∧ klt x.1 p.1 = false then [p] else []) ++ ((if x.1 = p.1 then [] else [x]) ++ insS l p (d || !klt x.1 p.1)) := rfl
theorem drop_pAtB {ps : List PB} {i : Nat} (h : i < ps.length) : ps.drop i = pAtB ps i :: ps.drop (i + 1) := by rw [pAtB_lt h, List.getElem_cons_drop h]
theorem insS_len (l : List PB) (p : PB) : ∀ d, (insS l p d).length ≤ l.length + 1 + l.length := by
  induction l with
  | nil => intro d; simp only [insS]; split <;> simp
  | cons x l ih =>
    intro d
    rw [insS_cons]
    have := ih (d || !klt x.1 p.1)
    simp only [List.length_append, List.length_cons]
    split <;> split <;> simp <;> omega
/-- An owned row of subs, its subs lying in other blocks. -/
def SO (w : World) (base : Nat) (S : Nat → Prop) (v : Value) (ts : List T) : Prop := ∃ L P K, w.ownsRow base 50 3 v ts.length (ncs (mkV L P K ts.length)) ∧ (∀ i, i < ts.length → Sub w S (L i) (P i) (K i) (tAt ts i)) ∧ ∀ y, S y → v.ownBlock ≠ some y
theorem SO.to {w w' : World} {base : Nat} {S R : Nat → Prop} {v : Value} {ts : List T} (h : SO w base S v ts) (ho : Only R w w') (hv : ∀ y, v.ownBlock = some y → ¬ R y) (hR : ∀ y, S y → y < w.heap.size → ¬ R y) : SO w' base S v ts := by
  obtain ⟨L, P, K, h1, h2, h3⟩ := h
  exact ⟨L, P, K, own_kept h1 ho hv, fun i hi => (h2 i hi).to ho hR, h3⟩
theorem SO.kept {w w' : World} {base : Nat} {S : Nat → Prop} {v : Value} {ts : List T} (h : SO w base S v ts) (hb : Below w.heap.size w w') : SO w' base S v ts := h.to (only_of_below hb (fun _ => False)) (fun _ _ h => h) (fun _ _ _ h => h)
theorem SO.shape {w : World} {base : Nat} {S : Nat → Prop} {v : Value} {ts : List T} (h : SO w base S v ts) : ∃ a n c, v = .slice a n c ∧ Hid (n = ts.length) := by
  obtain ⟨L, P, K, h1, _⟩ := h
  obtain ⟨a, c, e⟩ := own_shape h1
  exact ⟨a, _, c, e, rfl⟩
theorem SO.subR {w : World} {base : Nat} {S R : Nat → Prop} {v : Value} {ts : List T} (h : SO w base S v ts) (hv : ∀ y, v.ownBlock = some y → base ≤ y → y < w.heap.size → R y) (hS : ∀ y, S y → y < w.heap.size → R y) : SubR w R v ts := by
  obtain ⟨L, P, K, h1, h2, h3⟩ := h
  exact ⟨L, P, K, rw_own h1 hv, fun i hi => (h2 i hi).mono hS⟩
theorem so_new (w : World) (base : Nat) (hb : base ≤ w.heap.size) : SO (w.alloc (.cells #[] 50)) base (fun _ => False) (.slice (some ⟨w.heap.size, 0, none⟩) 0 0) [] :=
  ⟨fun _ => false, fun _ => .slice none 0 0, fun _ => .slice none 0 0, ⟨rfl, .inr ⟨w.heap.size, 0, #[], rfl, hb, heap_alloc_new w _, Nat.le_refl _, by decide, rfl, rfl⟩⟩, fun i hi => by simp at hi, fun _ h => h.elim⟩
theorem mkV_one {w : World} {S : Nat → Prop} {L : Nat → Bool} {P K : Nat → Value} {ts : List T} (h : ∀ i, i < ts.length → Sub w S (L i) (P i) (K i) (tAt ts i)) : ∀ u ∈ ncs (mkV L P K ts.length), u.oneCell' = true := by
  intro u hu
  obtain ⟨j, hj⟩ := List.mem_iff_getElem?.1 hu
  have hl : (ncs (mkV L P K ts.length)).length = ts.length * 3 := by rw [ncs_length, mkV_length]
  have hjl := (List.getElem?_eq_some_iff.1 hj).1
  have hi : j / 3 < ts.length := by omega
  obtain ⟨c0, c1, c2⟩ := ncs_at (mkV L P K ts.length) (j / 3) (by rw [mkV_length]; exact hi)
  rw [mkV_at _ _ _ _ _ hi] at c0 c1 c2
  obtain ⟨ap, np, cp, ak, nk, ck, e1, e2, _⟩ := (h _ hi).shape
  simp only at c0 c1 c2
  rw [e1] at c1
  rw [e2] at c2
  rcases (show j = j / 3 * 3 ∨ j = j / 3 * 3 + 1 ∨ j = j / 3 * 3 + 2 by omega) with e | e | e
  · rw [e, c0] at hj; cases hj; rfl
  · rw [e, c1] at hj; cases hj; rfl
  · rw [e, c2] at hj; cases hj; rfl
/-- append(row, others...) -/
theorem run_append_subs {w : World} {ty : TypeId} (base : Nat) (S S2 : Nat → Prop) (v src : Value) (ts us : List T) (hown : SO w base S v ts) (hsrc : SubR w S2 src us) (hap : ∀ y, S2 y → v.ownBlock ≠ some y) (hb : ts.length + us.length ≤ 1048576) (hbase : base ≤ w.heap.size) :
    ∃ v' w', (Builtin.append_ #[48, 48] ty #[v, src]).run Tryz.prog w = .ok v' w' ∧ SO w' base (fun y => (S y ∨ S2 y) ∧ y < w.heap.size) v' (ts ++ us) ∧ w.grownBy w' v.ownBlock ∧ (v'.ownBlock = v.ownBlock ∨ v'.ownBlock = some w.heap.size) := by
  obtain ⟨i, hi, hz, hsz, hby⟩ := info_of infoSub
  obtain ⟨L, P, K, h1, h2, h3⟩ := hown
  obtain ⟨L2, P2, K2, k1, k2⟩ := hsrc
  obtain ⟨v', w', hr, ho, hg, ha⟩ := run_append_row_at (P := Tryz.prog) (w := w) base 48 ty 50 i _ 3 56 Tryz.underlying48 hi hz hsz hby rfl (by decide) v ts.length _ h1 S2 src us.length _ k1 (by rw [ncs_length, mkV_length]) (mkV_one k2) (by unfold maxLen; omega) (by omega) hbase
  have hon : Only (fun y => v.ownBlock = some y) w w' := only_of_grown hg (fun _ e => e)
  rw [← ncs_append, mkV_app] at ho
  refine ⟨v', w', hr, ⟨_, _, _, by rw [List.length_append]; exact ho, fun j hj => ?_, fun y hy => ?_⟩, hg, ha⟩
  · rw [List.length_append] at hj
    by_cases e : j < ts.length
    · simp only [e, if_true]
      rw [tAt_app1 e]
      exact ((h2 j e).mono (R := fun y => (S y ∨ S2 y) ∧ y < w.heap.size) (fun y hy hl => ⟨.inl hy, hl⟩)).to hon (fun y hy _ => hy.1.elim (h3 y) (hap y))
    · simp only [e, if_false]
      rw [tAt_app2 (by omega)]
      exact ((k2 (j - ts.length) (by omega)).mono (R := fun y => (S y ∨ S2 y) ∧ y < w.heap.size) (fun y hy hl => ⟨.inr hy, hl⟩)).to hon (fun y hy _ => hy.1.elim (h3 y) (hap y))
  · rcases ha with e | e
    · rw [e]; exact hy.1.elim (h3 y) (hap y)
    · rw [e]; intro h; cases h; exact absurd hy.2 (Nat.lt_irrefl _)
theorem wpList_append_subs {w : World} {ops : Array Oper} {rest : List Oper} {o : Oper} {a : Act} {Q : Exit → Act → World → Prop} (hgd : o.guard = none) (s x : Operand)
    (ho : o.op = .call { callee := .builtin .append, args := #[s, x], argTypes := #[48, 48] }) (base : Nat) (S S2 : Nat → Prop) (v src : Value) (ts us : List T) (hs : a.eval s = v) (hown : SO w base S v ts) (hx : a.eval x = src) (hsrc : SubR w S2 src us) (hap : ∀ y, S2 y → v.ownBlock ≠ some y) (hb : ts.length + us.length ≤ 1048576) (hbase : base ≤ w.heap.size)
    (h : ∀ v' w', SO w' base (fun y => (S y ∨ S2 y) ∧ y < w.heap.size) v' (ts ++ us) → w.grownBy w' v.ownBlock → (v'.ownBlock = v.ownBlock ∨ v'.ownBlock = some w.heap.size) → wpList Tryz.prog ops Q rest (a.put o.dst v') w') : wpList Tryz.prog ops Q (o :: rest) a w := by
  refine wpList_plain hgd fun K hK => ?_
  obtain ⟨v', w', hr, h2, h3, h4⟩ := run_append_subs (w := w) (ty := o.type) base S S2 v src ts us hown hsrc hap hb hbase
  unfold Oper.wp execOp
  simp only [ho, resolve, invoke, builtin, Sem.run_bind, Sem.run_pure, Result.andThen_ok, List.map_toArray, List.map_cons, List.map_nil, hs, hx, hr]
  exact hK _ _ (h v' w' h2 h3 h4)
theorem step_append_subs {w : World} {ops : Array Oper} {o : Oper} {a : Act} {K : Act → World → Prop} {Q : Exit → Act → World → Prop} {E : Prop} (hgd : o.guard = none) (s x : Operand)
    (ho : o.op = .call { callee := .builtin .append, args := #[s, x], argTypes := #[48, 48] }) (base : Nat) (S S2 : Nat → Prop) (v src : Value) (ts us : List T) (hs : a.eval s = v) (hown : SO w base S v ts) (hx : a.eval x = src) (hsrc : SubR w S2 src us) (hap : ∀ y, S2 y → v.ownBlock ≠ some y) (hb : ts.length + us.length ≤ 1048576) (hbase : base ≤ w.heap.size)
    (h : ∀ v' w', SO w' base (fun y => (S y ∨ S2 y) ∧ y < w.heap.size) v' (ts ++ us) → w.grownBy w' v.ownBlock → (v'.ownBlock = v.ownBlock ∨ v'.ownBlock = some w.heap.size) → K (a.put o.dst v') w') :
    if Region.wanted o (yielded ops a.tmps) = true then Oper.wp Tryz.prog o a w K Q else E := by
  have hw : Region.wanted o (yielded ops a.tmps) = true := by simp [Region.wanted, hgd]
  rw [if_pos hw]
  obtain ⟨v', w', hr, h2, h3, h4⟩ := run_append_subs (w := w) (ty := o.type) base S S2 v src ts us hown hsrc hap hb hbase
  unfold Oper.wp execOp
  simp only [ho, resolve, invoke, builtin, Sem.run_bind, Sem.run_pure, Result.andThen_ok, List.map_toArray, List.map_cons, List.map_nil, hs, hx, hr]
  exact h v' w' h2 h3 h4
def LeafPut (w : World) (S : Nat → Prop) (t : T) (k v : ByteArray) (lf : Bool) (ap ak : Option Addr) (np cp nk ck : Nat) : Prop := Calls Tryz.prog 47 #[.agg #[.bool lf, .slice ap np cp, .slice ak nk ck], .agg #[.string k, .string v]] w fun e w' => SubsPost w S (splT (.mk (insS t.ps (k, v) false) [])) e w'
set_option maxHeartbeats 2000000 in
set_option maxRecDepth 20000 in
theorem specPut_leaf (S : Nat → Prop) (ap ak : Option Addr) (np cp ck : Nat) (t : T) (k v : ByteArray) (w : World) (h : Sub w S true (.slice ap np cp) (.slice ak 0 ck) t) (hs : t.ps.length ≤ 4) :
    LeafPut w S t k v true ap ak np cp 0 ck := by
  unfold LeafPut
  obtain ⟨_, _, _, _, _, _, e1, e2, HNP, HNK, b1, b2, -, hP⟩ := h.shape
  cases e1
  cases e2
  have hnp : np ≤ 4 := by rw [HNP.out]; exact hs
  have HP := hid hP
  have HB0 : Hid (Below w.heap.size w ((w.alloc (.cells #[.bool true, .slice ap np cp, .slice ak 0 ck] 50)).alloc (.cells #[.string k, .string v] 64))) := below_new (below_new (Below.refl _ _))
  have KS : Hid (Bk ((w.alloc (.cells #[.bool true, .slice ap np cp, .slice ak 0 ck] 50)).alloc (.cells #[.string k, .string v] 64)) w.heap.size 50 [.bool true, .slice ap np cp, .slice ak 0 ck]) := (Bk.new w 50 [.bool true, .slice ap np cp, .slice ak 0 ck]).alloc _
  have KP : Hid (Bk ((w.alloc (.cells #[.bool true, .slice ap np cp, .slice ak 0 ck] 50)).alloc (.cells #[.string k, .string v] 64)) (w.heap.size + 1) 64 [.string k, .string v]) := by
    have := Bk.new (w.alloc (.cells #[.bool true, .slice ap np cp, .slice ak 0 ck] 50)) 64 [.string k, .string v]
    show Bk _ _ _ _
    simpa using this
  have HSZ : Hid (((w.alloc (.cells #[.bool true, .slice ap np cp, .slice ak 0 ck] 50)).alloc (.cells #[.string k, .string v] 64)).heap.size = w.heap.size + 2) := by show _ = _; simp
  have c0 := KS.out.cell (j := 0) rfl
  have c1 := (KS.out.alloc (.cells #[] 64)).cell (j := 1) rfl
  have HI0 : Hid (LeafI w (((w.alloc (.cells #[.bool true, .slice ap np cp, .slice ak 0 ck] 50)).alloc (.cells #[.string k, .string v] 64)).alloc (.cells #[] 64)) k v (.slice (some ⟨w.heap.size + 2, 0, none⟩) 0 0) []) := by
    refine ⟨KP.out.alloc _, ?_, Below.then' HB0.out (below_new (Below.refl _ _)) (Nat.le_refl _), by simp⟩
    have := ow_new ((w.alloc (.cells #[.bool true, .slice ap np cp, .slice ak 0 ck] 50)).alloc (.cells #[.string k, .string v] 64)) (w.heap.size + 2) (by simp)
    simpa using this
  clear h hs b1 b2 hP
  go_enter Tryz.func47, Tryz.ntmps47
  go_wp2_with fail
  go_loopw [5, 6, 17] (fun x y z wr => ∃ (i : Nat) (a : Option Addr) (n c : Nat) (d : Bool) (l : List PB), i ≤ np ∧ x = .slice a n c ∧ y = .bool d ∧ z = .int .i64 (i : Int) ∧ Hid (LeafI w wr k v (.slice a n c) l) ∧ Hid (l ++ insS (t.ps.drop i) (k, v) d = insS t.ps (k, v) false) ∧ Hid (l.length ≤ i * 2)) (fun _ _ z _ => np - (intOf z).toNat)
  case atStart => exact ⟨0, _, _, _, false, [], Nat.zero_le _, rfl, rfl, rfl, by have := HI0.out; show LeafI _ _ _ _ _ _; simpa using this, rfl, Nat.zero_le _⟩
  case round =>
    obtain ⟨i, a, n, c, d, l, hi, rfl, rfl, rfl, HI, HE, HLL⟩ := hrel
    by_cases hlt : i < np
    · have hlt' : (i : Int) < (np : Int) := by omega
      have hi0 : (0 : Int) ≤ (i : Int) := by omega
      obtain ⟨g, off, hap, _, _, hc⟩ := (HP.out.below HI.out.b).at (by omega)
      subst hap
      obtain ⟨x0, x1⟩ := hc i hlt
      have HD : Hid (t.ps.drop i = pAtB t.ps i :: t.ps.drop (i + 1)) := drop_pAtB (by rw [← HNP.out]; exact hlt)
      rw [HD.out, insS_cons] at HE
      clear hc
      generalize pAtB t.ps i = xx at *
      obtain ⟨y0, y1⟩ := xx
      simp only at x0 x1 HE
      have HIX := hid (HI.out.keep (below_new (o := .cells #[.string y0, .string y1] 64) (w := wr) (Below.refl _ _)))
      have KX := hid (Bk.new wr 64 [.string y0, .string y1])
      have HNX : Hid ((Value.slice a n c).ownBlock ≠ some wr.heap.size) := fun e => by have := (World.ownsRow.lt HI.out.o _ e).2; omega
      have q0 := HIX.out.p.cell (j := 0) rfl
      have q1 := HIX.out.p.cell (j := 1) rfl
      have k0 := KX.out.cell (j := 0) rfl
      have k1 := KX.out.cell (j := 1) rfl
      cases d with
      | false =>
        rcases tri y0 k with ⟨h1, h2, h3, h4⟩ | rfl | ⟨h1, h2, h3, h4⟩
        · -- less
          have HEQ : Hid ((l ++ [(y0, y1)]) ++ insS (t.ps.drop (i + 1)) (k, v) false = insS t.ps (k, v) false) := by
            have hk : klt y0 k = true := h1
            have := HE.out
            show _ = _
            simpa [hk, klt_ne hk] using this
          clear HE
          have HIXa := hid (HIX.out.keep (below_new (o := .cells #[.string y0, .string y1] 64) (w := (wr.alloc (.cells #[.string y0, .string y1] 64))) (Below.refl _ _)))
          have HPa2 : Hid (Pr ((wr.alloc (.cells #[.string y0, .string y1] 64)).alloc (.cells #[.string y0, .string y1] 64)) (fun _ => True) (.slice (some ⟨wr.heap.size + 1, 0, none⟩) 1 1) [(y0, y1)]) := by
            have := (Bk.new (wr.alloc (.cells #[.string y0, .string y1] 64)) 64 [.string y0, .string y1]).pr (n := 1) (ps := [(y0, y1)]) rfl (by omega) (fun _ => True) trivial
            have hz : (wr.alloc (.cells #[.string y0, .string y1] 64)).heap.size = wr.heap.size + 1 := by first | rfl | simp
            rw [hz] at this
            exact this
          go_wp2_with (at_builtin; refine wpList_append_pairs rfl _ _ rfl (w.heap.size + 2) _ _ rfl HIXa.out.o (fun _ => True) _ [(y0, y1)] rfl HPa2.out ?q1 ?q2 ?_)
          case q1 => have := HLL.out; simp; omega
          case q2 => have h9 := HI.out.s; have h8 := HIX.out.s; first | omega | (simp; omega)
          intro v2 w2 hO2 hg2
          obtain ⟨a2, n2, c2, e2, -⟩ := hO2.shape'
          subst e2
          have HI2 := hid (HIXa.out.push hO2 hg2)
          clear hO2 hg2
          go_wp2
          go_roundw
          case rel => exact ⟨i + 1, a2, n2, c2, false, _, by omega, rfl, rfl, by go_num, HI2.out, HEQ.out, by have := HLL.out; show _ ≤ _; simp; omega⟩
          case measure => simp [intOf]; omega
        · -- equal
          have HEQ : Hid ((l ++ [(y0, v)]) ++ insS (t.ps.drop (i + 1)) (y0, v) true = insS t.ps (y0, v) false) := by
            have := HE.out
            show _ = _
            simpa [klt_irrefl y0] using this
          clear HE
          have HIXa := hid (HIX.out.keep (below_new (o := .cells #[.string y0, .string v] 64) (w := (wr.alloc (.cells #[.string y0, .string y1] 64))) (Below.refl _ _)))
          have HPa2 : Hid (Pr ((wr.alloc (.cells #[.string y0, .string y1] 64)).alloc (.cells #[.string y0, .string v] 64)) (fun _ => True) (.slice (some ⟨wr.heap.size + 1, 0, none⟩) 1 1) [(y0, v)]) := by
            have := (Bk.new (wr.alloc (.cells #[.string y0, .string y1] 64)) 64 [.string y0, .string v]).pr (n := 1) (ps := [(y0, v)]) rfl (by omega) (fun _ => True) trivial
            have hz : (wr.alloc (.cells #[.string y0, .string y1] 64)).heap.size = wr.heap.size + 1 := by first | rfl | simp
            rw [hz] at this
            exact this
          go_wp2_with (at_builtin; refine wpList_append_pairs rfl _ _ rfl (w.heap.size + 2) _ _ rfl HIXa.out.o (fun _ => True) _ [(y0, v)] rfl HPa2.out ?q1 ?q2 ?_)
          case q1 => have := HLL.out; simp; omega
          case q2 => have h9 := HI.out.s; have h8 := HIX.out.s; first | omega | (simp; omega)
          intro v2 w2 hO2 hg2
          obtain ⟨a2, n2, c2, e2, -⟩ := hO2.shape'
          subst e2
          have HI2 := hid (HIXa.out.push hO2 hg2)
          have z0 := (bk_grown (KX.out.alloc (.cells #[.string y0, .string v] 64)) hg2 HNX.out).cell (j := 0) rfl
          have z1 := HI2.out.p.cell (j := 0) rfl
          clear hO2 hg2
          go_wp2
          go_roundw
          case rel => exact ⟨i + 1, a2, n2, c2, true, _, by omega, rfl, rfl, by go_num, HI2.out, HEQ.out, by have := HLL.out; show _ ≤ _; simp; omega⟩
          case measure => simp [intOf]; omega
        · -- greater
          have HEQ : Hid (l ++ [(k, v), (y0, y1)] ++ insS (t.ps.drop (i + 1)) (k, v) true = insS t.ps (k, v) false) := by
            have hk : klt y0 k = false := h1
            have hne : y0 ≠ k := fun e => by rw [e] at h2; exact absurd h2 (by rw [less_irrefl]; simp)
            have := HE.out
            show _ = _
            simpa [hk, hne] using this
          clear HE
          have HIXa := hid (HIX.out.keep (below_new (o := .cells #[.string k, .string v] 64) (w := (wr.alloc (.cells #[.string y0, .string y1] 64))) (Below.refl _ _)))
          have HPa2 : Hid (Pr ((wr.alloc (.cells #[.string y0, .string y1] 64)).alloc (.cells #[.string k, .string v] 64)) (fun _ => True) (.slice (some ⟨wr.heap.size + 1, 0, none⟩) 1 1) [(k, v)]) := by
            have := (Bk.new (wr.alloc (.cells #[.string y0, .string y1] 64)) 64 [.string k, .string v]).pr (n := 1) (ps := [(k, v)]) rfl (by omega) (fun _ => True) trivial
            have hz : (wr.alloc (.cells #[.string y0, .string y1] 64)).heap.size = wr.heap.size + 1 := by first | rfl | simp
            rw [hz] at this
            exact this
          go_wp2_with (at_builtin; refine wpList_append_pairs rfl _ _ rfl (w.heap.size + 2) _ _ rfl HIXa.out.o (fun _ => True) _ [(k, v)] rfl HPa2.out ?q1 ?q2 ?_)
          case q1 => have := HLL.out; simp; omega
          case q2 => have h9 := HI.out.s; have h8 := HIX.out.s; first | omega | (simp; omega)
          intro v2 w2 hO2 hg2
          obtain ⟨a2, n2, c2, e2, -⟩ := hO2.shape'
          subst e2
          have HI2 := hid (HIXa.out.push hO2 hg2)
          have KX2 := hid (bk_grown (KX.out.alloc (.cells #[.string k, .string v] 64)) hg2 HNX.out)
          have z0 := KX2.out.cell (j := 0) rfl
          have z2 := KX2.out.cell (j := 1) rfl
          have z1 := HI2.out.p.cell (j := 0) rfl
          clear hO2 hg2
          have HI2a := hid (HI2.out.keep (below_new (o := .cells #[.string y0, .string y1] 64) (w := w2) (Below.refl _ _)))
          have HPa3 : Hid (Pr (w2.alloc (.cells #[.string y0, .string y1] 64)) (fun _ => True) (.slice (some ⟨w2.heap.size, 0, none⟩) 1 1) [(y0, y1)]) := by
            have := (Bk.new w2 64 [.string y0, .string y1]).pr (n := 1) (ps := [(y0, y1)]) rfl (by omega) (fun _ => True) trivial
            have hz : w2.heap.size = w2.heap.size := by first | rfl | simp
            rw [hz] at this
            exact this
          go_wp2_with (at_builtin; refine wpList_append_pairs rfl _ _ rfl (w.heap.size + 2) _ _ rfl HI2a.out.o (fun _ => True) _ [(y0, y1)] rfl HPa3.out ?q1 ?q2 ?_)
          case q1 => have := HLL.out; simp; omega
          case q2 => have h9 := HI.out.s; have h8 := HI2.out.s; first | omega | (simp; omega)
          intro v3 w3 hO3 hg3
          obtain ⟨a3, n3, c3, e3, -⟩ := hO3.shape'
          subst e3
          have HI3 := hid (HI2a.out.push hO3 hg3)
          clear hO3 hg3
          go_wp2
          go_roundw
          case rel => exact ⟨i + 1, a3, n3, c3, true, _, by omega, rfl, rfl, by go_num, HI3.out, HEQ.out, by have := HLL.out; show _ ≤ _; simp; omega⟩
          case measure => simp [intOf]; omega
      | true =>
        rcases tri y0 k with ⟨h1, h2, h3, h4⟩ | rfl | ⟨h1, h2, h3, h4⟩
        · have HEQ : Hid ((l ++ [(y0, y1)]) ++ insS (t.ps.drop (i + 1)) (k, v) true = insS t.ps (k, v) false) := by
            have hk : klt y0 k = true := h1
            have := HE.out
            show _ = _
            simpa [klt_ne hk] using this
          clear HE
          have HIXa := hid (HIX.out.keep (below_new (o := .cells #[.string y0, .string y1] 64) (w := (wr.alloc (.cells #[.string y0, .string y1] 64))) (Below.refl _ _)))
          have HPa2 : Hid (Pr ((wr.alloc (.cells #[.string y0, .string y1] 64)).alloc (.cells #[.string y0, .string y1] 64)) (fun _ => True) (.slice (some ⟨wr.heap.size + 1, 0, none⟩) 1 1) [(y0, y1)]) := by
            have := (Bk.new (wr.alloc (.cells #[.string y0, .string y1] 64)) 64 [.string y0, .string y1]).pr (n := 1) (ps := [(y0, y1)]) rfl (by omega) (fun _ => True) trivial
            have hz : (wr.alloc (.cells #[.string y0, .string y1] 64)).heap.size = wr.heap.size + 1 := by first | rfl | simp
            rw [hz] at this
            exact this
          go_wp2_with (at_builtin; refine wpList_append_pairs rfl _ _ rfl (w.heap.size + 2) _ _ rfl HIXa.out.o (fun _ => True) _ [(y0, y1)] rfl HPa2.out ?q1 ?q2 ?_)
          case q1 => have := HLL.out; simp; omega
          case q2 => have h9 := HI.out.s; have h8 := HIX.out.s; first | omega | (simp; omega)
          intro v2 w2 hO2 hg2
          obtain ⟨a2, n2, c2, e2, -⟩ := hO2.shape'
          subst e2
          have HI2 := hid (HIXa.out.push hO2 hg2)
          clear hO2 hg2
          go_wp2
          go_roundw
          case rel => exact ⟨i + 1, a2, n2, c2, true, _, by omega, rfl, rfl, by go_num, HI2.out, HEQ.out, by have := HLL.out; show _ ≤ _; simp; omega⟩
          case measure => simp [intOf]; omega
        · have HEQ : Hid (l ++ insS (t.ps.drop (i + 1)) (y0, v) true = insS t.ps (y0, v) false) := by
            have := HE.out
            show _ = _
            simpa using this
          clear HE
          go_wp2
          go_roundw
          case rel => exact ⟨i + 1, a, n, c, true, l, by omega, rfl, rfl, by go_num, HIX.out, HEQ.out, by have := HLL.out; show _ ≤ _; omega⟩
          case measure => simp [intOf]; omega
        · have HEQ : Hid ((l ++ [(y0, y1)]) ++ insS (t.ps.drop (i + 1)) (k, v) true = insS t.ps (k, v) false) := by
            have hne : y0 ≠ k := fun e => by rw [e] at h2; exact absurd h2 (by rw [less_irrefl]; simp)
            have := HE.out
            show _ = _
            simpa [hne] using this
          clear HE
          have HIXa := hid (HIX.out.keep (below_new (o := .cells #[.string y0, .string y1] 64) (w := (wr.alloc (.cells #[.string y0, .string y1] 64))) (Below.refl _ _)))
          have HPa2 : Hid (Pr ((wr.alloc (.cells #[.string y0, .string y1] 64)).alloc (.cells #[.string y0, .string y1] 64)) (fun _ => True) (.slice (some ⟨wr.heap.size + 1, 0, none⟩) 1 1) [(y0, y1)]) := by
            have := (Bk.new (wr.alloc (.cells #[.string y0, .string y1] 64)) 64 [.string y0, .string y1]).pr (n := 1) (ps := [(y0, y1)]) rfl (by omega) (fun _ => True) trivial
            have hz : (wr.alloc (.cells #[.string y0, .string y1] 64)).heap.size = wr.heap.size + 1 := by first | rfl | simp
            rw [hz] at this
            exact this
          go_wp2_with (at_builtin; refine wpList_append_pairs rfl _ _ rfl (w.heap.size + 2) _ _ rfl HIXa.out.o (fun _ => True) _ [(y0, y1)] rfl HPa2.out ?q1 ?q2 ?_)
          case q1 => have := HLL.out; simp; omega
          case q2 => have h9 := HI.out.s; have h8 := HIX.out.s; first | omega | (simp; omega)
          intro v2 w2 hO2 hg2
          obtain ⟨a2, n2, c2, e2, -⟩ := hO2.shape'
          subst e2
          have HI2 := hid (HIXa.out.push hO2 hg2)
          clear hO2 hg2
          go_wp2
          go_roundw
          case rel => exact ⟨i + 1, a2, n2, c2, true, _, by omega, rfl, rfl, by go_num, HI2.out, HEQ.out, by have := HLL.out; show _ ≤ _; simp; omega⟩
          case measure => simp [intOf]; omega
    · have hlt' : ¬ (i : Int) < (np : Int) := by omega
      have HD : Hid (t.ps.drop i = []) := List.drop_eq_nil_of_le (by rw [← HNP.out]; omega)
      rw [HD.out] at HE
      have HSP := hid (fun (w3 : World) (a3 : Option Addr) (n3 c3 : Nat) (l3 : List PB) (hI3 : LeafI w w3 k v (.slice a3 n3 c3) l3) => specSplit_any (fun y => w.heap.size ≤ y) true a3 none n3 c3 0 0 (.mk l3 []) w3 (Sub.leafOf (hI3.o.pr (S := fun y => w.heap.size ≤ y) (fun y _ h1 _ => by omega))))
      have HFN : Hid (∀ (w3 w4 : World) (e : Ending) (a3 : Option Addr) (n3 c3 : Nat) (l3 : List PB), LeafI w w3 k v (.slice a3 n3 c3) l3 → SubsPost w3 (fun y => w.heap.size ≤ y) (splT (.mk l3 [])) e w4 → SubsPost w S (splT (.mk l3 [])) e w4) := by
        rintro w3 w4 e a3 n3 c3 l3 hI ⟨v4, rfl, h1, h2⟩
        have hsz := hI.b.size
        exact ⟨v4, rfl, h1.mono (fun y hy _ => hy.elim .inr (fun h => .inr (by omega))), Below.then' hI.b h2 (Nat.le_refl _)⟩
      cases d with
      | true =>
        have HEQ : Hid (insS t.ps (k, v) false = l) := by have := HE.out; show _ = _; simpa [insS] using this.symm
        clear HE HP
        go_wp2_with fail
        refine (HSP.out wr a n c l HI.out).mono ?_
        rintro e w4 hp
        have hp' := HFN.out _ _ _ _ _ _ _ HI.out hp
        obtain ⟨v4, rfl, h1, h2⟩ := hp'
        have HF := hid h1
        have HF2 := hid h2
        clear hp h1 h2
        go_wp2
        go_ret
        refine ⟨_, rfl, ?_, HF2.out⟩
        rw [HEQ.out]; exact HF.out
      | false =>
        have HEQ : Hid (insS t.ps (k, v) false = l ++ [(k, v)]) := by have := HE.out; show _ = _; simpa [insS] using this.symm
        have q0 := HI.out.p.cell (j := 0) rfl
        have q1 := HI.out.p.cell (j := 1) rfl
        clear HE HP
        have HIa := hid (HI.out.keep (below_new (o := .cells #[.string k, .string v] 64) (w := wr) (Below.refl _ _)))
        have HPa2 : Hid (Pr (wr.alloc (.cells #[.string k, .string v] 64)) (fun _ => True) (.slice (some ⟨wr.heap.size, 0, none⟩) 1 1) [(k, v)]) := by
          have := (Bk.new wr 64 [.string k, .string v]).pr (n := 1) (ps := [(k, v)]) rfl (by omega) (fun _ => True) trivial
          have hz : wr.heap.size = wr.heap.size := by first | rfl | simp
          rw [hz] at this
          exact this
        go_wp2_with (at_builtin; refine wpList_append_pairs rfl _ _ rfl (w.heap.size + 2) _ _ rfl HIa.out.o (fun _ => True) _ [(k, v)] rfl HPa2.out ?q1 ?q2 ?_)
        case q1 => have := HLL.out; simp; omega
        case q2 => have h9 := HI.out.s; have h8 := HI.out.s; first | omega | (simp; omega)
        intro v2 w2 hO2 hg2
        obtain ⟨a2, n2, c2, e2, -⟩ := hO2.shape'
        subst e2
        have HI2 := hid (HIa.out.push hO2 hg2)
        clear hO2 hg2
        go_wp2_with fail
        refine (HSP.out _ _ _ _ _ HI2.out).mono ?_
        rintro e w4 hp
        have hp' := HFN.out _ _ _ _ _ _ _ HI2.out hp
        obtain ⟨v4, rfl, h1, h2⟩ := hp'
        have HF := hid h1
        have HF2 := hid h2
        clear hp h1 h2
        go_wp2
        go_ret
        refine ⟨_, rfl, ?_, HF2.out⟩
        rw [HEQ.out]; exact HF.out
end Go.Proofs.YtkfeefaokghibabGreat
/-
  l03Put of the specification: it puts as the plain function puts.
-/
namespace Go.Proofs.YtkfeefaokghibabGreat
open Go.RowKit
theorem below_dq (w : World) (q : Nat) : Below w.heap.size w (w.drewN q) := ⟨rfl, rfl, rfl, Nat.le_refl _, fun _ _ => rfl⟩
structure SpB (w wr : World) (pv kv : Value) (k v : ByteArray) : Prop where
  s : Bk wr w.heap.size 50 [.bool false, pv, kv]
  p : Bk wr (w.heap.size + 1) 64 [.string k, .string v]
  b : Below w.heap.size w wr
  z : w.heap.size + 2 ≤ wr.heap.size
theorem SpB.keep {w wr w1 : World} {pv kv : Value} {k v : ByteArray} (h : SpB w wr pv kv k v) (hb : Below wr.heap.size wr w1) : SpB w w1 pv kv k v := ⟨h.s.below hb, h.p.below hb, Below.then' h.b hb (Nat.le_refl _), Nat.le_trans h.z hb.size⟩
theorem SpB.grow {w u w2 : World} {pv kv : Value} {k v : ByteArray} {o : Option Nat} (h : SpB w u pv kv k v) (hg : u.grownBy w2 o) (ho : ∀ x, o = some x → w.heap.size + 2 ≤ x) : SpB w w2 pv kv k v := by
  have hon : Only (fun y => o = some y) u w2 := only_of_grown hg (fun _ e => e)
  exact ⟨h.s.to hon (fun e => by have := ho _ e; omega), h.p.to hon (fun e => by have := ho _ e; omega), h.b.trans (hon.below h.b.size (fun b hb e => by have := ho _ e; omega)), Nat.le_trans h.z hg.size⟩
theorem SO.lo {w : World} {base : Nat} {S : Nat → Prop} {v : Value} {ts : List T} (h : SO w base S v ts) : ∀ x, v.ownBlock = some x → base ≤ x ∧ x < w.heap.size := by
  obtain ⟨L, P, K, h1, _⟩ := h
  exact fun x e => World.ownsRow.lt h1 x e
theorem SO.mono {w : World} {base : Nat} {S R : Nat → Prop} {v : Value} {ts : List T} (h : SO w base S v ts) (hS : ∀ y, S y → y < w.heap.size → R y) (hR : ∀ y, R y → v.ownBlock ≠ some y) : SO w base R v ts := by
  obtain ⟨L, P, K, h1, h2, h3⟩ := h
  exact ⟨L, P, K, h1, fun i hi => (h2 i hi).mono hS, hR⟩
theorem putS_len : ∀ (f : Nat) (t : T) (p : PB), (putS f t p).length ≤ 2
  | 0, t, p => by simp [putS]
  | f + 1, t, p => by
    have hs : ∀ t, (splT t).length ≤ 2 := by
      intro t
      unfold splT
      split
      · simp
      · split <;> simp
    rw [putS]
    split <;> exact hs _
theorem putS_ne : ∀ (f : Nat) (t : T) (p : PB), putS f t p ≠ []
  | 0, t, p => by simp [putS]
  | f + 1, t, p => by
    have hs : ∀ t, splT t ≠ [] := by
      intro t
      unfold splT
      split
      · simp
      · split <;> simp
    rw [putS]
    split <;> exact hs _
set_option maxHeartbeats 2000000 in
set_option maxRecDepth 20000 in
theorem specPut_any : ∀ (f : Nat) (r : Bool) (S : Nat → Prop) (lf : Bool) (ap ak : Option Addr) (np cp nk ck : Nat) (t : T) (k v : ByteArray) (w : World), Sub w S lf (.slice ap np cp) (.slice ak nk ck) t → PutIn f r t →
    Calls Tryz.prog 47 #[.agg #[.bool lf, .slice ap np cp, .slice ak nk ck], .agg #[.string k, .string v]] w fun e w' => SubsPost w S (putS f t (k, v)) e w' := by
  intro f
  induction f with
  | zero => intro r S lf ap ak np cp nk ck t k v w _ g; exact g.ev.elim
  | succ f ih =>
  intro r S lf ap ak np cp nk ck t k v w h g
  obtain ⟨_, _, _, _, _, _, e1, e2, HNP, HNK, b1, b2, hlf, -⟩ := h.shape
  cases e1
  cases e2
  by_cases hk : t.ks = []
  · have hn : nk = 0 := by rw [HNK.out, hk]; rfl
    have hl : lf = true := by rw [hlf, hn]; rfl
    have HF : putS (f + 1) t (k, v) = splT (.mk (insS t.ps (k, v) false) []) := by rw [putS, if_pos hk]
    subst hn hl
    rw [HF]
    exact specPut_leaf S ap ak np cp ck t k v w h (by obtain ⟨ps, ks⟩ := t; cases (show ks = [] from hk); exact g.leaf.2.1)
  · obtain ⟨ps, ks⟩ := t
    simp only [T.ks, T.ps] at hk HNK HNP
    obtain ⟨hp0, hl1, hl2, hf3, he4, ha5⟩ := g.kids hk
    have hn0 : nk ≠ 0 := by rw [HNK.out]; have := List.length_pos_iff.2 hk; omega
    have hl : lf = false := by rw [hlf]; exact decide_eq_false hn0
    subst hl
    obtain ⟨hq, _, _⟩ := kidOf_spec k hk
    have hw := wayOf_eq (k := k) hk hf3 ha5
    have HF : Hid (putS (f + 1) (.mk ps ks) (k, v) = splT (.mk [] (ks.take (wayOf ks k) ++ putS f (tAt ks (wayOf ks k)) (k, v) ++ ks.drop (wayOf ks k + 1)))) := by show _ = _; rw [putS]; simp only [T.ks, hk, if_false]
    have HKG := hid (g.kid hk k)
    rw [← hw] at hq HKG
    have H0 : Hid (Sub w (fun y => S y ∧ y < w.heap.size) false (.slice ap np cp) (.slice ak nk ck) (.mk ps ks)) := h.mono (fun y hy hl => ⟨hy, hl⟩)
    have hcap : nk ≤ ck ∧ ck ≤ 9223372036854775807 := by
      obtain ⟨L, P, K, h1, _⟩ := h.row
      exact h1.len.2
    obtain ⟨hc1, hc2⟩ := hcap
    have hnk : nk ≤ 4 := by rw [HNK.out]; exact hl2
    have HWY := hid (fun (w' : World) (h' : Sub w' (fun y => S y ∧ y < w.heap.size) false (.slice ap np cp) (.slice ak nk ck) (.mk ps ks)) => specWay_any _ false ap ak np cp nk ck (.mk ps ks) k w' h' (by simp only [T.ks]; omega))
    simp only [T.ks] at HWY
    have IH := hid ih
    have hqn : wayOf ks k < nk := by rw [HNK.out]; exact hq
    have HQ := hid hq
    generalize hqq : wayOf ks k = q at *
    clear hqq hw h g ih hlf b1 b2 hp0 hl1 hl2 hf3 he4 ha5 hq
    have HI0 : Hid (SpB w ((w.alloc (.cells #[.bool false, .slice ap np cp, .slice ak nk ck] 50)).alloc (.cells #[.string k, .string v] 64)) (.slice ap np cp) (.slice ak nk ck) k v) := by
      refine ⟨(Bk.new w 50 [.bool false, .slice ap np cp, .slice ak nk ck]).alloc _, ?_, below_new (below_new (Below.refl _ _)), by simp⟩
      have := Bk.new (w.alloc (.cells #[.bool false, .slice ap np cp, .slice ak nk ck] 50)) 64 [.string k, .string v]
      simpa using this
    have s0 := HI0.out.s.cell (j := 0) rfl
    have s1 := HI0.out.s.cell (j := 1) rfl
    have s2 := HI0.out.s.cell (j := 2) rfl
    have p0 := HI0.out.p.cell (j := 0) rfl
    go_enter Tryz.func47, Tryz.ntmps47
    go_wp2_with fail
    refine (HWY.out _ (H0.out.kept HI0.out.b)).mono ?_
    generalize (w.alloc (.cells #[.bool false, .slice ap np cp, .slice ak nk ck] 50)).alloc (.cells #[.string k, .string v] 64) = U at *
    rintro e w1 ⟨rfl, hb⟩
    have HI1 := hid (HI0.out.keep hb)
    have HI2 := hid (HI1.out.keep (below_new (o := .cells #[] 50) (w := w1) (Below.refl _ _)))
    have HSN := hid (so_new w1 (w.heap.size + 2) HI1.out.z)
    clear hb s0 s1 s2 p0 HWY HI0
    have hq1 : (q : Int) ≤ (ck : Int) := by omega
    have hq2 : (0 : Int) ≤ (q : Int) := by omega
    have hq3 : (q : Int) + 1 ≤ (nk : Int) := by omega
    have hq4 : (q : Int) < (nk : Int) := by omega
    have hq5 : (q : Int) ≤ 1000 := by omega
    have HS2 := hid ((H0.out.kept HI2.out.b).row)
    simp only [T.ks] at HS2
    have u2 := HI2.out.s.cell (j := 2) rfl
    go_wp2_with (at_builtin; refine wpList_append_subs rfl _ _ rfl (w.heap.size + 2) _ (fun y => S y ∧ y < w.heap.size) (.slice (some ⟨w1.heap.size, 0, none⟩) 0 0) _ [] (ks.take q) rfl HSN.out rfl (HS2.out.take (by omega)) ?q0 ?q1 ?q2 ?_)
    case q0 => intro y hy e; have e' : w1.heap.size = y := by simpa [Value.ownBlock] using e
               have := HI1.out.z; have := hy.2; omega
    case q1 => rw [List.length_take]; simp; omega
    case q2 => have := HI1.out.z; first | omega | (simp; omega)
    intro v3 w3 hO3 hg3 ha3
    obtain ⟨a3, n3, c3, e3, -⟩ := hO3.shape
    subst e3
    have hlo3 := hO3.lo
    have HI3 := hid (HI2.out.grow hg3 (fun x e => by cases e; exact HI1.out.z))
    have HS3 : Hid (SO w3 (w.heap.size + 2) (fun y => S y ∧ y < w.heap.size) (.slice a3 n3 c3) (ks.take q)) := hO3.mono (fun y hy _ => hy.1) (fun y hy e => by have := (hlo3 y e).1; have := hy.2; omega)
    have hsz3 : w1.heap.size + 1 ≤ w3.heap.size := by have := hg3.size; simpa using this
    have HZ3 := hid hsz3
    clear hO3 hg3 ha3 HSN HS2 HI2 u2 hlo3 hsz3
    have HKD := hid (H0.out.kept HI3.out.b)
    obtain ⟨g, off, hak, _, _, hkid⟩ := HKD.out.kids (by omega)
    subst hak
    obtain ⟨l9, ap9, np9, cp9, ak9, nk9, ck9, x0, x1, x2, hs9⟩ := hkid q hqn
    simp only [T.ks] at hs9
    have HS9 := hid hs9
    clear hkid hs9 HKD
    have t2 := HI3.out.s.cell (j := 2) rfl
    have p0 := HI3.out.p.cell (j := 0) rfl
    have p1 := HI3.out.p.cell (j := 1) rfl
    have HPL := hid (putS_len f (tAt ks q) (k, v))
    have HAP : Hid (∀ y, (S y ∧ y < w.heap.size) ∨ w3.drew.heap.size ≤ y → (Value.slice a3 n3 c3).ownBlock ≠ some y) := by
      rintro y (h | h) e
      · have := HS3.out.lo y e; have := h.2; omega
      · have := (HS3.out.lo y e).2
        have h2 : w3.heap.size ≤ y := h
        omega
    have HTL : Hid ((ks.take q).length + (putS f (tAt ks q) (k, v)).length ≤ 1048576) := by have := HPL.out; rw [List.length_take]; show _ ≤ _; omega
    have HST : Hid (∀ (w4 : World), Below w3.drew.heap.size w3.drew w4 → SO w4 (w.heap.size + 2) (fun y => S y ∧ y < w.heap.size) (.slice a3 n3 c3) (ks.take q)) := fun w4 hb => HS3.out.kept (Below.then' (below_drew w3) hb (Nat.le_refl _))
    have HZZ : Hid (∀ (w4 : World), Below w3.drew.heap.size w3.drew w4 → w.heap.size + 2 ≤ w4.heap.size) := fun w4 hb => Nat.le_trans HI3.out.z hb.size
    have HFIN : Hid (∀ (w4 w5 : World) (a5 : Option Addr) (n5 c5 : Nat) (R : Nat → Prop), Below w3.drew.heap.size w3.drew w4 → SO w5 (w.heap.size + 2) R (.slice a5 n5 c5) (ks.take q ++ putS f (tAt ks q) (k, v)) → (∀ y, R y → (S y ∧ y < w.heap.size) ∨ w3.heap.size ≤ y) → w4.grownBy w5 (Value.slice a3 n3 c3).ownBlock →
        SO w5 (w.heap.size + 2) (fun y => (S y ∧ y < w.heap.size) ∨ (w3.heap.size ≤ y ∧ y < w5.heap.size ∧ (Value.slice a5 n5 c5).ownBlock ≠ some y)) (.slice a5 n5 c5) (ks.take q ++ putS f (tAt ks q) (k, v)) ∧ SpB w w5 (.slice ap np cp) (.slice (some ⟨g, off, none⟩) nk ck) k v) := by
      intro w4 w5 a5 n5 c5 R hb hO hR hg
      have hlo := hO.lo
      refine ⟨?_, (HI3.out.keep (Below.then' (below_drew w3) hb (Nat.le_refl _))).grow hg (fun x e => (HS3.out.lo x e).1)⟩
      obtain ⟨L, P, K, h1, h2, h3⟩ := hO
      refine ⟨L, P, K, h1, fun i hi => (h2 i hi).mono (fun y hy hl => ?_), ?_⟩
      · rcases hR y hy with h | h
        · exact .inl h
        · exact .inr ⟨h, hl, h3 y hy⟩
      · rintro y (h | h)
        · intro e; have := (hlo y e).1; have := h.2; omega
        · exact h.2.2
    have HPT := hid (fun (w' : World) (h' : Sub w' (fun y => S y ∧ y < w.heap.size) l9 (.slice ap9 np9 cp9) (.slice ak9 nk9 ck9) (tAt ks q)) => IH.out false _ l9 ap9 ak9 np9 cp9 nk9 ck9 (tAt ks q) k v w' h' HKG.out)
    go_wp2_with fail
    go_cut [10] (fun x v2 => ∃ (a5 : Option Addr) (n5 c5 : Nat), x = .slice a5 n5 c5 ∧ Hid (SO v2 (w.heap.size + 2) (fun y => (S y ∧ y < w.heap.size) ∨ (w3.heap.size ≤ y ∧ y < v2.heap.size ∧ (Value.slice a5 n5 c5).ownBlock ≠ some y)) (.slice a5 n5 c5) (ks.take q ++ putS f (tAt ks q) (k, v))) ∧ Hid (SpB w v2 (.slice ap np cp) (.slice (some ⟨g, off, none⟩) nk ck) k v))
    case first =>
      go_region_law (first
        | (go_simp; go_at_call 47; refine (HPT.out _ (HS9.out.kept (below_drew _))).mono ?_; rintro e w4 ⟨v4, rfl, hR4, hb4⟩)
        | (refine step_append_subs rfl _ _ rfl (w.heap.size + 2) _ _ (.slice a3 n3 c3) _ (ks.take q) (putS f (tAt ks q) (k, v)) rfl (HST.out _ hb4) rfl hR4 HAP.out HTL.out (HZZ.out _ hb4) ?_; intro v5 w5 hO5 hg5 ha5; obtain ⟨a5, n5, c5, e5, -⟩ := hO5.shape; subst e5))
      all_goals (go_wp2_with fail; go_meet)
      all_goals exact ⟨a5, n5, c5, rfl, (HFIN.out _ _ _ _ _ _ hb4 hO5 (fun y hy => by rcases hy.1 with h | h | h; exact .inl h; exact .inl h; exact .inr h) hg5).1, (HFIN.out _ _ _ _ _ _ hb4 hO5 (fun y hy => by rcases hy.1 with h | h | h; exact .inl h; exact .inl h; exact .inr h) hg5).2⟩
    case rest =>
      obtain ⟨a5, n5, c5, rfl, HS5, HI5⟩ := hcut
      clear HFIN HPT HST HZZ HAP x0 x1 x2 t2 p0 p1 HS9 HTL
      have t2 := HI5.out.s.cell (j := 2) rfl
      have HS6 := hid ((H0.out.kept HI5.out.b).row)
      simp only [T.ks] at HS6
      have HDL : Hid ((ks.take q ++ putS f (tAt ks q) (k, v)).length + (ks.drop (q + 1)).length ≤ 1048576) := by
        have := HPL.out
        have := HNK.out
        rw [List.length_append, List.length_take, List.length_drop]; show _ ≤ _; omega
      have HAP : Hid (∀ y, S y ∧ y < w.heap.size → (Value.slice a5 n5 c5).ownBlock ≠ some y) := fun y hy e => by have := (HS5.out.lo y e).1; have := hy.2; omega
      have HSP := hid (fun (w6 : World) (R : Nat → Prop) (a6 : Option Addr) (n6 c6 : Nat) (L : List T) (hL : L ≠ []) (h6 : SubR w6 R (.slice a6 n6 c6) L) => specSplit_any R false none a6 0 0 n6 c6 (.mk [] L) w6 (h6.sub hL))
      have HNE : Hid (ks.take q ++ putS f (tAt ks q) (k, v) ++ ks.drop (q + 1) ≠ []) := by
        intro e
        have h1 := List.append_eq_nil_iff.1 e
        have h2 := List.append_eq_nil_iff.1 h1.1
        exact putS_ne f _ _ h2.2
      have HFN : Hid (∀ (w6 w7 : World) (R : Nat → Prop) (v6 : Value) (e : Ending), SO w6 (w.heap.size + 2) R v6 (ks.take q ++ putS f (tAt ks q) (k, v) ++ ks.drop (q + 1)) → (∀ y, R y → S y ∨ w.heap.size ≤ y) → SpB w w6 (.slice ap np cp) (.slice (some ⟨g, off, none⟩) nk ck) k v → SubsPost w6 (fun y => S y ∨ w.heap.size ≤ y) (splT (.mk [] (ks.take q ++ putS f (tAt ks q) (k, v) ++ ks.drop (q + 1)))) e w7 → SubsPost w S (putS (f + 1) (.mk ps ks) (k, v)) e w7) := by
        rintro w6 w7 R v6 e hO hR hI ⟨v7, rfl, h1, h2⟩
        have hsz := hI.b.size
        refine ⟨v7, rfl, ?_, Below.then' hI.b h2 (Nat.le_refl _)⟩
        rw [HF.out]
        exact h1.mono (fun y hy _ => hy.elim id (fun h => .inr (by omega)))
      have hz3 : w.heap.size ≤ w3.heap.size := by have := HI3.out.z; omega
      have HR5 : Hid (∀ (y z : Nat), ((S y ∧ y < w.heap.size ∨ w3.heap.size ≤ y ∧ y < wc.heap.size ∧ (Value.slice a5 n5 c5).ownBlock ≠ some y) ∨ S y ∧ y < w.heap.size) ∧ y < z → S y ∨ w.heap.size ≤ y) := by
        rintro y z ⟨(h | h) | h, -⟩
        · exact .inl h.1
        · right; omega
        · exact .inl h.1
      have HG6 : Hid (∀ (w6 : World), wc.grownBy w6 (Value.slice a5 n5 c5).ownBlock → SpB w w6 (.slice ap np cp) (.slice (some ⟨g, off, none⟩) nk ck) k v) := fun w6 hg => HI5.out.grow hg (fun x e => (HS5.out.lo x e).1)
      have HLO6 : Hid (∀ (w6 : World) (R : Nat → Prop) (v6 : Value) (L : List T), SO w6 (w.heap.size + 2) R v6 L → (∀ y, R y → S y ∨ w.heap.size ≤ y) → SubR w6 (fun y => S y ∨ w.heap.size ≤ y) v6 L) := fun w6 R v6 L h hR => h.subR (fun y _ h1 _ => .inr (by omega)) (fun y hy _ => hR y hy)
      have hstep : ∀ (src : Value), SubR wc (fun y => S y ∧ y < w.heap.size) src (ks.drop (q + 1)) → True := fun _ _ => trivial
      clear hstep
      by_cases hcap : 0 < ck - (q + 1)
      · have HDR := hid (HS6.out.drop (m := q + 1) (by omega))
        go_wp2_with (at_builtin; refine wpList_append_subs rfl _ _ rfl (w.heap.size + 2) _ (fun y => S y ∧ y < w.heap.size) (.slice a5 n5 c5) _ _ (ks.drop (q + 1)) rfl HS5.out rfl HDR.out HAP.out HDL.out HI5.out.z ?_)
        intro v6 w6 hO6 hg6 ha6
        obtain ⟨a6, n6, c6, e6, -⟩ := hO6.shape
        subst e6
        have HO6 := hid hO6
        rw [← List.append_assoc] at HO6
        have HI6 := hid (HG6.out _ hg6)
        clear hO6 hg6 ha6 HDR
        go_wp2_with fail
        refine (HSP.out _ _ _ _ _ _ HNE.out (HLO6.out _ _ _ _ HO6.out (fun y hy => HR5.out y _ hy))).mono ?_
        rintro e w7 h7
        obtain ⟨v7, rfl, h8, h9⟩ := HFN.out _ _ _ _ _ HO6.out (fun y hy => HR5.out y _ hy) HI6.out h7
        have H8 := hid h8
        have H9 := hid h9
        clear h7 h8 h9
        go_wp2
        go_ret
        exact ⟨_, rfl, H8.out, H9.out⟩
      · have hck : ck = q + 1 := by omega
        have hnk1 : nk = q + 1 := by omega
        have HDR : Hid (SubR wc (fun y => S y ∧ y < w.heap.size) (.slice (some ⟨g, off, none⟩) 0 0) (ks.drop (q + 1))) := by
          rw [List.drop_eq_nil_of_le (by rw [← HNK.out]; omega)]
          exact ⟨fun _ => false, fun _ => .slice none 0 0, fun _ => .slice none 0 0, ⟨_, 0, rfl, Nat.le_refl _, by omega, fun _ => rfl, fun h => (by cases h), fun h => (by simp at h)⟩, fun i hi => (by simp at hi)⟩
        subst hck hnk1
        go_wp2_with (at_builtin; refine wpList_append_subs rfl _ _ rfl (w.heap.size + 2) _ (fun y => S y ∧ y < w.heap.size) (.slice a5 n5 c5) _ _ (ks.drop (q + 1)) rfl HS5.out rfl HDR.out HAP.out HDL.out HI5.out.z ?_)
        intro v6 w6 hO6 hg6 ha6
        obtain ⟨a6, n6, c6, e6, -⟩ := hO6.shape
        subst e6
        have HO6 := hid hO6
        rw [← List.append_assoc] at HO6
        have HI6 := hid (HG6.out _ hg6)
        clear hO6 hg6 ha6 HDR
        go_wp2_with fail
        refine (HSP.out _ _ _ _ _ _ HNE.out (HLO6.out _ _ _ _ HO6.out (fun y hy => HR5.out y _ hy))).mono ?_
        rintro e w7 h7
        obtain ⟨v7, rfl, h8, h9⟩ := HFN.out _ _ _ _ _ HO6.out (fun y hy => HR5.out y _ hy) HI6.out h7
        have H8 := hid h8
        have H9 := hid h9
        clear h7 h8 h9
        go_wp2
        go_ret
        exact ⟨_, rfl, H8.out, H9.out⟩
end Go.Proofs.YtkfeefaokghibabGreat
/-
  Cells that are stored in a row one behind the other.
-/
namespace Go.Proofs.YtkfeefaokghibabGreat
open Go.RowKit
def setL : List Value → Nat → List Value → List Value
  | cl, _, [] => cl
  | cl, o, v :: vs => setL (cl.set o v) (o + 1) vs
theorem setL_length (vs : List Value) : ∀ (cl : List Value) (o : Nat), (setL cl o vs).length = cl.length := by
  induction vs with
  | nil => intro cl o; rfl
  | cons v vs ih => intro cl o; rw [setL, ih, List.length_set]
theorem setL_at (vs : List Value) : ∀ (cl : List Value) (o x : Nat), (setL cl o vs)[x]? = if o ≤ x ∧ x < o + vs.length ∧ x < cl.length then vs[x - o]? else cl[x]? := by
  induction vs with
  | nil => intro cl o x; rw [setL, if_neg]; simp; omega
  | cons v vs ih =>
    intro cl o x
    rw [setL, ih, List.length_set, List.length_cons]
    by_cases h1 : o + 1 ≤ x ∧ x < o + 1 + vs.length ∧ x < cl.length
    · rw [if_pos h1, if_pos (by omega)]
      obtain ⟨y, rfl⟩ : ∃ y, x = o + 1 + y := ⟨x - (o + 1), by omega⟩
      rw [show o + 1 + y - (o + 1) = y by omega, show o + 1 + y - o = y + 1 by omega]
      rfl
    · rw [if_neg h1, List.getElem?_set]
      by_cases h2 : o = x
      · subst h2
        rw [if_pos rfl]
        by_cases h3 : o < cl.length
        · rw [if_pos h3, if_pos (by omega), Nat.sub_self]; rfl
        · rw [if_neg h3, if_neg (by omega), List.getElem?_eq_none (by omega)]
      · rw [if_neg h2, if_neg (by omega)]
theorem bk_setL {g : Nat} {T : TypeId} (vs : List Value) : ∀ (o : Nat) (w : World) (cl : List Value), Bk w g T cl → Bk (w.setCells g o vs) g T (setL cl o vs) := by
  induction vs with
  | nil => intro o w cl h; exact h
  | cons v vs ih => intro o w cl h; rw [World.setCells, setL]; exact ih (o + 1) _ _ (h.set o v)
theorem only_setL {R : Nat → Prop} {b : Nat} (h : R b) : ∀ (vs : List Value) (o : Nat) (w : World), Only R w (w.setCells b o vs)
  | [], _, w => Only.refl _ _
  | v :: vs, o, w => by
    rw [World.setCells]
    exact (only_set h v).trans (only_setL h vs (o + 1) _)
/-- What taking the element i out of a row leaves. -/
theorem del_list (cl xs zs : List Value) (i n s : Nat) (hi : i < n) (hl : n * s ≤ cl.length) (hx : cl.take (n * s) = xs) :
    (setL (setL cl (i * s) (xs.drop ((i + 1) * s))) ((n - 1) * s) zs).take ((n - 1) * s) = xs.take (i * s) ++ xs.drop ((i + 1) * s) := by
  have hxl : xs.length = n * s := by rw [← hx, List.length_take]; omega
  have e1 : (n - 1) * s + s = n * s := by rw [← Nat.succ_mul]; congr 1; omega
  have e2 : (i + 1) * s = i * s + s := Nat.succ_mul i s
  have e3 : (i + 1) * s ≤ n * s := Nat.mul_le_mul_right s hi
  have hd : (xs.drop ((i + 1) * s)).length = n * s - (i + 1) * s := by rw [List.length_drop, hxl]
  apply List.ext_getElem?
  intro x
  rw [List.getElem?_take]
  have hin : ∀ y, y < n * s → cl[y]? = xs[y]? := by
    intro y hy
    rw [← hx, List.getElem?_take, if_pos hy]
  by_cases h1 : x < (n - 1) * s
  · rw [if_pos h1, setL_at, if_neg (by omega), setL_at, hd]
    by_cases h2 : x < i * s
    · rw [if_neg (by omega), List.getElem?_append_left (by rw [List.length_take, hxl]; omega), List.getElem?_take, if_pos h2]
      exact hin x (by omega)
    · rw [if_pos (by omega), List.getElem?_append_right (by rw [List.length_take, hxl]; omega), List.length_take, hxl, Nat.min_eq_left (by omega)]
  · rw [if_neg h1, List.getElem?_eq_none (by rw [List.length_append, List.length_take, hxl, hd]; omega)]
def DelPost (E : TypeId) (size base : Nat) (xs : List Value) (n : Nat) (v : Value) (w : World) (e : Ending) (w' : World) : Prop :=
  ∃ g c, v = .slice (some ⟨g, 0, none⟩) (n + 1) c ∧ e = .returned (.slice (some ⟨g, 0, none⟩) n c) ∧ w'.ownsRow base E size (.slice (some ⟨g, 0, none⟩) n c) n xs ∧ Only (fun y => y = g) w w'
theorem run_clearP (ty : TypeId) (w : World) (b o c : Nat) (hc : ∀ j, j < 2 → (w.cell? ⟨b, o + j, none⟩).isSome = true) (hf : ∀ j, j < 2 → w.frozen? ⟨b, o + j, none⟩ = false) :
    (Builtin.clear_ #[47] ty #[.slice (some ⟨b, o, none⟩) 1 c]).run Tryz.prog w = .ok (.tuple #[]) (w.setCells b o [.string ⟨#[]⟩, .string ⟨#[]⟩]) := by
  have hv : (zeroValue 64).run Tryz.prog w = .ok (.agg #[.string ⟨#[]⟩, .string ⟨#[]⟩]) w := by go_simp
  have hst := run_storeCells_cells (P := Tryz.prog) b o [.string ⟨#[]⟩, .string ⟨#[]⟩] 0 w (by simpa using hc) (by simpa using hf) (by intro v hv'; simp at hv'; subst hv'; rfl)
  simp only [Nat.add_zero] at hst
  have hzc : (Builtin.zeroCells (Value.cells (.agg #[.string ⟨#[]⟩, .string ⟨#[]⟩])) 1).toList = [.string ⟨#[]⟩, .string ⟨#[]⟩] := by
    simp [Builtin.zeroCells, Value.cells]
    try rfl
  simp [Builtin.clear_, run_underlying Tryz.underlying47, hv, hzc, hst]
set_option maxHeartbeats 2000000 in
set_option maxRecDepth 20000 in
theorem deleteP_any (v : Value) (n i base : Nat) (xs : List Value) (w : World) (hO : w.ownsRow base 64 2 v (n + 1) xs) (hi : i ≤ n) (hn : n ≤ 1048576) (h1x : ∀ u ∈ xs, u.oneCell' = true) :
    Calls Tryz.prog 84 #[v, .int .i64 (i : Int), .int .i64 ((i : Int) + 1)] w fun e w' => DelPost 64 2 base (xs.take (i * 2) ++ xs.drop ((i + 1) * 2)) n v w e w' := by
  obtain ⟨ti, hti, htz, hts, htb⟩ := info_of infoPairI
  obtain ⟨hxl, hO2⟩ := hO
  rcases hO2 with ⟨_, h0⟩ | ⟨g, c, cur, rfl, hg0, hg, hnc, hcm, hcs, htk⟩
  · omega
  have hB : Bk w g 64 cur.toList := by show _ = _; simpa using hg
  have hcl : cur.toList.length = c * 2 := by simpa using hcs
  generalize cur.toList = cl at *
  unfold maxLen at hcm
  have HDL : Hid ((setL (setL cl (i * 2) (xs.drop ((i + 1) * 2))) (n * 2) [.string ⟨#[]⟩, .string ⟨#[]⟩]).take (n * 2) = xs.take (i * 2) ++ xs.drop ((i + 1) * 2)) := by
    have := del_list cl xs [.string ⟨#[]⟩, .string ⟨#[]⟩] i (n + 1) 2 (by omega) (by omega) htk
    show _ = _
    simpa using this
  have hxd : (xs.drop ((i + 1) * 2)).length = (n - i) * 2 := by rw [List.length_drop, hxl]; omega
  have KB := hid (hB.below (below_drew w))
  have K2 := hid (bk_setL (xs.drop ((i + 1) * 2)) (i * 2) _ _ KB.out)
  have K3 := hid (bk_setL [.string ⟨#[]⟩, .string ⟨#[]⟩] (n * 2) _ _ K2.out)
  have HXD := hid hxd
  have HXL := hid hxl
  have H1X := hid h1x
  have hi1 : (i : Int) + 1 ≤ (n : Int) + 1 := by omega
  have hi2 : (0 : Int) ≤ (i : Int) := by omega
  have hi3 : (i : Int) ≤ (c : Int) := by omega
  have hi4 : (n : Int) + 1 ≤ (c : Int) := by omega
  have hi5 : (i : Int) + 1 ≤ (c : Int) := by omega
  have hi6 : (i : Int) ≤ 1048576 := by omega
  have hi7 : ¬ (i : Int) = (i : Int) + 1 := by omega
  have hi8 : (n : Int) ≤ 1048576 := by omega
  have hi9 : (0 : Int) ≤ (i : Int) + 1 := by omega
  have hia : ((i + (n - i) : Nat) : Int) = (n : Int) := by omega
  have HSP : Hid (∀ j, j < (xs.drop ((i + 1) * 2)).length → (w.drew.cell? ⟨g, 0 + i * 2 + j, none⟩).isSome = true ∧ w.drew.frozen? ⟨g, 0 + i * 2 + j, none⟩ = false) := by
    intro j hj
    rw [hxd] at hj
    have hlt : 0 + i * 2 + j < cl.length := by rw [hcl]; omega
    obtain ⟨u, hu⟩ : ∃ u, cl[0 + i * 2 + j]? = some u := ⟨cl[0 + i * 2 + j], by simp⟩
    exact ⟨by rw [KB.out.cell hu]; rfl, KB.out.free _⟩
  have HSC : Hid (∀ j u, (xs.drop ((i + 1) * 2))[j]? = some u → w.drew.cell? ((⟨g, (i + 1) * 2, none⟩ : Addr).add j) = some u) := by
    intro j u hu
    rw [Addr.add_lit]
    rw [List.getElem?_drop] at hu
    refine KB.out.cell ?_
    rw [← htk, List.getElem?_take] at hu
    split at hu
    · exact hu
    · cases hu
  have hclr := run_clearP 0 (w.drew.setCells g (i * 2) (xs.drop ((i + 1) * 2))) g (n * 2) (c - n) (fun j hj => by
    have hlt : n * 2 + j < (setL cl (i * 2) (xs.drop ((i + 1) * 2))).length := by rw [setL_length, hcl]; omega
    rw [K2.out.cell (List.getElem?_eq_getElem hlt)]; rfl) (fun j hj => K2.out.free _)
  have HFIN : Hid (DelPost 64 2 base (xs.take (i * 2) ++ xs.drop ((i + 1) * 2)) n (.slice (some ⟨g, 0, none⟩) (n + 1) c) w (.returned (.slice (some ⟨g, 0, none⟩) n c)) ((w.drew.setCells g (i * 2) (xs.drop ((i + 1) * 2))).setCells g (n * 2) [.string ⟨#[]⟩, .string ⟨#[]⟩])) := by
    refine ⟨g, c, rfl, rfl, ⟨?_, .inr ⟨g, c, (setL (setL cl (i * 2) (xs.drop ((i + 1) * 2))) (n * 2) [.string ⟨#[]⟩, .string ⟨#[]⟩]).toArray, rfl, hg0, K3.out, by omega, by unfold maxLen; omega, ?_, ?_⟩⟩, ((only_of_below (below_drew w) _).trans (only_setL (R := fun y => y = g) rfl _ _ _)).trans (only_setL (R := fun y => y = g) rfl _ _ _)⟩
    · rw [List.length_append, List.length_take, hxd, hxl]; omega
    · simp only [List.size_toArray]; rw [setL_length, setL_length, hcl]
    · simpa using HDL.out
  clear hB hxl hxd htk hcl h1x hg0 hg hcs
  by_cases hcc : c = i + 1
  · have hni : n = i := by omega
    subst hcc hni
    have hz : xs.drop ((n + 1) * 2) = [] := List.drop_eq_nil_of_le (by rw [HXL.out]; omega)
    rw [hz] at HSP HSC HXD HFIN hclr
    have HZ := hid hz
    clear hz
    have hj1 : (n : Int) ≤ (n : Int) + 1 := by omega
    have e0 : w.drew.setCells g (n * 2) [] = w.drew := rfl
    rw [e0] at hclr HFIN
    rw [show n + 1 - n = 1 by omega] at hclr
    go_enter Tryz.func84, Tryz.ntmps84
    go_wp2_with fail
    go_region_law (refine step_append_room rfl _ _ _ rfl 64 ti 2 Tryz.underlying47 hti hts g 0 n (n + 1) rfl ⟨g, 0, none⟩ 0 0 [] rfl rfl (fun j u hu => by simp at hu) (fun u hu => by simp at hu) (by omega) (fun j hj => by simp at hj) ?_)
    all_goals (go_wp2)
    all_goals go_ret
    all_goals (rw [HZ.out]; exact HFIN.out)
  · go_enter Tryz.func84, Tryz.ntmps84
    go_wp2_with fail
    go_region_law (refine step_append_room rfl _ _ _ rfl 64 ti 2 Tryz.underlying47 hti hts g 0 i c rfl ⟨g, (i + 1) * 2, none⟩ (n - i) (c - (i + 1)) (xs.drop ((i + 1) * 2)) rfl HXD.out HSC.out (fun u hu => H1X.out u (List.mem_of_mem_drop hu)) (by omega) HSP.out ?_)
    all_goals (go_wp2)
    all_goals go_ret
    all_goals exact HFIN.out
theorem run_clearL (ty : TypeId) (w : World) (b o c : Nat) (hc : ∀ j, j < 1 → (w.cell? ⟨b, o + j, none⟩).isSome = true) (hf : ∀ j, j < 1 → w.frozen? ⟨b, o + j, none⟩ = false) :
    (Builtin.clear_ #[91] ty #[.slice (some ⟨b, o, none⟩) 1 c]).run Tryz.prog w = .ok (.tuple #[]) (w.setCells b o [.pointer none]) := by
  have hv : (zeroValue 59).run Tryz.prog w = .ok (.pointer none) w := by go_simp
  have hst := run_storeCells_cells (P := Tryz.prog) b o [.pointer none] 0 w (by simpa using hc) (by simpa using hf) (by intro v hv'; simp at hv'; subst hv'; rfl)
  simp only [Nat.add_zero] at hst
  have hzc : (Builtin.zeroCells (Value.cells (.pointer none)) 1).toList = [.pointer none] := by
    simp [Builtin.zeroCells, Value.cells]
    try rfl
  simp [Builtin.clear_, run_underlying Tryz.underlying91, hv, hzc, hst]
set_option maxHeartbeats 2000000 in
set_option maxRecDepth 20000 in
theorem deleteL_any (v : Value) (n i base : Nat) (xs : List Value) (w : World) (hO : w.ownsRow base 59 1 v (n + 1) xs) (hi : i ≤ n) (hn : n ≤ 1048576) (h1x : ∀ u ∈ xs, u.oneCell' = true) :
    Calls Tryz.prog 102 #[v, .int .i64 (i : Int), .int .i64 ((i : Int) + 1)] w fun e w' => DelPost 59 1 base (xs.take (i) ++ xs.drop (i + 1)) n v w e w' := by
  obtain ⟨ti, hti, htz, hts, htb⟩ := info_of infoLimbP
  obtain ⟨hxl, hO2⟩ := hO
  rcases hO2 with ⟨_, h0⟩ | ⟨g, c, cur, rfl, hg0, hg, hnc, hcm, hcs, htk⟩
  · omega
  have hB : Bk w g 59 cur.toList := by show _ = _; simpa using hg
  have hcl : cur.toList.length = c * 1 := by simpa using hcs
  generalize cur.toList = cl at *
  unfold maxLen at hcm
  have HDL : Hid ((setL (setL cl (i) (xs.drop (i + 1))) (n) [.pointer none]).take (n) = xs.take (i) ++ xs.drop (i + 1)) := by
    have := del_list cl xs [.pointer none] i (n + 1) 1 (by omega) (by omega) htk
    show _ = _
    simpa using this
  have hxd : (xs.drop (i + 1)).length = (n - i) * 1 := by rw [List.length_drop, hxl]; omega
  have KB := hid (hB.below (below_drew w))
  have K2 := hid (bk_setL (xs.drop (i + 1)) (i) _ _ KB.out)
  have K3 := hid (bk_setL [.pointer none] (n) _ _ K2.out)
  have HXD := hid hxd
  have HXL := hid hxl
  have H1X := hid h1x
  have hi1 : (i : Int) + 1 ≤ (n : Int) + 1 := by omega
  have hi2 : (0 : Int) ≤ (i : Int) := by omega
  have hi3 : (i : Int) ≤ (c : Int) := by omega
  have hi4 : (n : Int) + 1 ≤ (c : Int) := by omega
  have hi5 : (i : Int) + 1 ≤ (c : Int) := by omega
  have hi6 : (i : Int) ≤ 1048576 := by omega
  have hi7 : ¬ (i : Int) = (i : Int) + 1 := by omega
  have hi8 : (n : Int) ≤ 1048576 := by omega
  have hi9 : (0 : Int) ≤ (i : Int) + 1 := by omega
  have hia : ((i + (n - i) : Nat) : Int) = (n : Int) := by omega
  have HSP : Hid (∀ j, j < (xs.drop (i + 1)).length → (w.drew.cell? ⟨g, 0 + i * 1 + j, none⟩).isSome = true ∧ w.drew.frozen? ⟨g, 0 + i * 1 + j, none⟩ = false) := by
    intro j hj
    rw [hxd] at hj
    have hlt : 0 + i * 1 + j < cl.length := by rw [hcl]; omega
    obtain ⟨u, hu⟩ : ∃ u, cl[0 + i * 1 + j]? = some u := ⟨cl[0 + i * 1 + j], by simp⟩
    exact ⟨by rw [KB.out.cell hu]; rfl, KB.out.free _⟩
  have HSC : Hid (∀ j u, (xs.drop (i + 1))[j]? = some u → w.drew.cell? ((⟨g, i + 1, none⟩ : Addr).add j) = some u) := by
    intro j u hu
    rw [Addr.add_lit]
    rw [List.getElem?_drop] at hu
    refine KB.out.cell ?_
    rw [← htk, List.getElem?_take] at hu
    split at hu
    · exact hu
    · cases hu
  have hclr := run_clearL 0 (w.drew.setCells g (i) (xs.drop (i + 1))) g (n) (c - n) (fun j hj => by
    have hlt : n + j < (setL cl (i) (xs.drop (i + 1))).length := by rw [setL_length, hcl]; omega
    rw [K2.out.cell (List.getElem?_eq_getElem hlt)]; rfl) (fun j hj => K2.out.free _)
  have HFIN : Hid (DelPost 59 1 base (xs.take (i) ++ xs.drop (i + 1)) n (.slice (some ⟨g, 0, none⟩) (n + 1) c) w (.returned (.slice (some ⟨g, 0, none⟩) n c)) ((w.drew.setCells g (i) (xs.drop (i + 1))).setCells g (n) [.pointer none])) := by
    refine ⟨g, c, rfl, rfl, ⟨?_, .inr ⟨g, c, (setL (setL cl (i) (xs.drop (i + 1))) (n) [.pointer none]).toArray, rfl, hg0, K3.out, by omega, by unfold maxLen; omega, ?_, ?_⟩⟩, ((only_of_below (below_drew w) _).trans (only_setL (R := fun y => y = g) rfl _ _ _)).trans (only_setL (R := fun y => y = g) rfl _ _ _)⟩
    · rw [List.length_append, List.length_take, hxd, hxl]; omega
    · simp only [List.size_toArray]; rw [setL_length, setL_length, hcl]
    · simpa using HDL.out
  clear hB hxl hxd htk hcl h1x hg0 hg hcs
  by_cases hcc : c = i + 1
  · have hni : n = i := by omega
    subst hcc hni
    have hz : xs.drop (n + 1) = [] := List.drop_eq_nil_of_le (by rw [HXL.out]; omega)
    rw [hz] at HSP HSC HXD HFIN hclr
    have HZ := hid hz
    clear hz
    have hj1 : (n : Int) ≤ (n : Int) + 1 := by omega
    have e0 : w.drew.setCells g (n) [] = w.drew := rfl
    rw [e0] at hclr HFIN
    rw [show n + 1 - n = 1 by omega] at hclr
    go_enter Tryz.func102, Tryz.ntmps102
    go_wp2_with fail
    go_region_law (refine step_append_room rfl _ _ _ rfl 59 ti 1 Tryz.underlying91 hti hts g 0 n (n + 1) rfl ⟨g, 0, none⟩ 0 0 [] rfl rfl (fun j u hu => by simp at hu) (fun u hu => by simp at hu) (by omega) (fun j hj => by simp at hj) ?_)
    all_goals (go_wp2)
    all_goals go_ret
    all_goals (rw [HZ.out]; exact HFIN.out)
  · go_enter Tryz.func102, Tryz.ntmps102
    go_wp2_with fail
    go_region_law (refine step_append_room rfl _ _ _ rfl 59 ti 1 Tryz.underlying91 hti hts g 0 i c rfl ⟨g, i + 1, none⟩ (n - i) (c - (i + 1)) (xs.drop (i + 1)) rfl HXD.out HSC.out (fun u hu => H1X.out u (List.mem_of_mem_drop hu)) (by omega) HSP.out ?_)
    all_goals (go_wp2)
    all_goals go_ret
    all_goals exact HFIN.out
end Go.Proofs.YtkfeefaokghibabGreat
/-
  put: a pair comes in below a limb; what is too much for it comes newly behind it.
-/
namespace Go.Proofs.YtkfeefaokghibabGreat
open Go.RowKit
theorem below_dn (w : World) (q : Nat) : Below w.heap.size w (w.drewN q) := ⟨rfl, rfl, rfl, Nat.le_refl _, fun _ _ => rfl⟩
def PutPost (w : World) (S : Nat → Prop) (b : Nat) (x : T × T) (e : Ending) (w' : World) : Prop := ∃ b2, e = .returned (.pointer (some ⟨b2, 0, none⟩)) ∧ TwoL w w' b b2 x.1 x.2 S
theorem limb_bare (w : World) : Limb (w.alloc (.cells #[.slice none 0 0, .slice none 0 0] 93)) (fun x => x = w.heap.size) w.heap.size bareT :=
  .mk _ _ (.slice none 0 0) (.slice none 0 0) [] [] (fun _ => 0) (fun _ _ => False) rfl (Bk.new w 93 [.slice none 0 0, .slice none 0 0]) (World.ownsRow_nil _ _ _ _) (World.ownsRow_nil _ _ _ _) (fun x hx => by cases hx) (fun x hx => by cases hx) (fun i hi => by simp at hi) (fun i j hi => by simp at hi) (fun i hi => by simp at hi)
theorem put_end {w w1 w2 : World} {b : Nat} {t1 : T} {x : T × T} {S S' : Nat → Prop} (h1 : ∀ y, S' y → (S y ∨ w.heap.size ≤ y) ∧ y < w1.heap.size) (hon : Only S w w1)
    (h : TwoL (w1.alloc (.cells #[.slice none 0 0, .slice none 0 0] 93)) w2 b w1.heap.size (shT t1 bareT).1 (shT t1 bareT).2 (fun y => S' y ∨ y = w1.heap.size)) (hx : x = shT t1 bareT) :
    PutPost w S b x (.returned (.pointer (some ⟨w1.heap.size, 0, none⟩))) w2 := by
  subst hx
  obtain ⟨S1, S2, k1, k2, k3, k4, k5⟩ := h
  have hs := hon.size
  refine ⟨_, rfl, S1, S2, k1, k2, k3, fun y hy => ⟨?_, (k4 y hy).2⟩, (hon.trans (only_alloc _ _ _)).then k5 ?_⟩
  · rcases (k4 y hy).1 with (h | h) | h
    · exact (h1 y h).1
    · right; omega
    · right; simp at h; omega
  · rintro i hi (h | h)
    · rcases (h1 i h).1 with h | h
      · exact h
      · omega
    · omega
theorem small_out {h : Nat} {r : Bool} {l : List PB} {x : T × T} (g : PutOut h r l x) : x.2.ps.length + x.2.ks.length ≤ 8 := by
  cases e : x.2.bare with
  | true => rw [bare_iff.1 e]; decide
  | false =>
    have := (g.both e).2
    clear g e
    generalize x.2 = y at *
    obtain ⟨ps, ks⟩ := y
    simp only [T.ps, T.ks]
    by_cases hk : ks = []
    · subst hk; have := full_lf this; simp; omega
    · obtain ⟨_, h2, rfl, _⟩ := full_br this hk; simp; omega
theorem PutIn.small {h : Nat} {r : Bool} {t : T} (g : PutIn h r t) : t.ps.length ≤ 4 ∧ t.ks.length ≤ 4 := by
  obtain ⟨ps, ks⟩ := t
  simp only [T.ps, T.ks]
  rcases g.full with hf | ⟨_, e⟩
  · by_cases hk : ks = []
    · subst hk; exact ⟨(full_lf hf).1, by simp⟩
    · obtain ⟨_, h2, rfl, _⟩ := full_br hf hk; exact ⟨by simp, h2⟩
  · cases e; simp
set_option maxHeartbeats 1000000 in
set_option maxRecDepth 20000 in
theorem put_any : ∀ (f : Nat) (r : Bool) (S : Nat → Prop) (b : Nat) (t : T) (k v : ByteArray) (w : World), Limb w S b t → (∀ x, S x → x < w.heap.size) → PutIn f r t →
    Calls Tryz.prog 56 #[.pointer (some ⟨b, 0, none⟩), .agg #[.string k, .string v]] w fun e w' => PutPost w S b (putF f t (k, v)) e w' := by
  intro f
  induction f with
  | zero => intro r S b t k v w _ _ g; exact g.ev.elim
  | succ f ih =>
  intro r S b t k v w hL hS g
  have hb := below_new (o := .cells #[.string k, .string v] 64) (w := w) (Below.refl _ _)
  have HB0 := hid hb
  have KP := hid (Bk.new w 64 [.string k, .string v])
  have HL0 := hid (hL.kept hb)
  have HS0 : Hid (∀ x, S x → x < (w.alloc (.cells #[.string k, .string v] 64)).heap.size) := fun x hx => Nat.lt_of_lt_of_le (hS x hx) hb.size
  have HSW := hid hS
  have hlv := g.small
  have HG := hid g
  have IH := hid ih
  clear hb hL hS g ih
  have p0 := KP.out.cell (j := 0) rfl
  have p1 := KP.out.cell (j := 1) rfl
  have HTG := hid (fun (S1 : Nat → Prop) (t1 : T) (w1 : World) (h1 : Limb w1 S1 b t1) (h2 : ∀ x, S1 x → x < w1.heap.size) (h3 : t1.ps.length ≤ 1000) (h4 : t1.ks.length ≤ 1000) => together_any S1 (fun x => x = w1.heap.size) b w1.heap.size t1 bareT (w1.alloc (.cells #[.slice none 0 0, .slice none 0 0] 93)) (h1.kept (below_new (Below.refl _ _))) (limb_bare w1) (fun x hx e => by have := h2 x hx; omega) (fun x hx => by have := h2 x hx; simp; omega) (fun x hx => by simp [hx]) (by show (t1.ps ++ []).length ≤ _; rw [List.append_nil]; omega) (by show (t1.ks ++ []).length ≤ _; rw [List.append_nil]; omega))
  by_cases hk : t.ks = []
  · have hlz : decide (t.ks.length = 0) = true := by simp [hk]
    have HF : Hid (putF (f + 1) t (k, v) = shT (.mk (insP t.ps (k, v)) t.ks) bareT) := by show _ = _; rw [putF, if_pos hk]
    have HA : Hid (Asc t.ps) := by
      obtain ⟨ps, ks⟩ := t
      cases (show ks = [] from hk)
      exact HG.out.leaf.2.2.2
    have HPP := hid (fun (w' : World) h1 h2 => putPair_any S b t k v w' h1 h2 HA.out (by omega))
    have HLF := hid (fun (w' : World) h1 => isLeaf_any S b t w' h1)
    rw [hlz] at HLF
    have HI3 : Hid ((insP t.ps (k, v)).length ≤ 1000) := by have := insP_len t.ps (k, v); show _ ≤ _; omega
    have HI4 : Hid (t.ks.length ≤ 1000) := by show _ ≤ _; omega
    clear hlv hlz
    go_enter Tryz.func56, Tryz.ntmps56
    go_wp2_with fail
    refine (HLF.out _ HL0.out).mono ?_
    generalize hU : w.alloc (.cells #[.string k, .string v] 64) = U at *
    clear hU
    rintro e w1 ⟨rfl, rfl⟩
    go_wp2_with fail
    refine (HPP.out _ HL0.out HS0.out).mono ?_
    rintro e w1 ⟨rfl, h1⟩
    obtain ⟨S', k1, k2, k3⟩ := h1.from HB0.out
    have H1 := hid k1
    have H2 := hid k2
    have H3 := hid k3
    clear h1 k1 k2 k3
    go_wp2_with fail
    refine (HTG.out S' _ w1 H1.out (fun x hx => (H2.out x hx).2) HI3.out HI4.out).mono ?_
    rintro e w2 ⟨rfl, h2⟩
    have H4 := hid h2
    clear h2
    go_wp2
    go_ret
    exact put_end H2.out H3.out H4.out HF.out
  · obtain ⟨ps, ks⟩ := t
    simp only [T.ks, T.ps] at hk hlv
    have hlz : decide ((T.mk ps ks).ks.length = 0) = false := decide_eq_false (by simp only [T.ks]; have := List.length_pos_iff.2 hk; omega)
    obtain ⟨hp0, hl1, hl2, hf3, he4, ha5⟩ := HG.out.kids hk
    obtain ⟨hq, _, _⟩ := kidOf_spec k hk
    have HF : Hid (putF (f + 1) (.mk ps ks) (k, v) = shT (.mk ps (insK ks (kidOf ks k) (putF f (tAt ks (kidOf ks k)) (k, v)))) bareT) := by show _ = _; rw [putF]; simp only [T.ks, T.ps, hk, if_false]
    have HOUT := hid (putF_out f false _ (k, v) (HG.out.kid hk k))
    have HKG := hid (HG.out.kid hk k)
    have HKF := hid (fun (w' : World) h1 => kidFor_any S b (.mk ps ks) k w' h1 hf3 (by simp only [T.ks]; omega))
    have HLF := hid (fun (w' : World) h1 => isLeaf_any S b (.mk ps ks) w' h1)
    rw [hlz] at HLF
    simp only [T.ks] at HKF
    have HLEN : Hid (∀ r, (insK ks (kidOf ks k) r).length ≤ 1000) := fun r => by have := insK_len ks (kidOf ks k) r; omega
    have HPL : Hid (ps.length ≤ 1000) := by show _ ≤ _; omega
    have hkl : ks.length ≤ 4 := hl2
    clear hlz hp0 hl1 hl2 hf3 he4 ha5 hlv HG
    go_enter Tryz.func56, Tryz.ntmps56
    go_wp2_with fail
    refine (HLF.out _ HL0.out).mono ?_
    generalize hU : w.alloc (.cells #[.string k, .string v] 64) = U at *
    clear hU
    rintro e w1 ⟨rfl, rfl⟩
    go_wp2_with fail
    refine (HKF.out _ HL0.out).mono ?_
    rintro e w9 ⟨rfl, n1, rfl⟩
    have HB1 := hid (Below.then' HB0.out (below_dn w1 n1) (Nat.le_refl _))
    have p0' := (KP.out.below (below_dn w1 n1)).cell (j := 0) rfl
    have p1' := (KP.out.below (below_dn w1 n1)).cell (j := 1) rfl
    have HL1 := hid (HL0.out.kept (below_dn w1 n1))
    have HS1 : Hid (∀ x, S x → x < (w1.drewN n1).heap.size) := HS0.out
    generalize hW : w1.drewN n1 = W at *
    clear hW p0 p1 HB0 HL0 HS0 KP HKF HLF
    obtain ⟨pv, kv, A, SS, lb⟩ := HL1.out.lb
    obtain ⟨ak, ck, e5⟩ := own_shape lb.hK
    subst e5
    have c1 := lb.hB.cell (j := 1) rfl
    generalize hqq : kidOf ks k = q at *
    clear hqq
    obtain ⟨g, off, hak, hSg, hgl, hcell⟩ := (rw_own lb.hK (S := fun _ => True) (fun _ _ _ _ => trivial)).at (by omega)
    subst hak
    have cq := hcell q _ (ptrs_at A _ q hq)
    have HLB := hid lb
    have hq' : (q : Int) < (ks.length : Int) := by omega
    have hq0 : (0 : Int) ≤ (q : Int) := by omega
    have HLK := hid (lb.hk q hq)
    have HSK : Hid (∀ x, SS q x → x < W.heap.size) := fun x hx => HS1.out x (lb.hSS q hq x hx).1
    have HQ := hid hq
    have HKL := hid hkl
    simp only [ptr] at cq
    generalize hbq : A q = bq at *
    have HBQ := hid hbq
    clear hcell hSg hgl lb hbq hkl hq
    generalize hnk : ks.length = nk at *
    have HNK := hid hnk
    clear hnk
    go_wp2_with fail
    have HTW : Hid (∀ (w2 : World) (b2 : Nat), TwoL W.drew w2 bq b2 (putF f (tAt ks q) (k, v)).1 (putF f (tAt ks q) (k, v)).2 (SS q) → TwoL W w2 bq b2 (putF f (tAt ks q) (k, v)).1 (putF f (tAt ks q) (k, v)).2 (SS q)) := by
      rintro w2 b2 ⟨S1, S2, k1, k2, k3, k4, k5⟩
      exact ⟨S1, S2, k1, k2, k3, k4, (only_of_below (below_drew W) _).trans k5⟩
    go_cut [6] (fun x v2 => ∃ b2, x = .pointer (some ⟨b2, 0, none⟩) ∧ Hid (TwoL W v2 bq b2 (putF f (tAt ks q) (k, v)).1 (putF f (tAt ks q) (k, v)).2 (SS q)))
    case first =>
      go_region_with (go_at_call 56; refine (IH.out false (SS q) bq (tAt ks q) k v _ (HLK.out.kept (below_drew _)) HSK.out HKG.out).mono ?_; rintro e w2 ⟨b2, rfl, htwo⟩)
      all_goals (go_wp2_with fail; go_meet)
      all_goals exact ⟨_, rfl, HTW.out _ _ htwo⟩
    case rest =>
      obtain ⟨b2, rfl, HT⟩ := hcut
      clear c1 cq p0' p1' HTW
      obtain ⟨S1, S2, hT1, hT2, hT3, hT4, hT5⟩ := HT.out
      clear HT
      have HBR := hid (HOUT.out)
      have HBA := hid (fun (w' : World) h1 => isBare_any S2 b2 (putF f (tAt ks q) (k, v)).2 w' h1 (Nat.le_trans (small_out HOUT.out) (by omega)))
      generalize hrr : putF f (tAt ks q) (k, v) = rr at *
      clear hrr
      have HK := hid (HLB.out.kid HS1.out (by rw [HNK.out]; exact HQ.out) (by rw [HBQ.out]; exact hT1) (fun x hx => hT4 x (.inl hx)) hT5)
      have HON : Hid (Only S w wc) := (only_of_below HB1.out S).then hT5 (fun x hx h => (HLB.out.hSS q (by rw [HNK.out]; exact HQ.out) x h).1)
      have HSL : Hid (∀ y, S y ∨ S1 y → (S y ∨ w.heap.size ≤ y) ∧ y < wc.heap.size) := by
        have hsz1 := HB1.out.size
        have hsz2 := hT5.size
        rintro y (h | h)
        · have := HSW.out y h; exact ⟨.inl h, by omega⟩
        · refine ⟨?_, (hT4 y (.inl h)).2⟩
          rcases (hT4 y (.inl h)).1 with h2 | h2
          · exact .inl (HLB.out.hSS q (by rw [HNK.out]; exact HQ.out) y h2).1
          · right; omega
      have HF2 : Hid (∀ y, S2 y → (S y ∨ w.heap.size ≤ y) ∧ y < wc.heap.size) := by
        have hsz1 := HB1.out.size
        intro y h
        refine ⟨?_, (hT4 y (.inr h)).2⟩
        rcases (hT4 y (.inr h)).1 with h2 | h2
        · exact .inl (HLB.out.hSS q (by rw [HNK.out]; exact HQ.out) y h2).1
        · right; omega
      have HAP : Hid (∀ y, S2 y → y ≠ b ∧ pv.ownBlock ≠ some y ∧ (Value.slice (some ⟨g, off, none⟩) nk ck).ownBlock ≠ some y) := by
        intro y h
        rcases (hT4 y (.inr h)).1 with h2 | h2
        · exact (HLB.out.hSS q (by rw [HNK.out]; exact HQ.out) y h2).2
        · refine ⟨fun e => ?_, fun e => ?_, fun e => ?_⟩
          · have := HLB.out.hB.lt; omega
          · have := HS1.out y (HLB.out.hPS y e).1; omega
          · have := HS1.out y (HLB.out.hKS y e).1; omega
      have HAK : Hid (∀ i, i < (ks.set q rr.1).length → ∀ y, (if i = q then S1 else SS i) y → ¬ S2 y) := by
        intro i hi y hy h
        rw [List.length_set] at hi
        by_cases e : i = q
        · rw [if_pos e] at hy; exact hT3 y hy h
        · rw [if_neg e] at hy
          rcases (hT4 y (.inr h)).1 with h2 | h2
          · exact HLB.out.hD i q hi (by rw [HNK.out]; exact HQ.out) e y hy h2
          · have := HS1.out y (HLB.out.hSS i hi y hy).1; omega
      have HT2 := hid hT2
      clear hT1 hT2 hT3 hT4 hT5 HLB HS1 HSK HLK HL1 HB1 IH HKG
      go_wp2_with fail
      refine (HBA.out _ HT2.out).mono ?_
      rintro e w9 ⟨rfl, n2, rfl⟩
      have HK2 := hid (HK.out.kept (below_dn wc n2))
      have HT3 := hid (HT2.out.kept (below_dn wc n2))
      have HON2 : Hid (Only S w (wc.drewN n2)) := HON.out.trans (only_of_below (below_dn wc n2) _)
      have HSL2 : Hid (∀ y, S y ∨ S1 y → (S y ∨ w.heap.size ≤ y) ∧ y < (wc.drewN n2).heap.size) := HSL.out
      have HF3 : Hid (∀ y, S2 y → (S y ∨ w.heap.size ≤ y) ∧ y < (wc.drewN n2).heap.size) := HF2.out
      generalize hX : wc.drewN n2 = X at *
      clear hX HK HT2 HON HSL HF2 HBA
      have x1 := HK2.out.hB.cell (j := 1) rfl
      cases hbr : rr.2.bare with
      | true =>
        have HKS : Hid (insK ks q rr = ks.set q rr.1) := by show _ = _; rw [insK, if_pos hbr]
        have HTG2 := hid (HTG.out (fun y => S y ∨ S1 y) (.mk ps (ks.set q rr.1)) X HK2.out.limb (fun x hx => (HSL2.out x hx).2) HPL.out (by have := HLEN.out rr; rw [HKS.out] at this; exact this))
        clear hbr
        go_wp2_with fail
        refine HTG2.out.mono ?_
        rintro e w2 ⟨rfl, h2⟩
        have H4 := hid h2
        clear h2
        go_wp2
        go_ret
        exact put_end HSL2.out HON2.out H4.out (by rw [HF.out, HKS.out])
      | false =>
        have HKS : Hid (insK ks q rr = (ks.set q rr.1).take (q + 1) ++ [rr.2] ++ (ks.set q rr.1).drop (q + 1)) := by show _ = _; rw [insK, if_neg (by rw [hbr]; simp)]
        have hsl : (ks.set q rr.1).length = nk := by rw [List.length_set, HNK.out]
        have HK3 := hid HK2.out.hK
        rw [hsl] at HK3
        have hbn := below_new (o := .cells #[ptr b2] 59) (w := X) (Below.refl _ _)
        have HBN := hid hbn
        have hne1 : (Value.slice (some ⟨g, off, none⟩) nk ck).ownBlock ≠ some b := fun e => (HK2.out.hKS b e).2.1 rfl
        have HNE := hid hne1
        have HIN := hid (insertL_any (.slice (some ⟨g, off, none⟩) nk ck) nk (q + 1) X.heap.size 0 (ptrs A nk) [ptr b2] (X.alloc (.cells #[ptr b2] 59)) (own_kept HK3.out (only_of_below hbn (fun _ => False)) (fun _ _ h => h)) (Nat.zero_le _) (by have := HQ.out; omega) (by have := HKL.out; omega) (Bk.new X 59 [ptr b2]) rfl (ptrs_one A nk) (by intro u hu; simp at hu; subst hu; rfl) (fun e => by have := (World.ownsRow.lt HK3.out _ e).2; omega))
        rw [show ((q + 1 : Nat) : Int) = (q : Int) + 1 by omega] at HIN
        have KB := hid (HK2.out.hB.below hbn)
        have HFIN : Hid (∀ (a3 : Option Addr) (c3 : Nat) (w3 : World), w3.ownsRow 0 59 1 (.slice a3 (nk + 1) c3) (nk + 1) ((ptrs A nk).take (q + 1) ++ [ptr b2] ++ (ptrs A nk).drop (q + 1)) → (X.alloc (.cells #[ptr b2] 59)).grownBy w3 (Value.slice (some ⟨g, off, none⟩) nk ck).ownBlock →
            ((Value.slice a3 (nk + 1) c3).ownBlock = (Value.slice (some ⟨g, off, none⟩) nk ck).ownBlock ∨ ∃ z, (Value.slice a3 (nk + 1) c3).ownBlock = some z ∧ (X.alloc (.cells #[ptr b2] 59)).heap.size ≤ z) → OneL X (w3.setCell ⟨b, 1, none⟩ (.slice a3 (nk + 1) c3)) b (.mk ps (insK ks q rr)) (fun y => (S y ∨ S1 y) ∨ S2 y)) := by
          intro a3 c3 w3 hO3 hg3 hw3
          have hbl := HK2.out.hB.lt
          have hne3 : (Value.slice a3 (nk + 1) c3).ownBlock ≠ some b := by
            rcases hw3 with e | ⟨z, e, hz⟩
            · rw [e]; exact hne1
            · rw [e]; intro h; cases h; simp at hz; omega
          rw [HKS.out]
          refine HK2.out.ins (fun x hx => (HSL2.out x hx).2) (by rw [hsl]; have := HQ.out; omega) HT3.out (fun x hx => ⟨(HAP.out x hx).1, (HAP.out x hx).2.1, (HAP.out x hx).2.2, (HF3.out x hx).2⟩) HAK.out ((bk_grown KB.out hg3 hne1).set 1 _) ?_ ?_ ?_
          · rw [hsl]; exact own_kept hO3 (only_set (R := fun y => y = b) rfl _) (fun z e h => hne3 (h ▸ e))
          · exact ((only_of_below hbn _).trans (only_of_grown hg3 (R := fun y => y = b ∨ (Value.slice (some ⟨g, off, none⟩) nk ck).ownBlock = some y) (fun z e => .inr e))).trans (only_set (R := fun y => y = b ∨ (Value.slice (some ⟨g, off, none⟩) nk ck).ownBlock = some y) (.inl rfl) _)
          · rcases hw3 with e | ⟨z, e, hz⟩
            · exact .inl e
            · exact .inr ⟨z, e, Nat.le_trans hbn.size hz⟩
        simp only [ptr] at HIN HFIN KB
        clear hbn hne1 hsl HK3 hbr
        have hq9 : (q : Int) ≤ 1000 := by have := HKL.out; omega
        go_wp2_with fail
        refine HIN.out.mono ?_
        rintro e w3 ⟨a3, c3, rfl, hO3, hg3, hw3⟩
        have e0 := (bk_grown KB.out hg3 HNE.out).cell (j := 1) rfl
        have e1 := (bk_grown KB.out hg3 HNE.out).free 1
        obtain ⟨S', k1, k2, k3⟩ := HFIN.out a3 c3 w3 hO3 hg3 hw3
        have HE1 := hid k1
        have HE2 : Hid (∀ y, S' y → (S y ∨ w.heap.size ≤ y) ∧ y < (w3.setCell ⟨b, 1, none⟩ (.slice a3 (nk + 1) c3)).heap.size) := by
          have hsz := HON2.out.size
          intro y hy
          refine ⟨?_, (k2 y hy).2⟩
          rcases (k2 y hy).1 with (h | h) | h
          · exact (HSL2.out y h).1
          · exact (HF3.out y h).1
          · right; omega
        have HE3 : Hid (Only S w (w3.setCell ⟨b, 1, none⟩ (.slice a3 (nk + 1) c3))) := by
          refine HON2.out.then k3 ?_
          rintro y hy (h | h)
          · rcases (HSL2.out y h).1 with h | h
            · exact h
            · omega
          · rcases (HF3.out y h).1 with h | h
            · exact h
            · omega
        have HTG2 := hid (HTG.out S' _ _ k1 (fun x hx => (k2 x hx).2) HPL.out (HLEN.out rr))
        have HZ : Hid ((w3.setCell ⟨b, 1, none⟩ (.slice a3 (nk + 1) c3)).heap.size = w3.heap.size) := by show _ = _; simp [World.setCell]
        rw [HZ.out] at HTG2
        clear k1 k2 k3 hO3 hg3 hw3 HFIN HIN
        go_wp2_with fail
        refine HTG2.out.mono ?_
        rintro e w2 ⟨rfl, h2⟩
        have H4 := hid h2
        clear h2
        go_wp2
        go_ret
        have H5 := put_end HE2.out HE3.out (by rw [HZ.out]; exact H4.out) HF.out
        rw [HZ.out] at H5
        exact H5
end Go.Proofs.YtkfeefaokghibabGreat
/-
  mend: two neighbouring kids are put together.
-/
namespace Go.Proofs.YtkfeefaokghibabGreat
open Go.RowKit
/-- Two kids have turned; all else is as it was. -/
theorem LB.kid2 {w w' : World} {S : Nat → Prop} {b : Nat} {pv kv : Value} {ps : List PB} {ks : List T} {A : Nat → Nat} {SS : Nat → Nat → Prop} (h : LB w S b pv kv ps ks A SS) (hS : ∀ x, S x → x < w.heap.size) {p q : Nat} (hp : p < ks.length) (hq : q < ks.length) (hpq : p ≠ q) {S1 S2 : Nat → Prop} {t1 t2 : T} (hL1 : Limb w' S1 (A p) t1) (hL2 : Limb w' S2 (A q) t2) (h12 : ∀ x, S1 x → ¬ S2 x)
    (h1 : ∀ x, S1 x ∨ S2 x → ((SS p x ∨ SS q x) ∨ w.heap.size ≤ x) ∧ x < w'.heap.size) (hon : Only (fun x => SS p x ∨ SS q x) w w') :
    LB w' (fun x => S x ∨ S1 x ∨ S2 x) b pv kv ps ((ks.set p t1).set q t2) A (fun i => if i = q then S2 else if i = p then S1 else SS i) := by
  obtain ⟨hb, hB, hP, hK, hPS, hKS, hSS, hD, hk⟩ := h
  have hPl := World.ownsRow.lt hP
  have hKl := World.ownsRow.lt hK
  have hin : ∀ x, SS p x ∨ SS q x → S x ∧ x ≠ b ∧ pv.ownBlock ≠ some x ∧ kv.ownBlock ≠ some x := fun x h => h.elim (hSS p hp x) (hSS q hq x)
  have hnew : ∀ x, S1 x ∨ S2 x → x ≠ b ∧ pv.ownBlock ≠ some x ∧ kv.ownBlock ≠ some x := by
    intro x hx
    rcases (h1 x hx).1 with h | h
    · exact (hin x h).2
    · refine ⟨fun h' => ?_, fun h' => ?_, fun h' => ?_⟩
      · have := hS b hb; omega
      · have := (hPl x h').2; omega
      · have := (hKl x h').2; omega
  have hfar : ∀ i, i < ks.length → i ≠ p → i ≠ q → ∀ x, SS i x → ¬ (S1 x ∨ S2 x) := by
    intro i hi e1 e2 x hx hy
    rcases (h1 x hy).1 with (h | h) | h
    · exact hD i p hi hp e1 x hx h
    · exact hD i q hi hq e2 x hx h
    · have := hS x (hSS i hi x hx).1; omega
  have hl : ((ks.set p t1).set q t2).length = ks.length := by rw [List.length_set, List.length_set]
  refine ⟨.inl hb, hB.to hon (fun h => (hin b h).2.1 rfl), own_kept hP hon (fun k e h => (hin k h).2.2.1 e), by rw [hl]; exact own_kept hK hon (fun k e h => (hin k h).2.2.2 e), fun x hx => ⟨.inl (hPS x hx).1, (hPS x hx).2⟩, fun x hx => ⟨.inl (hKS x hx).1, (hKS x hx).2⟩, ?_, ?_, ?_⟩
  · intro i hi x hx
    rw [hl] at hi
    by_cases e : i = q
    · rw [if_pos e] at hx; exact ⟨.inr (.inr hx), hnew x (.inr hx)⟩
    · rw [if_neg e] at hx
      by_cases e2 : i = p
      · rw [if_pos e2] at hx; exact ⟨.inr (.inl hx), hnew x (.inl hx)⟩
      · rw [if_neg e2] at hx; exact ⟨.inl (hSS i hi x hx).1, (hSS i hi x hx).2⟩
  · intro i j hi hj hij x hx hy
    rw [hl] at hi hj
    by_cases e : i = q
    · rw [if_pos e] at hx
      rw [if_neg (by omega)] at hy
      by_cases e2 : j = p
      · rw [if_pos e2] at hy; exact h12 x hy hx
      · rw [if_neg e2] at hy; exact hfar j hj e2 (by omega) x hy (.inr hx)
    · rw [if_neg e] at hx
      by_cases e2 : i = p
      · rw [if_pos e2] at hx
        by_cases e3 : j = q
        · rw [if_pos e3] at hy; exact h12 x hx hy
        · rw [if_neg e3, if_neg (by omega)] at hy; exact hfar j hj (by omega) e3 x hy (.inl hx)
      · rw [if_neg e2] at hx
        by_cases e3 : j = q
        · rw [if_pos e3] at hy; exact hfar i hi e2 e x hx (.inr hy)
        · rw [if_neg e3] at hy
          by_cases e4 : j = p
          · rw [if_pos e4] at hy; exact hfar i hi e2 e x hx (.inl hy)
          · rw [if_neg e4] at hy; exact hD i j hi hj hij x hx hy
  · intro i hi
    rw [hl] at hi
    by_cases e : i = q
    · subst e
      rw [if_pos rfl, show tAt ((ks.set p t1).set i t2) i = t2 by simp [tAt, hi]]
      exact hL2
    · rw [if_neg e, show tAt ((ks.set p t1).set q t2) i = tAt (ks.set p t1) i by simp [tAt, Ne.symm e]]
      by_cases e2 : i = p
      · subst e2
        rw [if_pos rfl, show tAt (ks.set i t1) i = t1 by simp [tAt, hi]]
        exact hL1
      · rw [if_neg e2, show tAt (ks.set p t1) i = tAt ks i by simp [tAt, Ne.symm e2]]
        exact (hk i hi).to hon (fun x hx h => h.elim (hD i p hi hp e2 x hx) (hD i q hi hq e x hx))
theorem ptrs_del (A : Nat → Nat) (n p : Nat) (h : p ≤ n) : (ptrs A (n + 1)).take p ++ (ptrs A (n + 1)).drop (p + 1) = ptrs (fun i => if i < p then A i else A (i + 1)) n := by
  apply List.ext_getElem?
  intro i
  by_cases hi : i < p
  · rw [List.getElem?_append_left (by simp [ptrs]; omega), List.getElem?_take, if_pos hi, ptrs_at _ _ _ (by omega), ptrs_at _ _ _ (by omega), if_pos hi]
  · rw [List.getElem?_append_right (by simp [ptrs]; omega), List.getElem?_drop]
    have : p + 1 + (i - (List.take p (ptrs A (n + 1))).length) = i + 1 := by simp [ptrs]; omega
    rw [this]
    by_cases hn : i < n
    · rw [ptrs_at _ _ _ (by omega), ptrs_at _ _ _ hn, if_neg hi]
    · rw [List.getElem?_eq_none (by simp [ptrs]; omega), List.getElem?_eq_none (by simp [ptrs]; omega)]
theorem tAt_del (ks : List T) (p : Nat) (h : p < ks.length) (i : Nat) : tAt (ks.take p ++ ks.drop (p + 1)) i = if i < p then tAt ks i else tAt ks (i + 1) := by
  have hl : (ks.take p).length = p := by rw [List.length_take]; omega
  by_cases hi : i < p
  · rw [tAt_app1 (by omega), tAt_take hi, if_pos hi]
  · rw [tAt_app2 (by omega), tAt_drop, hl, if_neg hi]
    congr 1; omega
/-- A kid is taken out. -/
theorem LB.del {w w' : World} {S : Nat → Prop} {b g c n : Nat} {pv : Value} {ps : List PB} {ks : List T} {A : Nat → Nat} {SS : Nat → Nat → Prop} (h : LB w S b pv (.slice (some ⟨g, 0, none⟩) (n + 1) c) ps ks A SS) (hS : ∀ x, S x → x < w.heap.size) {p : Nat} (hp : p < ks.length) (hn : ks.length = n + 1) (hB' : Bk w' b 93 [pv, .slice (some ⟨g, 0, none⟩) n c])
    (hK' : w'.ownsRow 0 59 1 (.slice (some ⟨g, 0, none⟩) n c) n ((ptrs A (n + 1)).take p ++ (ptrs A (n + 1)).drop (p + 1))) (hon : Only (fun y => y = b ∨ y = g) w w') :
    OneL w w' b (.mk ps (ks.take p ++ ks.drop (p + 1))) S := by
  obtain ⟨hb, hB, hP, hK, hPS, hKS, hSS, hD, hk⟩ := h
  have hl : (ks.take p ++ ks.drop (p + 1)).length = n := by rw [List.length_append, List.length_take, List.length_drop]; omega
  have hg := hKS g rfl
  rw [ptrs_del _ _ _ (by omega)] at hK'
  have hsz := hon.size
  have hin : ∀ i, i < n → (if i < p then i else i + 1) < ks.length := by intro i hi; split <;> omega
  refine ⟨S, .mk S b pv (.slice (some ⟨g, 0, none⟩) n c) ps _ (fun i => if i < p then A i else A (i + 1)) (fun i => SS (if i < p then i else i + 1)) hb hB' (own_kept hP hon ?_) (by rw [hl]; exact hK') hPS (fun x hx => hKS x hx) ?_ ?_ ?_, fun x hx => ⟨.inl hx, by have := hS x hx; omega⟩, hon.mono ?_⟩
  · rintro k e (h | h)
    · exact (hPS k e).2 h
    · exact hg.2.2 (h ▸ e)
  · intro i hi x hx
    rw [hl] at hi
    exact hSS _ (hin i hi) x hx
  · intro i j hi hj hij x hx hy
    rw [hl] at hi hj
    exact hD _ _ (hin i hi) (hin j hj) (by split <;> split <;> omega) x hx hy
  · intro i hi
    rw [hl] at hi
    rw [tAt_del _ _ hp]
    have key := hk _ (hin i hi)
    have h2 := hSS _ (hin i hi)
    by_cases c1 : i < p
    · simp only [c1, if_true] at key h2 ⊢
      exact key.to hon (fun x hx h => h.elim (h2 x hx).2.1 (fun e => (h2 x hx).2.2.2 (by rw [e]; rfl)))
    · simp only [c1, if_false] at key h2 ⊢
      exact key.to hon (fun x hx h => h.elim (h2 x hx).2.1 (fun e => (h2 x hx).2.2.2 (by rw [e]; rfl)))
  · rintro x - (h | h)
    · exact h ▸ hb
    · exact h ▸ hg.1
/-- The kid at i is put together with the one ahead of it; the first with the second. -/
def mendK (ks : List T) (i : Nat) : List T :=
  if (shT (tAt ks (max i 1 - 1)) (tAt ks (max i 1))).2.bare = true then ((ks.set (max i 1 - 1) (shT (tAt ks (max i 1 - 1)) (tAt ks (max i 1))).1).set (max i 1) (shT (tAt ks (max i 1 - 1)) (tAt ks (max i 1))).2).take (max i 1) ++ ((ks.set (max i 1 - 1) (shT (tAt ks (max i 1 - 1)) (tAt ks (max i 1))).1).set (max i 1) (shT (tAt ks (max i 1 - 1)) (tAt ks (max i 1))).2).drop (max i 1 + 1)
  else (ks.set (max i 1 - 1) (shT (tAt ks (max i 1 - 1)) (tAt ks (max i 1))).1).set (max i 1) (shT (tAt ks (max i 1 - 1)) (tAt ks (max i 1))).2
set_option maxHeartbeats 2000000 in
set_option maxRecDepth 20000 in
theorem mend_any (S : Nat → Prop) (b i : Nat) (ps : List PB) (ks : List T) (w : World) (hL : Limb w S b (.mk ps ks)) (hS : ∀ x, S x → x < w.heap.size) (hi : i < ks.length) (h2 : 2 ≤ ks.length) (h8 : ks.length ≤ 1000) (hsm : ∀ x ∈ ks, x.ps.length ≤ 1000 ∧ x.ks.length ≤ 1000) :
    Calls Tryz.prog 87 #[.pointer (some ⟨b, 0, none⟩), .int .i64 (i : Int)] w fun e w' => e = .returned (.tuple #[]) ∧ OneL w w' b (.mk ps (mendK ks i)) S := by
  obtain ⟨s, hs⟩ : ∃ s, max i 1 = s + 1 := ⟨max i 1 - 1, by omega⟩
  have hsl : s + 1 < ks.length := by omega
  have HMK : Hid (mendK ks i = if (shT (tAt ks s) (tAt ks (s + 1))).2.bare = true then ((ks.set s (shT (tAt ks s) (tAt ks (s + 1))).1).set (s + 1) (shT (tAt ks s) (tAt ks (s + 1))).2).take (s + 1) ++ ((ks.set s (shT (tAt ks s) (tAt ks (s + 1))).1).set (s + 1) (shT (tAt ks s) (tAt ks (s + 1))).2).drop (s + 1 + 1) else (ks.set s (shT (tAt ks s) (tAt ks (s + 1))).1).set (s + 1) (shT (tAt ks s) (tAt ks (s + 1))).2) := by
    show _ = _; unfold mendK; rw [hs]; rfl
  obtain ⟨pv, kv, A, SS, lb⟩ := hL.lb
  obtain ⟨n, hn⟩ : ∃ n, ks.length = n + 1 := ⟨ks.length - 1, by omega⟩
  obtain ⟨g, ck, e5⟩ : ∃ g c, kv = .slice (some ⟨g, 0, none⟩) (n + 1) c := by
    rcases lb.hK.2 with ⟨_, h0⟩ | ⟨g, c, cur, e, _⟩
    · omega
    · exact ⟨g, c, by rw [e, hn]⟩
  subst e5
  have c1 := lb.hB.cell (j := 1) rfl
  have hrow := (rw_own lb.hK (S := fun _ => True) (fun _ _ _ _ => trivial))
  obtain ⟨g', off, hak, _, _, hcell⟩ := hrow.at (by omega)
  cases hak
  have cs := hcell s _ (ptrs_at A _ s (by omega))
  have cs1 := hcell (s + 1) _ (ptrs_at A _ (s + 1) hsl)
  simp only [ptr, Nat.zero_add] at cs cs1
  have hm0 := hsm _ (tAt_mem (show s < ks.length by omega))
  have hm1 := hsm _ (tAt_mem hsl)
  have HTG := hid (fun (w' : World) (hb : Below w.heap.size w w') => together_any (SS s) (SS (s + 1)) (A s) (A (s + 1)) (tAt ks s) (tAt ks (s + 1)) w' ((lb.hk s (by omega)).kept hb) ((lb.hk (s + 1) hsl).kept hb) (lb.hD s (s + 1) (by omega) hsl (by omega)) (fun x hx => Nat.lt_of_lt_of_le (hS x (lb.hSS s (by omega) x hx).1) hb.size) (fun x hx => Nat.lt_of_lt_of_le (hS x (lb.hSS (s + 1) hsl x hx).1) hb.size) (by rw [List.length_append]; omega) (by rw [List.length_append]; omega))
  have HLB := hid lb
  have HS := hid hS
  have HN := hid hn
  have HSL := hid hsl
  have hsn : (s : Int) + 1 < (n : Int) + 1 := by omega
  have hs0 : (0 : Int) ≤ (s : Int) := by omega
  have hs9 : (s : Int) ≤ 1000 := by omega
  have hsm2 : (shT (tAt ks s) (tAt ks (s + 1))).2.ps.length + (shT (tAt ks s) (tAt ks (s + 1))).2.ks.length ≤ 1048576 := by
    have := shT_small (tAt ks s) (tAt ks (s + 1)); omega
  have HSM := hid hsm2
  have HN8 : Hid (n ≤ 1048576) := by show _ ≤ _; omega
  clear hL hS hi h2 h8 hsm lb hn hsl hrow hcell hm0 hm1 hsm2
  have hsp : ((s : Int) + 1 - 1) = (s : Int) := by omega
  have HTW : Hid (∀ (w2 : World), TwoL w.drew w2 (A s) (A (s + 1)) (shT (tAt ks s) (tAt ks (s + 1))).1 (shT (tAt ks s) (tAt ks (s + 1))).2 (fun x => SS s x ∨ SS (s + 1) x) → TwoL w w2 (A s) (A (s + 1)) (shT (tAt ks s) (tAt ks (s + 1))).1 (shT (tAt ks s) (tAt ks (s + 1))).2 (fun x => SS s x ∨ SS (s + 1) x)) := by
    rintro w2 ⟨S1, S2, k1, k2, k3, k4, k5⟩
    exact ⟨S1, S2, k1, k2, k3, k4, (only_of_below (below_drew w) _).trans k5⟩
  rcases Nat.eq_zero_or_pos i with h0 | h0
  · have hs1 : s = 0 := by omega
    subst h0 hs1
    clear hs
    simp only [Nat.zero_add] at HMK HTG HSL HSM HTW cs1
    have hnn : (1 : Int) < (n : Int) + 1 := by omega
    have h01 : ((0 : Nat) : Int) < 1 := by omega
    have hnp : (0 : Int) < (n : Int) + 1 := by omega
    have hwr : IntKind.i64.wrap (0 : Int) = 0 := by rw [IntKind.wrap_i64]; omega
    go_enter Tryz.func87, Tryz.ntmps87
    go_wp2_with fail
    go_cut [4] (fun x v => x = .int .i64 (1) ∧ Hid (TwoL w v (A (0)) (A (1)) (shT (tAt ks (0)) (tAt ks (1))).1 (shT (tAt ks (0)) (tAt ks (1))).2 (fun x => SS (0) x ∨ SS (1) x)))
    case first =>
      go_region_with (go_at_call 90; refine (HTG.out _ (below_drew _)).mono ?_; rintro e w2 ⟨rfl, htwo⟩)
      all_goals (go_wp2_with fail; go_meet)
      all_goals exact ⟨rfl, HTW.out _ htwo⟩
    case rest =>
      obtain ⟨rfl, HT⟩ := hcut
      clear HTW HTG cs cs1 c1
      obtain ⟨S1, S2, k1, k2, k3, k4, k5⟩ := HT.out
      have HK := hid (HLB.out.kid2 HS.out (by have := HSL.out; omega) HSL.out (by omega) k1 k2 k3 k4 k5)
      have HON : Hid (Only S w wc) := k5.mono (fun x _ h => h.elim (fun h => (HLB.out.hSS _ (by have := HSL.out; omega) x h).1) (fun h => (HLB.out.hSS _ HSL.out x h).1))
      have HSB : Hid (∀ x, S x ∨ S1 x ∨ S2 x → (S x ∨ w.heap.size ≤ x) ∧ x < wc.heap.size) := by
        have hsz := k5.size
        rintro x (h | h)
        · exact ⟨.inl h, by have := HS.out x h; omega⟩
        · refine ⟨?_, (k4 x h).2⟩
          rcases (k4 x h).1 with (h | h) | h
          · exact .inl (HLB.out.hSS _ (by have := HSL.out; omega) x h).1
          · exact .inl (HLB.out.hSS _ HSL.out x h).1
          · exact .inr h
      have HBA := hid (fun (w' : World) h1 => isBare_any S2 (A (1)) (shT (tAt ks (0)) (tAt ks (1))).2 w' h1 HSM.out)
      have HT2 := hid k2
      clear HT k1 k2 k3 k4 k5
      generalize hrr : shT (tAt ks (0)) (tAt ks (1)) = rr at *
      clear hrr
      have hlen : ((ks.set (0) rr.1).set (1) rr.2).length = n + 1 := by rw [List.length_set, List.length_set]; exact HN.out
      have HLEN := hid hlen
      have d1 := HK.out.hB.cell (j := 1) rfl
      obtain ⟨g9, off9, hak9, _, _, hcell9⟩ := (rw_own HK.out.hK (S := fun _ => True) (fun _ _ _ _ => trivial)).at (by omega)
      cases hak9
      have d2 := hcell9 (1) _ (ptrs_at A _ (1) (by have := HSL.out; have := HN.out; omega))
      simp only [ptr, Nat.zero_add] at d2
      clear hcell9 hlen
      go_wp2_with fail
      refine (HBA.out _ HT2.out).mono ?_
      rintro e w9 ⟨rfl, n2, rfl⟩
      have HK2 := hid (HK.out.kept (below_dn wc n2))
      have HON2 : Hid (Only S w (wc.drewN n2)) := HON.out.trans (only_of_below (below_dn wc n2) _)
      have HSB2 : Hid (∀ x, S x ∨ S1 x ∨ S2 x → (S x ∨ w.heap.size ≤ x) ∧ x < (wc.drewN n2).heap.size) := HSB.out
      generalize hX : wc.drewN n2 = X at *
      clear hX HK HT2 HON HSB HBA d1 d2
      have x1 := HK2.out.hB.cell (j := 1) rfl
      cases hbr : rr.2.bare with
      | true =>
        have HKS : Hid (mendK ks 0 = ((ks.set (0) rr.1).set (1) rr.2).take (1) ++ ((ks.set (0) rr.1).set (1) rr.2).drop (1 + 1)) := by show _ = _; rw [HMK.out, if_pos hbr]
        have HK3 := hid HK2.out.hK
        rw [HLEN.out] at HK3
        have HDL := hid (deleteL_any (.slice (some ⟨g, 0, none⟩) (n + 1) ck) n (1) 0 (ptrs A (n + 1)) X HK3.out (by have := HSL.out; have := HN.out; omega) HN8.out (ptrs_one A (n + 1)))
        have hne1 : g ≠ b := fun e => (HK2.out.hKS g rfl).2.1 e
        have HNE := hid hne1
        have KB := hid HK2.out.hB
        clear hbr hne1
        go_wp2_with fail
        refine HDL.out.mono ?_
        rintro e w3 ⟨g3, c3, hv3, rfl, hO3, ho3⟩
        cases hv3
        have K3 := KB.out.to ho3 (fun e => HNE.out e.symm)
        have e0 := K3.cell (j := 1) rfl
        have e1 := K3.free 1
        have HFIN : Hid (OneL w (w3.setCell ⟨b, 1, none⟩ (.slice (some ⟨g, 0, none⟩) n ck)) b (.mk ps (mendK ks 0)) S) := by
          have hon : Only (fun y => y = b ∨ y = g) X (w3.setCell ⟨b, 1, none⟩ (.slice (some ⟨g, 0, none⟩) n ck)) := (ho3.mono (fun y _ e => .inr e)).trans (only_set (R := fun y => y = b ∨ y = g) (.inl rfl) _)
          have h1 := HK2.out.del (fun x hx => (HSB2.out x hx).2) (p := 1) (by rw [HLEN.out]; have := HSL.out; have := HN.out; omega) HLEN.out (K3.set 1 _) (own_kept hO3 (only_set (R := fun y => y = b) rfl _) (fun k e h => HNE.out (by simpa [Value.ownBlock, h] using e))) hon
          rw [HKS.out]
          obtain ⟨S', j1, j2, j3⟩ := h1
          have hsz := HON2.out.size
          refine ⟨S', j1, fun x hx => ⟨?_, (j2 x hx).2⟩, HON2.out.then j3 (fun x hx h => ?_)⟩
          · rcases (j2 x hx).1 with h | h
            · exact (HSB2.out x h).1
            · right; omega
          · rcases (HSB2.out x h).1 with h | h
            · exact h
            · omega
        clear hO3 ho3 K3 HDL
        go_wp2
        go_end0
        exact ⟨rfl, HFIN.out⟩
      | false =>
        have HKS : Hid (mendK ks 0 = (ks.set (0) rr.1).set (1) rr.2) := by show _ = _; rw [HMK.out, if_neg (by rw [hbr]; simp)]
        have HFIN : Hid (OneL w X b (.mk ps (mendK ks 0)) S) := by
          show OneL _ _ _ _ _
          rw [HKS.out]
          exact ⟨_, HK2.out.limb, fun x hx => HSB2.out x hx, HON2.out⟩
        clear hbr
        go_wp2
        go_end0
        exact ⟨rfl, HFIN.out⟩
  · have hs1 : i = s + 1 := by omega
    subst hs1
    have h01 : ¬ (s : Int) + 1 < 1 := by omega
    have hnp : (s : Int) < (n : Int) + 1 := by omega
    have hwr : IntKind.i64.wrap (s : Int) = (s : Int) := by rw [IntKind.wrap_i64]; omega
    have hwr2 : IntKind.i64.wrap ((s : Int) + 1 - 1) = (s : Int) := by rw [IntKind.wrap_i64]; omega
    clear hs h0
    go_enter Tryz.func87, Tryz.ntmps87
    go_wp2_with fail
    go_cut [4] (fun x v => x = .int .i64 ((s : Int) + 1) ∧ Hid (TwoL w v (A (s)) (A (s + 1)) (shT (tAt ks (s)) (tAt ks (s + 1))).1 (shT (tAt ks (s)) (tAt ks (s + 1))).2 (fun x => SS (s) x ∨ SS (s + 1) x)))
    case first =>
      go_region_with (go_at_call 90; refine (HTG.out _ (below_drew _)).mono ?_; rintro e w2 ⟨rfl, htwo⟩)
      all_goals (go_wp2_with fail; go_meet)
      all_goals exact ⟨rfl, HTW.out _ htwo⟩
    case rest =>
      obtain ⟨rfl, HT⟩ := hcut
      clear HTW HTG cs cs1 c1
      obtain ⟨S1, S2, k1, k2, k3, k4, k5⟩ := HT.out
      have HK := hid (HLB.out.kid2 HS.out (by have := HSL.out; omega) HSL.out (by omega) k1 k2 k3 k4 k5)
      have HON : Hid (Only S w wc) := k5.mono (fun x _ h => h.elim (fun h => (HLB.out.hSS _ (by have := HSL.out; omega) x h).1) (fun h => (HLB.out.hSS _ HSL.out x h).1))
      have HSB : Hid (∀ x, S x ∨ S1 x ∨ S2 x → (S x ∨ w.heap.size ≤ x) ∧ x < wc.heap.size) := by
        have hsz := k5.size
        rintro x (h | h)
        · exact ⟨.inl h, by have := HS.out x h; omega⟩
        · refine ⟨?_, (k4 x h).2⟩
          rcases (k4 x h).1 with (h | h) | h
          · exact .inl (HLB.out.hSS _ (by have := HSL.out; omega) x h).1
          · exact .inl (HLB.out.hSS _ HSL.out x h).1
          · exact .inr h
      have HBA := hid (fun (w' : World) h1 => isBare_any S2 (A (s + 1)) (shT (tAt ks (s)) (tAt ks (s + 1))).2 w' h1 HSM.out)
      have HT2 := hid k2
      clear HT k1 k2 k3 k4 k5
      generalize hrr : shT (tAt ks (s)) (tAt ks (s + 1)) = rr at *
      clear hrr
      have hlen : ((ks.set (s) rr.1).set (s + 1) rr.2).length = n + 1 := by rw [List.length_set, List.length_set]; exact HN.out
      have HLEN := hid hlen
      have d1 := HK.out.hB.cell (j := 1) rfl
      obtain ⟨g9, off9, hak9, _, _, hcell9⟩ := (rw_own HK.out.hK (S := fun _ => True) (fun _ _ _ _ => trivial)).at (by omega)
      cases hak9
      have d2 := hcell9 (s + 1) _ (ptrs_at A _ (s + 1) (by have := HSL.out; have := HN.out; omega))
      simp only [ptr, Nat.zero_add] at d2
      clear hcell9 hlen
      go_wp2_with fail
      refine (HBA.out _ HT2.out).mono ?_
      rintro e w9 ⟨rfl, n2, rfl⟩
      have HK2 := hid (HK.out.kept (below_dn wc n2))
      have HON2 : Hid (Only S w (wc.drewN n2)) := HON.out.trans (only_of_below (below_dn wc n2) _)
      have HSB2 : Hid (∀ x, S x ∨ S1 x ∨ S2 x → (S x ∨ w.heap.size ≤ x) ∧ x < (wc.drewN n2).heap.size) := HSB.out
      generalize hX : wc.drewN n2 = X at *
      clear hX HK HT2 HON HSB HBA d1 d2
      have x1 := HK2.out.hB.cell (j := 1) rfl
      cases hbr : rr.2.bare with
      | true =>
        have HKS : Hid (mendK ks (s + 1) = ((ks.set (s) rr.1).set (s + 1) rr.2).take (s + 1) ++ ((ks.set (s) rr.1).set (s + 1) rr.2).drop (s + 1 + 1)) := by show _ = _; rw [HMK.out, if_pos hbr]
        have HK3 := hid HK2.out.hK
        rw [HLEN.out] at HK3
        have HDL := hid (deleteL_any (.slice (some ⟨g, 0, none⟩) (n + 1) ck) n (s + 1) 0 (ptrs A (n + 1)) X HK3.out (by have := HSL.out; have := HN.out; omega) HN8.out (ptrs_one A (n + 1)))
        have hne1 : g ≠ b := fun e => (HK2.out.hKS g rfl).2.1 e
        have HNE := hid hne1
        have KB := hid HK2.out.hB
        clear hbr hne1
        go_wp2_with fail
        refine HDL.out.mono ?_
        rintro e w3 ⟨g3, c3, hv3, rfl, hO3, ho3⟩
        cases hv3
        have K3 := KB.out.to ho3 (fun e => HNE.out e.symm)
        have e0 := K3.cell (j := 1) rfl
        have e1 := K3.free 1
        have HFIN : Hid (OneL w (w3.setCell ⟨b, 1, none⟩ (.slice (some ⟨g, 0, none⟩) n ck)) b (.mk ps (mendK ks (s + 1))) S) := by
          have hon : Only (fun y => y = b ∨ y = g) X (w3.setCell ⟨b, 1, none⟩ (.slice (some ⟨g, 0, none⟩) n ck)) := (ho3.mono (fun y _ e => .inr e)).trans (only_set (R := fun y => y = b ∨ y = g) (.inl rfl) _)
          have h1 := HK2.out.del (fun x hx => (HSB2.out x hx).2) (p := s + 1) (by rw [HLEN.out]; have := HSL.out; have := HN.out; omega) HLEN.out (K3.set 1 _) (own_kept hO3 (only_set (R := fun y => y = b) rfl _) (fun k e h => HNE.out (by simpa [Value.ownBlock, h] using e))) hon
          rw [HKS.out]
          obtain ⟨S', j1, j2, j3⟩ := h1
          have hsz := HON2.out.size
          refine ⟨S', j1, fun x hx => ⟨?_, (j2 x hx).2⟩, HON2.out.then j3 (fun x hx h => ?_)⟩
          · rcases (j2 x hx).1 with h | h
            · exact (HSB2.out x h).1
            · right; omega
          · rcases (HSB2.out x h).1 with h | h
            · exact h
            · omega
        clear hO3 ho3 K3 HDL
        go_wp2
        go_end0
        exact ⟨rfl, HFIN.out⟩
      | false =>
        have HKS : Hid (mendK ks (s + 1) = (ks.set (s) rr.1).set (s + 1) rr.2) := by show _ = _; rw [HMK.out, if_neg (by rw [hbr]; simp)]
        have HFIN : Hid (OneL w X b (.mk ps (mendK ks (s + 1))) S) := by
          show OneL _ _ _ _ _
          rw [HKS.out]
          exact ⟨_, HK2.out.limb, fun x hx => HSB2.out x hx, HON2.out⟩
        clear hbr
        go_wp2
        go_end0
        exact ⟨rfl, HFIN.out⟩
end Go.Proofs.YtkfeefaokghibabGreat
/-
  drop: a key is taken out below a limb.
-/
namespace Go.Proofs.YtkfeefaokghibabGreat
open Go.RowKit
def delP (l : List PB) (k : ByteArray) : List PB := if there l k = true then l.take (pos l k) ++ l.drop (pos l k + 1) else l
def T.poor (t : T) : Bool := decide (t.ps.length + t.ks.length < 2)
def dropF : Nat → T → ByteArray → T
  | 0, t, _ => t
  | f + 1, t, k => if t.ks = [] then .mk (delP t.ps k) t.ks else
    if (dropF f (tAt t.ks (kidOf t.ks k)) k).poor = true then .mk t.ps (mendK (t.ks.set (kidOf t.ks k) (dropF f (tAt t.ks (kidOf t.ks k)) k)) (kidOf t.ks k)) else .mk t.ps (t.ks.set (kidOf t.ks k) (dropF f (tAt t.ks (kidOf t.ks k)) k))
theorem delP_len (l : List PB) (k : ByteArray) : (delP l k).length ≤ l.length := by
  unfold delP
  split
  · rw [List.length_append, List.length_take, List.length_drop]; omega
  · exact Nat.le_refl _
theorem mendK_len (ks : List T) (i : Nat) : (mendK ks i).length ≤ ks.length := by
  unfold mendK
  split
  · rw [List.length_append, List.length_take, List.length_drop, List.length_set, List.length_set]; omega
  · rw [List.length_set, List.length_set]; exact Nat.le_refl _
theorem dropF_len : ∀ (f : Nat) (t : T) (k : ByteArray), (dropF f t k).ps.length ≤ t.ps.length ∧ (dropF f t k).ks.length ≤ t.ks.length
  | 0, t, k => ⟨Nat.le_refl _, Nat.le_refl _⟩
  | f + 1, t, k => by
    rw [dropF]
    split
    · exact ⟨delP_len _ _, Nat.le_refl _⟩
    · split
      · refine ⟨Nat.le_refl _, ?_⟩
        show (mendK _ _).length ≤ _
        have := mendK_len (t.ks.set (kidOf t.ks k) (dropF f (tAt t.ks (kidOf t.ks k)) k)) (kidOf t.ks k)
        rw [List.length_set] at this
        exact this
      · refine ⟨Nat.le_refl _, ?_⟩
        show (t.ks.set _ _).length ≤ _
        rw [List.length_set]; exact Nat.le_refl _
theorem full_small {x : T} {r : Bool} (h : x.full r = true) : x.ps.length ≤ 4 ∧ x.ks.length ≤ 4 := by
  obtain ⟨ps, ks⟩ := x
  simp only [T.ps, T.ks]
  by_cases hk : ks = []
  · subst hk; exact ⟨(full_lf h).1, by simp⟩
  · obtain ⟨_, h2, rfl, _⟩ := full_br h hk; exact ⟨by simp, h2⟩
theorem pcs_del (ps : List PB) (p : Nat) : (pcs ps).take (p * 2) ++ (pcs ps).drop ((p + 1) * 2) = pcs (ps.take p ++ ps.drop (p + 1)) := by
  rw [pcs_take, pcs_drop, pcs_append]
set_option maxHeartbeats 2000000 in
set_option maxRecDepth 20000 in
theorem drop_any : ∀ (f : Nat) (r : Bool) (S : Nat → Prop) (b : Nat) (t : T) (k : ByteArray) (w : World), Limb w S b t → (∀ x, S x → x < w.heap.size) → PutIn f r t →
    Calls Tryz.prog 55 #[.pointer (some ⟨b, 0, none⟩), .string k] w fun e w' => e = .returned (.tuple #[]) ∧ OneL w w' b (dropF f t k) S := by
  intro f
  induction f with
  | zero => intro r S b t k w _ _ g; exact g.ev.elim
  | succ f ih =>
  intro r S b t k w hL hS g
  have hsm := g.small
  have HL0 := hid hL
  have HS0 := hid hS
  have HG := hid g
  have IH := hid ih
  clear hL hS g ih
  by_cases hk : t.ks = []
  · have hlz : decide (t.ks.length = 0) = true := by simp [hk]
    have HF : Hid (dropF (f + 1) t k = .mk (delP t.ps k) t.ks) := by show _ = _; rw [dropF, if_pos hk]
    have HA : Hid (Asc t.ps) := by
      obtain ⟨ps, ks⟩ := t
      cases (show ks = [] from hk)
      exact HG.out.leaf.2.2.2
    have HPF := hid (pairFor_any S b t k w HL0.out HA.out (by omega))
    have HLF := hid (isLeaf_any S b t w HL0.out)
    rw [hlz] at HLF
    clear hlz
    go_enter Tryz.func55, Tryz.ntmps55
    go_wp2_with fail
    refine HLF.out.mono ?_
    rintro e w1 ⟨rfl, rfl⟩
    go_wp2_with fail
    refine HPF.out.mono ?_
    rintro e w2 ⟨rfl, hb⟩
    have HL1 := hid (HL0.out.kept hb)
    have HB1 := hid hb
    clear hb HPF HLF
    cases HL1.out with
    | mk _ _ pv kv ps ks A SS hb hB hP hK hPS hKS hSS hD hk' =>
    simp only [T.ps, T.ks] at *
    have hsz := HB1.out.size
    have hS1 : ∀ x, S x → x < w2.heap.size := fun x hx => Nat.lt_of_lt_of_le (HS0.out x hx) hsz
    cases hth : there ps k with
    | false =>
      have HI : Hid (delP ps k = ps) := by show _ = _; rw [delP, if_neg (by rw [hth]; simp)]
      have HFIN : Hid (OneL w1 w2 b (dropF (f + 1) (.mk ps ks) k) S) := by
        show OneL _ _ _ _ _
        rw [HF.out, HI.out]
        exact ⟨S, HL1.out, fun x hx => ⟨.inl hx, hS1 x hx⟩, only_of_below HB1.out _⟩
      clear hB hP hK hPS hKS hSS hD hk' hth
      go_wp2
      refine bodyPost_ret (results_none rfl _ _ _) rfl ?_
      exact ⟨rfl, HFIN.out⟩
    | true =>
      have hlt := (of_decide_eq_true hth).1
      have HI : Hid (delP ps k = ps.take (pos ps k) ++ ps.drop (pos ps k + 1)) := by show _ = _; rw [delP, if_pos hth]
      obtain ⟨n, hn⟩ : ∃ n, ps.length = n + 1 := ⟨ps.length - 1, by omega⟩
      have HMK := hid (fun (w' : World) (pv' : Value) (ps' : List PB) hB' hP' hon hown => limb_pairs (w := w2) (w' := w') (pv' := pv') (ps' := ps') hS1 hb hB' hP' hK hPS hKS hSS hD hk' hon hown)
      obtain ⟨g, cp, e4⟩ : ∃ g c, pv = .slice (some ⟨g, 0, none⟩) (n + 1) c := by
        rcases hP.2 with ⟨_, h0⟩ | ⟨g, c, cur, e, _⟩
        · omega
        · exact ⟨g, c, by rw [e, hn]⟩
      subst e4
      have hP2 := hP
      rw [hn] at hP2
      have HDL := hid (deleteP_any (.slice (some ⟨g, 0, none⟩) (n + 1) cp) n (pos ps k) 0 (pcs ps) w2 hP2 (by omega) (by omega) (pcs_one ps))
      have c0 := hB.cell (j := 0) rfl
      have hne1 : g ≠ b := (hPS g rfl).2
      have HNE := hid hne1
      have KB := hid hB
      have HN := hid hn
      generalize hpp : pos ps k = p at *
      have hp9 : (p : Int) ≤ 1000 := by omega
      have hp0 : (0 : Int) ≤ (p : Int) := by omega
      have HLT := hid hlt
      clear hB hP hK hPS hKS hSS hD hk' hth hP2 hne1 hpp hn hlt
      go_wp2_with fail
      refine HDL.out.mono ?_
      rintro e w3 ⟨g3, c3, hv3, rfl, hO3, ho3⟩
      cases hv3
      have K3 := KB.out.to ho3 (fun e => HNE.out e.symm)
      have e0 := K3.cell (j := 0) rfl
      have e1 := K3.free 0
      have HFIN : Hid (OneL w1 (w3.setCell ⟨b, 0, none⟩ (.slice (some ⟨g, 0, none⟩) n cp)) b (dropF (f + 1) (.mk ps ks) k) S) := by
        show OneL _ _ _ _ _
        rw [HF.out, HI.out]
        rw [pcs_del] at hO3
        have hl : (ps.take p ++ ps.drop (p + 1)).length = n := by rw [List.length_append, List.length_take, List.length_drop]; have := HN.out; have := HLT.out; omega
        refine OneL.from ?_ HB1.out
        refine HMK.out _ (.slice (some ⟨g, 0, none⟩) n cp) _ (K3.set 0 _) (by rw [hl]; exact own_kept hO3 (only_set (R := fun y => y = b) rfl _) (fun q e h => HNE.out (by simpa [Value.ownBlock, h] using e))) ?_ (.inl rfl)
        exact (ho3.mono (fun y _ e => .inr (by rw [e]; rfl))).trans (only_set (R := fun y => y = b ∨ (Value.slice (some ⟨g, 0, none⟩) (n + 1) cp).ownBlock = some y) (.inl rfl) _)
      clear hO3 ho3 K3 HDL HMK
      go_wp2
      refine bodyPost_ret (results_none rfl _ _ _) rfl ?_
      exact ⟨rfl, HFIN.out⟩
  · obtain ⟨ps, ks⟩ := t
    simp only [T.ks, T.ps] at hk hsm
    have hlz : decide ((T.mk ps ks).ks.length = 0) = false := decide_eq_false (by simp only [T.ks]; have := List.length_pos_iff.2 hk; omega)
    obtain ⟨hp0, hl1, hl2, hf3, he4, ha5⟩ := HG.out.kids hk
    obtain ⟨hq, _, _⟩ := kidOf_spec k hk
    have HF : Hid (dropF (f + 1) (.mk ps ks) k = if (dropF f (tAt ks (kidOf ks k)) k).poor = true then .mk ps (mendK (ks.set (kidOf ks k) (dropF f (tAt ks (kidOf ks k)) k)) (kidOf ks k)) else .mk ps (ks.set (kidOf ks k) (dropF f (tAt ks (kidOf ks k)) k))) := by show _ = _; rw [dropF]; simp only [T.ks, T.ps, hk, if_false]; rfl
    have HKG := hid (HG.out.kid hk k)
    have HKF := hid (kidFor_any S b (.mk ps ks) k w HL0.out hf3 (by simp only [T.ks]; omega))
    have HLF := hid (isLeaf_any S b (.mk ps ks) w HL0.out)
    rw [hlz] at HLF
    simp only [T.ks] at HKF
    have HDS : Hid ((dropF f (tAt ks (kidOf ks k)) k).ps.length ≤ 4 ∧ (dropF f (tAt ks (kidOf ks k)) k).ks.length ≤ 4) := by
      have h1 := dropF_len f (tAt ks (kidOf ks k)) k
      have h2 := full_small (hf3 _ (tAt_mem hq))
      exact ⟨by omega, by omega⟩
    have HSM : Hid (∀ x ∈ ks.set (kidOf ks k) (dropF f (tAt ks (kidOf ks k)) k), x.ps.length ≤ 1000 ∧ x.ks.length ≤ 1000) := by
      intro x hx
      rcases List.mem_or_eq_of_mem_set hx with h | h
      · have := full_small (hf3 x h); exact ⟨by omega, by omega⟩
      · rw [h]; have := HDS.out; exact ⟨by omega, by omega⟩
    have hkl : ks.length ≤ 4 := hl2
    have hkl2 : 2 ≤ ks.length := hl1
    clear hlz hp0 hl1 hl2 hf3 he4 ha5 hsm HG
    go_enter Tryz.func55, Tryz.ntmps55
    go_wp2_with fail
    refine HLF.out.mono ?_
    rintro e w1 ⟨rfl, rfl⟩
    go_wp2_with fail
    refine HKF.out.mono ?_
    rintro e w9 ⟨rfl, n1, rfl⟩
    have HB1 := hid (below_dn w1 n1)
    have HL1 := hid (HL0.out.kept (below_dn w1 n1))
    have HS1 : Hid (∀ x, S x → x < (w1.drewN n1).heap.size) := HS0.out
    generalize hW : w1.drewN n1 = W at *
    clear hW HL0 HKF HLF
    obtain ⟨pv, kv, A, SS, lb⟩ := HL1.out.lb
    obtain ⟨ak, ck, e5⟩ := own_shape lb.hK
    subst e5
    have c1 := lb.hB.cell (j := 1) rfl
    generalize hqq : kidOf ks k = q at *
    clear hqq
    obtain ⟨g, off, hak, hSg, hgl, hcell⟩ := (rw_own lb.hK (S := fun _ => True) (fun _ _ _ _ => trivial)).at (by omega)
    subst hak
    have cq := hcell q _ (ptrs_at A _ q hq)
    have HLB := hid lb
    have hq' : (q : Int) < (ks.length : Int) := by omega
    have hq0 : (0 : Int) ≤ (q : Int) := by omega
    have HLK := hid (lb.hk q hq)
    have HSK : Hid (∀ x, SS q x → x < W.heap.size) := fun x hx => HS1.out x (lb.hSS q hq x hx).1
    have HQ := hid hq
    simp only [ptr] at cq
    clear hcell hSg hgl lb hq
    go_wp2_with fail
    refine (IH.out false (SS q) (A q) (tAt ks q) k W HLK.out HSK.out HKG.out).mono ?_
    rintro e w2 ⟨rfl, S1, k1, k2, k3⟩
    have HK := hid (HLB.out.kid HS1.out HQ.out k1 k2 k3)
    have HT1 := hid k1
    have HON : Hid (Only S w1 w2) := (only_of_below HB1.out S).then k3 (fun x hx h => (HLB.out.hSS q HQ.out x h).1)
    have HSL : Hid (∀ y, S y ∨ S1 y → (S y ∨ w1.heap.size ≤ y) ∧ y < w2.heap.size) := by
      have hsz1 := HB1.out.size
      have hsz2 := k3.size
      rintro y (h | h)
      · have := HS0.out y h; exact ⟨.inl h, by omega⟩
      · refine ⟨?_, (k2 y h).2⟩
        rcases (k2 y h).1 with h2 | h2
        · exact .inl (HLB.out.hSS q HQ.out y h2).1
        · right; omega
    clear k1 k2 k3 HLB HS1 HSK HLK HL1 HB1 IH HKG cq c1
    have HPR := hid (fun (w' : World) h1 => isPoor_any S1 (A q) (dropF f (tAt ks q) k) w' h1 (by have := HDS.out; omega))
    generalize hrr : dropF f (tAt ks q) k = rr at *
    have d1 := HK.out.hB.cell (j := 1) rfl
    obtain ⟨g9, off9, hak9, _, _, hcell9⟩ := (rw_own HK.out.hK (S := fun _ => True) (fun _ _ _ _ => trivial)).at (by omega)
    cases hak9
    have d2 := hcell9 q _ (ptrs_at A _ q (by rw [List.length_set]; exact HQ.out))
    simp only [ptr] at d2
    clear hcell9 hrr
    go_wp2_with fail
    refine (HPR.out _ HT1.out).mono ?_
    rintro e w9 ⟨rfl, n2, rfl⟩
    have HK2 := hid (HK.out.kept (below_dn w2 n2))
    have HON2 : Hid (Only S w1 (w2.drewN n2)) := HON.out.trans (only_of_below (below_dn w2 n2) _)
    have HSL2 : Hid (∀ y, S y ∨ S1 y → (S y ∨ w1.heap.size ≤ y) ∧ y < (w2.drewN n2).heap.size) := HSL.out
    generalize hX : w2.drewN n2 = X at *
    clear hX HK HT1 HON HSL HPR d1 d2
    have hpp : rr.poor = decide (rr.ps.length + rr.ks.length < 2) := rfl
    rw [← hpp]
    clear hpp
    cases hpo : rr.poor with
    | true =>
      have HME := hid (mend_any _ b q ps (ks.set q rr) X HK2.out.limb (fun x hx => (HSL2.out x hx).2) (by rw [List.length_set]; exact HQ.out) (by rw [List.length_set]; omega) (by rw [List.length_set]; omega) HSM.out)
      have HF2 : Hid (dropF (f + 1) (.mk ps ks) k = .mk ps (mendK (ks.set q rr) q)) := by show _ = _; rw [HF.out, if_pos hpo]
      clear hpo
      go_wp2_with fail
      refine HME.out.mono ?_
      rintro e w3 ⟨rfl, h3⟩
      have HFIN : Hid (OneL w1 w3 b (dropF (f + 1) (.mk ps ks) k) S) := by
        show OneL _ _ _ _ _
        rw [HF2.out]
        obtain ⟨S', j1, j2, j3⟩ := h3
        have hsz := HON2.out.size
        refine ⟨S', j1, fun x hx => ⟨?_, (j2 x hx).2⟩, HON2.out.then j3 (fun x hx h => ?_)⟩
        · rcases (j2 x hx).1 with h | h
          · exact (HSL2.out x h).1
          · right; omega
        · rcases (HSL2.out x h).1 with h | h
          · exact h
          · omega
      clear h3 HME
      go_wp2
      go_end0
      exact ⟨rfl, HFIN.out⟩
    | false =>
      have HF2 : Hid (dropF (f + 1) (.mk ps ks) k = .mk ps (ks.set q rr)) := by show _ = _; rw [HF.out, if_neg (by rw [hpo]; simp)]
      have HFIN : Hid (OneL w1 X b (dropF (f + 1) (.mk ps ks) k) S) := by
        show OneL _ _ _ _ _
        rw [HF2.out]
        exact ⟨_, HK2.out.limb, fun x hx => HSL2.out x hx, HON2.out⟩
      clear hpo
      go_wp2
      go_end0
      exact ⟨rfl, HFIN.out⟩
end Go.Proofs.YtkfeefaokghibabGreat
/-
  Taking a key out, as plain data: the program's way and the specification's come to the same; what comes of it is full, even and in order.
-/
namespace Go.Proofs.YtkfeefaokghibabGreat
open Go.RowKit
theorem delP_nil (k : ByteArray) : delP [] k = [] := by simp [delP, there, pos]
theorem delP_lt {x : PB} {l : List PB} {k : ByteArray} (h : klt x.1 k = true) : delP (x :: l) k = x :: delP l k := by
  obtain ⟨h1, h2⟩ := there_cons_lt (x := x) (p := (k, k)) (l := l) h
  simp only at h1 h2
  unfold delP
  rw [h1, h2]
  split <;> simp
theorem delP_eq {x : PB} {l : List PB} {k : ByteArray} (h : x.1 = k) : delP (x :: l) k = l := by
  have h0 : klt x.1 k = false := by rw [h]; exact klt_irrefl _
  have h1 := pos_cons_ge (x := x) (p := (k, k)) (l := l) h0
  simp only at h1
  have h2 : there (x :: l) k = true := by unfold there; rw [h1]; simp [pAtB, h]
  unfold delP
  rw [h2, h1]; simp
theorem delP_gt {x : PB} {l : List PB} {k : ByteArray} (h : klt x.1 k = false) (hne : x.1 ≠ k) : delP (x :: l) k = x :: l := by
  have h1 := pos_cons_ge (x := x) (p := (k, k)) (l := l) h
  simp only at h1
  have h2 : there (x :: l) k = false := by unfold there; rw [h1]; simp [pAtB, hne]
  unfold delP
  rw [h2]; simp
theorem delP_left (A : List PB) {B : List PB} {k : ByteArray} (h : ∀ x ∈ A, klt x.1 k = true) : delP (A ++ B) k = A ++ delP B k := by
  induction A with
  | nil => rfl
  | cons a A ih => rw [List.cons_append, delP_lt (h a (by simp)), ih (fun x hx => h x (by simp [hx])), List.cons_append]
theorem delP_right (A : List PB) {B : List PB} {k : ByteArray} (h : ∀ x ∈ B, klt k x.1 = true) : delP (A ++ B) k = delP A k ++ B := by
  induction A with
  | nil =>
    rw [List.nil_append, delP_nil]
    cases B with
    | nil => rw [delP_nil]; rfl
    | cons b B =>
      have := h b (by simp)
      rw [delP_gt (klt_asymm this) (klt_ne this).symm]; rfl
  | cons a A ih =>
    rw [List.cons_append]
    cases hk : klt a.1 k with
    | true => rw [delP_lt hk, delP_lt hk, ih]; rfl
    | false =>
      by_cases e : a.1 = k
      · rw [delP_eq e, delP_eq e]
      · rw [delP_gt hk e, delP_gt hk e]; rfl
theorem delP_mem {l : List PB} {k : ByteArray} {x : PB} (h : x ∈ delP l k) : x ∈ l := by
  unfold delP at h
  split at h
  · rcases List.mem_append.1 h with h | h
    · exact List.mem_of_mem_take h
    · exact List.mem_of_mem_drop h
  · exact h
theorem delP_asc {l : List PB} {k : ByteArray} (h : Asc l) : Asc (delP l k) := by
  unfold delP
  split
  · refine List.Pairwise.sublist ?_ h
    rw [← List.eraseIdx_eq_take_drop_succ]
    exact List.eraseIdx_sublist _ _
  · exact h
theorem delP_ge (l : List PB) (k : ByteArray) : l.length ≤ (delP l k).length + 1 := by
  unfold delP
  split
  · rw [List.length_append, List.length_take, List.length_drop]; omega
  · omega
/-- The specification's way. -/
def delS (l : List PB) (k : ByteArray) : List PB := l.filter fun x => decide (x.1 ≠ k)
theorem delS_eq {l : List PB} {k : ByteArray} (h : Asc l) : delS l k = delP l k := by
  induction l with
  | nil => rw [delP_nil]; rfl
  | cons a l ih =>
    obtain ⟨h1, h2⟩ := List.pairwise_cons.1 h
    unfold delS at ih ⊢
    cases hk : klt a.1 k with
    | true => rw [delP_lt hk, List.filter_cons, if_pos (by simpa using klt_ne hk), ih h2]
    | false =>
      by_cases e : a.1 = k
      · rw [delP_eq e, List.filter_cons, if_neg (by simp [e]), List.filter_eq_self]
        intro x hx
        simpa using fun he => (klt_ne (h1 x hx)) (by rw [e, he])
      · rw [delP_gt hk e, List.filter_cons, if_pos (by simpa using e)]
        congr 1
        rw [List.filter_eq_self]
        intro x hx
        have hlt : klt k a.1 = true := by
          cases hq : klt k a.1 with
          | true => rfl
          | false => exact absurd (key_eq hk hq) e
        simpa using fun he => (klt_ne (klt_trans hlt (h1 x hx))) he.symm
theorem shT_bareT (a b : T) : shT a b = shT (.mk (a.ps ++ b.ps) (a.ks ++ b.ks)) bareT := by simp [shT, bareT, T.ps, T.ks]
theorem mendK_two (ks : List T) (s : Nat) (i : Nat) (hs : max i 1 = s + 1) (h : s + 1 < ks.length) : mendK ks i = ks.take s ++ two (shT (tAt ks s) (tAt ks (s + 1))) ++ ks.drop (s + 2) := by
  unfold mendK
  rw [hs, Nat.add_sub_cancel]
  generalize shT (tAt ks s) (tAt ks (s + 1)) = r
  have e : (ks.set s r.1).set (s + 1) r.2 = ks.take s ++ r.1 :: r.2 :: ks.drop (s + 2) := by
    apply List.ext_getElem?
    intro x
    rw [List.getElem?_set, List.getElem?_set, List.length_set]
    by_cases h1 : s + 1 = x
    · subst h1
      rw [if_pos rfl, if_pos h, List.getElem?_append_right (by rw [List.length_take]; omega), List.length_take, Nat.min_eq_left (by omega), show s + 1 - s = 1 by omega]; rfl
    · rw [if_neg h1]
      by_cases h2 : s = x
      · subst h2
        rw [if_pos rfl, if_pos (by omega), List.getElem?_append_right (by rw [List.length_take]; omega), List.length_take, Nat.min_eq_left (by omega), Nat.sub_self]; rfl
      · rw [if_neg h2]
        by_cases h3 : x < s
        · rw [List.getElem?_append_left (by rw [List.length_take]; omega), List.getElem?_take, if_pos h3]
        · rw [List.getElem?_append_right (by rw [List.length_take]; omega), List.length_take, Nat.min_eq_left (by omega)]
          obtain ⟨y, rfl⟩ : ∃ y, x = s + 2 + y := ⟨x - (s + 2), by omega⟩
          rw [show s + 2 + y - s = y + 1 + 1 by omega, List.getElem?_cons_succ, List.getElem?_cons_succ, List.getElem?_drop]
  rw [e]
  have hl : (ks.take s).length = s := by rw [List.length_take]; omega
  unfold two
  split
  · rw [List.take_append, hl, List.take_of_length_le (show (ks.take s).length ≤ s + 1 by omega), show s + 1 - s = 1 by omega, List.drop_append, hl, List.drop_of_length_le (show (ks.take s).length ≤ s + 1 + 1 by omega), show s + 1 + 1 - s = 2 by omega]; simp
  · simp
/-- What dropping leaves, but for its own fullness. -/
structure Near (h : Nat) (t : T) (l : List PB) : Prop where
  ev : Ev h t
  all : t.all = l
  leaf : t.ks = [] → t.ps.length ≤ 4
  br : t.ks ≠ [] → t.ps = [] ∧ t.ks.length ≤ 4 ∧ ∀ x ∈ t.ks, x.full false = true
theorem Near.full {h : Nat} {t : T} {l : List PB} (g : Near h t l) (hp : t.poor = false) : t.full false = true := by
  have hp : ¬ (t.ps.length + t.ks.length < 2) := of_decide_eq_false hp
  obtain ⟨ps, ks⟩ := t
  by_cases hk : ks = []
  · subst hk; exact full_mk_leaf (g.leaf rfl) (.inl (by simp [T.ps, T.ks] at hp; omega))
  · obtain ⟨h1, h2, h3⟩ := g.br hk
    have h1 : ps = [] := h1
    subst h1
    exact full_mk_br (by simp [T.ps, T.ks] at hp; omega) h2 h3
theorem near_of_full {h : Nat} {t : T} {r : Bool} (he : Ev h t) (hf : t.full r = true) : Near h t t.all := by
  obtain ⟨ps, ks⟩ := t
  refine ⟨he, rfl, fun hk => ?_, fun hk => ?_⟩
  · cases (show ks = [] from hk); exact (full_lf hf).1
  · obtain ⟨_, h2, h3, h4⟩ := full_br hf hk; exact ⟨h3, h2, h4⟩
/-- Two neighbours of one depth, one of them full, one with something: together they are one full node or two. -/
theorem shT_out2 {h : Nat} {a b : T} {la lb : List PB} (ga : Near h a la) (gb : Near h b lb) (hs : 3 ≤ a.ps.length + a.ks.length + (b.ps.length + b.ks.length)) (hs5 : a.ps.length + a.ks.length + (b.ps.length + b.ks.length) ≤ 5) : PutOut h false (la ++ lb) (shT a b) := by
  rw [shT_bareT]
  obtain ⟨pa, ka⟩ := a
  obtain ⟨pb, kb⟩ := b
  simp only [T.ps, T.ks] at hs hs5 ⊢
  cases h with
  | zero => exact ga.ev.elim
  | succ h =>
    rcases ga.ev with ⟨rfl, rfl⟩ | ⟨hka, hea⟩
    · rcases gb.ev with ⟨rfl, _⟩ | ⟨hkb, heb⟩
      · have e : la ++ lb = pa ++ pb := by rw [← ga.all, ← gb.all]; simp [T.all, allL]
        rw [e, List.append_nil]
        refine shT_out_leaf (by simp at hs5 ⊢; omega) (by simp at hs ⊢; omega) (fun _ => by simp at hs ⊢; omega)
      · obtain ⟨x, hx⟩ := List.exists_mem_of_ne_nil kb hkb
        exact (heb x hx).elim
    · rcases gb.ev with ⟨rfl, rfl⟩ | ⟨hkb, heb⟩
      · obtain ⟨x, hx⟩ := List.exists_mem_of_ne_nil ka hka
        exact (hea x hx).elim
      · obtain ⟨a1, _, a3⟩ := ga.br hka
        obtain ⟨b1, _, b3⟩ := gb.br hkb
        have a1 : pa = [] := a1
        have b1 : pb = [] := b1
        subst a1 b1
        have e : la ++ lb = allL (ka ++ kb) := by rw [← ga.all, ← gb.all, allL_append]; simp [T.all]
        rw [e]
        simp only [List.append_nil]
        refine shT_out_br (by simp at hs5 ⊢; omega) (by simp at hs ⊢; omega) (fun x hx => ?_) (fun x hx => ?_)
        · rcases List.mem_append.1 hx with hx | hx
          · exact a3 x hx
          · exact b3 x hx
        · rcases List.mem_append.1 hx with hx | hx
          · exact hea x hx
          · exact heb x hx
theorem full_count {x : T} (h : x.full false = true) : 2 ≤ x.ps.length + x.ks.length ∧ x.ps.length + x.ks.length ≤ 4 := by
  obtain ⟨ps, ks⟩ := x
  simp only [T.ps, T.ks]
  by_cases hk : ks = []
  · subst hk; have := full_lf h; simp at this ⊢; omega
  · obtain ⟨h1, h2, rfl, _⟩ := full_br h hk; simp; omega
theorem dropF_out : ∀ (h : Nat) (r : Bool) (t : T) (k : ByteArray), PutIn h r t → Near h (dropF h t k) (delP t.all k) ∧ t.ps.length + t.ks.length ≤ (dropF h t k).ps.length + (dropF h t k).ks.length + 1
  | 0, r, t, k, g => g.ev.elim
  | h + 1, r, .mk ps ks, k, g => by
    by_cases hk : ks = []
    · subst hk
      obtain ⟨hh, hl, hr, ha⟩ := g.leaf
      obtain rfl : h = 0 := by omega
      rw [dropF]
      simp only [T.ks, T.ps, if_true]
      refine ⟨⟨.inl ⟨rfl, rfl⟩, by simp [T.all, allL], fun _ => ?_, fun h => absurd rfl h⟩, ?_⟩
      · show (delP ps k).length ≤ 4
        have := delP_len ps k; omega
      · show ps.length + 0 ≤ (delP ps k).length + 0 + 1
        have := delP_ge ps k; omega
    · obtain ⟨rfl, h1, h2, h3, h4, h5⟩ := g.kids hk
      obtain ⟨q1, q2, q3⟩ := kidOf_spec k hk
      obtain ⟨a1, a2, a3⟩ := kid_apart h3 h5 q1 q2 q3
      obtain ⟨ih, ihn⟩ := dropF_out h false _ k (g.kid hk k)
      have hkf := full_count (h3 _ (tAt_mem q1))
      have HF : dropF (h + 1) (.mk [] ks) k = if (dropF h (tAt ks (kidOf ks k)) k).poor = true then .mk [] (mendK (ks.set (kidOf ks k) (dropF h (tAt ks (kidOf ks k)) k)) (kidOf ks k)) else .mk [] (ks.set (kidOf ks k) (dropF h (tAt ks (kidOf ks k)) k)) := by rw [dropF]; simp only [T.ks, T.ps, hk, if_false]; rfl
      rw [HF]
      clear HF
      generalize hq : kidOf ks k = q at *
      generalize hrr : dropF h (tAt ks q) k = rr at *
      have hset : ks.set q rr = ks.take q ++ rr :: ks.drop (q + 1) := List.set_eq_take_append_cons_drop.trans (by rw [if_pos q1])
      have hall : allL (ks.set q rr) = delP (T.mk [] ks).all k := by
        rw [hset, allL_append, allL, ih.all, show (T.mk [] ks).all = allL ks by simp [T.all], all_split q1, delP_left _ a1, delP_right _ a2]
      have hmem : ∀ x ∈ ks.set q rr, x = rr ∨ x ∈ ks := fun x hx => (List.mem_or_eq_of_mem_set hx).symm
      have hev : ∀ x ∈ ks.set q rr, Ev h x := fun x hx => (hmem x hx).elim (fun e => e ▸ ih.ev) (h4 x)
      have hln : (ks.set q rr).length = ks.length := List.length_set
      cases hpo : rr.poor with
      | false =>
        rw [if_neg (by simp)]
        refine ⟨⟨.inr ⟨fun e => by rw [e] at hln; simp at hln; omega, hev⟩, by simpa [T.all] using hall, fun e => ?_, fun _ => ⟨rfl, by show (ks.set q rr).length ≤ 4; omega, fun x hx => (hmem x hx).elim (fun e => e ▸ ih.full hpo) (h3 x)⟩⟩, by show 0 + ks.length ≤ 0 + (ks.set q rr).length + 1; omega⟩
        have e : ks.set q rr = [] := e
        rw [e] at hln; simp at hln; omega
      | true =>
        rw [if_pos rfl]
        obtain ⟨s, hs⟩ : ∃ s, max q 1 = s + 1 := ⟨max q 1 - 1, by omega⟩
        have hsl : s + 1 < ks.length := by omega
        have hpoor : rr.ps.length + rr.ks.length < 2 := of_decide_eq_true hpo
        have hrr1 : rr.ps.length + rr.ks.length = 1 := by omega
        rw [mendK_two _ s q hs (by omega)]
        have hat : ∀ i, i < ks.length → tAt (ks.set q rr) i = if i = q then rr else tAt ks i := by
          intro i hi
          by_cases e : i = q
          · subst e; simp [tAt, hi]
          · rw [if_neg e]; simp [tAt, Ne.symm e]
        have hn : ∀ i, i < ks.length → Near h (tAt (ks.set q rr) i) (tAt (ks.set q rr) i).all := by
          intro i hi
          rw [hat i hi]
          by_cases e : i = q
          · rw [if_pos e]; exact ⟨ih.ev, rfl, ih.leaf, ih.br⟩
          · rw [if_neg e]; exact near_of_full (h4 _ (tAt_mem hi)) (h3 _ (tAt_mem hi))
        have hcnt : (tAt (ks.set q rr) s).ps.length + (tAt (ks.set q rr) s).ks.length + ((tAt (ks.set q rr) (s + 1)).ps.length + (tAt (ks.set q rr) (s + 1)).ks.length) ≤ 5 ∧ 3 ≤ (tAt (ks.set q rr) s).ps.length + (tAt (ks.set q rr) s).ks.length + ((tAt (ks.set q rr) (s + 1)).ps.length + (tAt (ks.set q rr) (s + 1)).ks.length) := by
          rw [hat s (by omega), hat (s + 1) hsl]
          rcases (show (s = q ∧ s + 1 ≠ q) ∨ (s ≠ q ∧ s + 1 = q) by omega) with ⟨e1, e2⟩ | ⟨e1, e2⟩
          · rw [if_pos e1, if_neg e2]; have := full_count (h3 _ (tAt_mem hsl)); omega
          · rw [if_neg e1, if_pos e2]; have := full_count (h3 _ (tAt_mem (show s < ks.length by omega))); omega
        have out := shT_out2 (hn s (by omega)) (hn (s + 1) hsl) hcnt.2 hcnt.1
        have hsp : ks.set q rr = (ks.set q rr).take s ++ tAt (ks.set q rr) s :: tAt (ks.set q rr) (s + 1) :: (ks.set q rr).drop (s + 2) := by
          have e1 := ks_split (ks := ks.set q rr) (q := s) (by omega)
          have e2 := drop_tAt (ks := ks.set q rr) (k := s + 1) (by omega)
          rw [e2] at e1
          exact e1
        generalize ks.set q rr = kz at *
        generalize shT (tAt kz s) (tAt kz (s + 1)) = rx at *
        have hsm : ∀ x ∈ kz.take s ++ two rx ++ kz.drop (s + 2), (x ∈ two rx) ∨ (x ∈ kz ∧ (x ∈ kz.take s ∨ x ∈ kz.drop (s + 2))) := by
          intro x hx
          rcases List.mem_append.1 hx with hx | hx
          · rcases List.mem_append.1 hx with hx | hx
            · exact .inr ⟨List.mem_of_mem_take hx, .inl hx⟩
            · exact .inl hx
          · exact .inr ⟨List.mem_of_mem_drop hx, .inr hx⟩
        have hfar : ∀ x, x ∈ kz.take s ∨ x ∈ kz.drop (s + 2) → x.full false = true := by
          intro x hx
          have key : ∃ i, i < ks.length ∧ i ≠ q ∧ x = tAt kz i := by
            rcases hx with hx | hx
            · obtain ⟨i, hi⟩ := List.mem_iff_getElem?.1 hx
              rw [List.getElem?_take] at hi
              split at hi
              · rename_i h9; exact ⟨i, by omega, by omega, by simp [tAt, hi]⟩
              · cases hi
            · obtain ⟨i, hi⟩ := List.mem_iff_getElem?.1 hx
              rw [List.getElem?_drop] at hi
              have := (List.getElem?_eq_some_iff.1 hi).1
              exact ⟨s + 2 + i, by omega, by omega, by simp [tAt, hi]⟩
          obtain ⟨i, hi, hne, rfl⟩ := key
          rw [hat i hi, if_neg hne]
          exact h3 _ (tAt_mem hi)
        have htl := two_len rx
        have hlen : (kz.take s ++ two rx ++ kz.drop (s + 2)).length = s + (two rx).length + (ks.length - (s + 2)) := by simp only [List.length_append, List.length_take, List.length_drop]; omega
        refine ⟨⟨.inr ⟨fun e => by have := congrArg List.length e; rw [hlen, List.length_nil] at this; omega, fun x hx => ?_⟩, ?_, fun e => ?_, fun _ => ⟨rfl, by show (kz.take s ++ two rx ++ kz.drop (s + 2)).length ≤ 4; omega, fun x hx => ?_⟩⟩, by show 0 + ks.length ≤ 0 + (kz.take s ++ two rx ++ kz.drop (s + 2)).length + 1; omega⟩
        · rcases hsm x hx with h | h
          · exact out.ev x h
          · exact hev x h.1
        · rw [← hall]
          show [] ++ allL _ = _
          rw [List.nil_append, allL_append, allL_append, out.all]
          conv => rhs; rw [hsp]
          rw [allL_append, allL, allL]
          simp
        · have e : kz.take s ++ two rx ++ kz.drop (s + 2) = [] := e
          have := congrArg List.length e; rw [hlen, List.length_nil] at this; omega
        · rcases hsm x hx with h | h
          · exact out.fulls x h
          · exact hfar x h.2
theorem full_up {x : T} (h : x.full false = true) : x.full true = true := by
  obtain ⟨ps, ks⟩ := x
  by_cases hk : ks = []
  · subst hk; have := full_lf h; exact full_mk_leaf this.1 (.inl (by simpa using this.2))
  · obtain ⟨h1, h2, rfl, h3⟩ := full_br h hk; exact full_mk_br h1 h2 h3
/-- The root behind the drop. -/
def rootD (t : T) : T := if t.ks.length = 1 then tAt t.ks 0 else t
theorem rootD_out {h : Nat} {t : T} {k : ByteArray} (g : PutIn h true t) : ((rootD (dropF h t k)).full true = true ∨ rootD (dropF h t k) = bareT) ∧ (∃ h', Ev h' (rootD (dropF h t k))) ∧ (rootD (dropF h t k)).all = delP t.all k := by
  obtain ⟨h1, h2⟩ := dropF_out h true t k g
  generalize dropF h t k = y at *
  obtain ⟨ps, ks⟩ := y
  have er : rootD (.mk ps ks) = if ks.length = 1 then tAt ks 0 else .mk ps ks := rfl
  rw [er]
  clear er
  by_cases hk : ks = []
  · subst hk
    rw [if_neg (by simp)]
    refine ⟨?_, ⟨h, h1.ev⟩, h1.all⟩
    by_cases hp : ps = []
    · subst hp; exact .inr rfl
    · have := h1.leaf rfl
      have hl := List.length_pos_iff.2 hp
      refine .inl (full_mk_leaf this ?_)
      by_cases e : ps.length = 1
      · exact .inr ⟨rfl, e⟩
      · exact .inl (by omega)
  · obtain ⟨b1, b2, b3⟩ := h1.br hk
    have b1 : ps = [] := b1
    subst b1
    have b2 : ks.length ≤ 4 := b2
    cases h with
    | zero => exact h1.ev.elim
    | succ h =>
      rcases h1.ev with ⟨e, _⟩ | ⟨_, he⟩
      · exact absurd e hk
      · by_cases e : ks.length = 1
        · rw [if_pos e]
          have hm := tAt_mem (ks := ks) (show 0 < ks.length by omega)
          refine ⟨.inl (full_up (b3 _ hm)), ⟨h, he _ hm⟩, ?_⟩
          rw [← h1.all]
          obtain ⟨x, rfl⟩ := List.length_eq_one_iff.1 e
          simp [tAt, T.all, allL]
        · rw [if_neg e]
          have := List.length_pos_iff.2 hk
          exact ⟨.inl (full_mk_br (by omega) b2 b3), ⟨h + 1, h1.ev⟩, h1.all⟩
theorem pOk_del {l : List PB} {k : ByteArray} (h : pOk l = true) : pOk (delP l k) = true :=
  pOk_of (Nat.le_trans (delP_len l k) (pOk_len h)) (fun _ hx => pOk_mem h (delP_mem hx)) (delP_asc (pOk_asc h))
/-- The specification's way down. -/
def togS (a b : T) : List T := splT (.mk (a.ps ++ b.ps) (a.ks ++ b.ks))
def dropS : Nat → T → ByteArray → T
  | 0, t, _ => t
  | f + 1, t, k => if t.ks = [] then .mk (delS t.ps k) [] else
    if (dropS f (tAt t.ks (wayOf t.ks k)) k).poor = true then .mk [] ((t.ks.set (wayOf t.ks k) (dropS f (tAt t.ks (wayOf t.ks k)) k)).take (max (wayOf t.ks k) 1 - 1) ++ togS (tAt (t.ks.set (wayOf t.ks k) (dropS f (tAt t.ks (wayOf t.ks k)) k)) (max (wayOf t.ks k) 1 - 1)) (tAt (t.ks.set (wayOf t.ks k) (dropS f (tAt t.ks (wayOf t.ks k)) k)) (max (wayOf t.ks k) 1)) ++ (t.ks.set (wayOf t.ks k) (dropS f (tAt t.ks (wayOf t.ks k)) k)).drop (max (wayOf t.ks k) 1 + 1))
    else .mk [] (t.ks.set (wayOf t.ks k) (dropS f (tAt t.ks (wayOf t.ks k)) k))
theorem togS_two {h : Nat} {a b : T} {la lb : List PB} (ga : Near h a la) (gb : Near h b lb) : togS a b = two (shT a b) := by
  rw [shT_bareT]
  unfold togS
  obtain ⟨pa, ka⟩ := a
  obtain ⟨pb, kb⟩ := b
  simp only [T.ps, T.ks]
  cases h with
  | zero => exact ga.ev.elim
  | succ h =>
    rcases ga.ev with ⟨rfl, rfl⟩ | ⟨hka, hea⟩
    · rcases gb.ev with ⟨rfl, _⟩ | ⟨hkb, heb⟩
      · rw [List.append_nil, two_leaf]
      · obtain ⟨x, hx⟩ := List.exists_mem_of_ne_nil kb hkb
        exact (heb x hx).elim
    · obtain ⟨a1, _, _⟩ := ga.br hka
      have a1 : pa = [] := a1
      rcases gb.ev with ⟨rfl, rfl⟩ | ⟨hkb, heb⟩
      · obtain ⟨x, hx⟩ := List.exists_mem_of_ne_nil ka hka
        exact (hea x hx).elim
      · obtain ⟨b1, _, _⟩ := gb.br hkb
        have b1 : pb = [] := b1
        subst a1 b1
        rw [List.append_nil, two_branch (by simp [hka])]
theorem dropS_eq : ∀ (h : Nat) (r : Bool) (t : T) (k : ByteArray), PutIn h r t → dropS h t k = dropF h t k
  | 0, r, t, k, g => rfl
  | h + 1, r, .mk ps ks, k, g => by
    by_cases hk : ks = []
    · subst hk
      obtain ⟨_, _, _, ha⟩ := g.leaf
      rw [dropS, dropF]
      simp only [T.ks, T.ps, if_true]
      rw [delS_eq ha]
    · obtain ⟨rfl, h1, h2, h3, h4, h5⟩ := g.kids hk
      obtain ⟨q1, _, _⟩ := kidOf_spec k hk
      obtain ⟨ih, _⟩ := dropF_out h false _ k (g.kid hk k)
      have e1 : dropS (h + 1) (.mk [] ks) k = if (dropS h (tAt ks (wayOf ks k)) k).poor = true then .mk [] ((ks.set (wayOf ks k) (dropS h (tAt ks (wayOf ks k)) k)).take (max (wayOf ks k) 1 - 1) ++ togS (tAt (ks.set (wayOf ks k) (dropS h (tAt ks (wayOf ks k)) k)) (max (wayOf ks k) 1 - 1)) (tAt (ks.set (wayOf ks k) (dropS h (tAt ks (wayOf ks k)) k)) (max (wayOf ks k) 1)) ++ (ks.set (wayOf ks k) (dropS h (tAt ks (wayOf ks k)) k)).drop (max (wayOf ks k) 1 + 1)) else .mk [] (ks.set (wayOf ks k) (dropS h (tAt ks (wayOf ks k)) k)) := by
        rw [dropS, if_neg (show ¬ (T.mk [] ks).ks = [] from hk)]; rfl
      have e2 : dropF (h + 1) (.mk [] ks) k = if (dropF h (tAt ks (kidOf ks k)) k).poor = true then .mk [] (mendK (ks.set (kidOf ks k) (dropF h (tAt ks (kidOf ks k)) k)) (kidOf ks k)) else .mk [] (ks.set (kidOf ks k) (dropF h (tAt ks (kidOf ks k)) k)) := by
        rw [dropF, if_neg (show ¬ (T.mk [] ks).ks = [] from hk)]; rfl
      rw [e1, e2, wayOf_eq hk h3 h5, dropS_eq h false _ k (g.kid hk k)]
      clear e1 e2
      generalize hq : kidOf ks k = q at *
      generalize hrr : dropF h (tAt ks q) k = rr at *
      cases hpo : rr.poor with
      | false => rfl
      | true =>
        simp only [if_true]
        obtain ⟨s, hs⟩ : ∃ s, max q 1 = s + 1 := ⟨max q 1 - 1, by omega⟩
        have hsl : s + 1 < ks.length := by omega
        have hat : ∀ i, i < ks.length → tAt (ks.set q rr) i = if i = q then rr else tAt ks i := by
          intro i hi
          by_cases e : i = q
          · subst e; simp [tAt, hi]
          · rw [if_neg e]; simp [tAt, Ne.symm e]
        have hn : ∀ i, i < ks.length → Near h (tAt (ks.set q rr) i) (tAt (ks.set q rr) i).all := by
          intro i hi
          rw [hat i hi]
          by_cases e : i = q
          · rw [if_pos e]; exact ⟨ih.ev, rfl, ih.leaf, ih.br⟩
          · rw [if_neg e]; exact near_of_full (h4 _ (tAt_mem hi)) (h3 _ (tAt_mem hi))
        rw [mendK_two _ s q hs (by rw [List.length_set]; omega), hs, Nat.add_sub_cancel, togS_two (hn s (by omega)) (hn (s + 1) hsl)]
end Go.Proofs.YtkfeefaokghibabGreat
/-
  l03Few and l03Together of the specification.
-/
namespace Go.Proofs.YtkfeefaokghibabGreat
open Go.RowKit
set_option maxHeartbeats 1000000 in
theorem specFew_any (S : Nat → Prop) (lf : Bool) (ap ak : Option Addr) (np cp nk ck : Nat) (t : T) (w : World) (h : Sub w S lf (.slice ap np cp) (.slice ak nk ck) t) (hb : t.ks ≠ [] → t.ps = []) :
    Calls Tryz.prog 71 #[.agg #[.bool lf, .slice ap np cp, .slice ak nk ck]] w fun e w' => e = .returned (.bool t.poor) ∧ Below w.heap.size w w' := by
  obtain ⟨_, _, _, _, _, _, e1, e2, HNP, HNK, b1, b2, hlf, -⟩ := h.shape
  cases e1
  cases e2
  have HB0 := hid (below_new (o := .cells #[.bool lf, .slice ap np cp, .slice ak nk ck] 50) (w := w) (Below.refl _ _))
  have K0 := hid (Bk.new w 50 [.bool lf, .slice ap np cp, .slice ak nk ck])
  have c0 := K0.out.cell (j := 0) rfl
  have c1 := K0.out.cell (j := 1) rfl
  have c2 := K0.out.cell (j := 2) rfl
  clear h
  by_cases hk : nk = 0
  · have hlf' : lf = true := by rw [hlf, hk]; rfl
    have HE : Hid (t.poor = decide ((np : Int) < 2)) := by
      show decide (t.ps.length + t.ks.length < 2) = decide ((np : Int) < 2)
      rw [← HNK.out, ← HNP.out, hk, decide_eq_decide]; omega
    subst hlf' hk
    clear hlf hb
    by_cases h2 : np < 2
    · have h2' : (np : Int) < 2 := by omega
      have HE2 : Hid (t.poor = true) := by show _ = _; rw [HE.out]; exact decide_eq_true h2'
      go_enter Tryz.func71, Tryz.ntmps71
      go_wp2
      go_ret
      exact ⟨by rw [HE2.out]; rfl, HB0.out⟩
    · have h2' : ¬ (np : Int) < 2 := by omega
      have HE2 : Hid (t.poor = false) := by show _ = _; rw [HE.out]; exact decide_eq_false h2'
      go_enter Tryz.func71, Tryz.ntmps71
      go_wp2
      go_ret
      exact ⟨by rw [HE2.out]; rfl, HB0.out⟩
  · have hlf' : lf = false := by rw [hlf]; exact decide_eq_false hk
    have hps : t.ps = [] := hb (fun e => hk (by rw [HNK.out, e]; rfl))
    have HE : Hid (t.poor = decide ((nk : Int) < 2)) := by
      show decide (t.ps.length + t.ks.length < 2) = decide ((nk : Int) < 2)
      rw [← HNK.out, hps, decide_eq_decide]; simp; omega
    subst hlf'
    clear hlf hb hps
    by_cases h2 : nk < 2
    · have h2' : (nk : Int) < 2 := by omega
      have HE2 : Hid (t.poor = true) := by show _ = _; rw [HE.out]; exact decide_eq_true h2'
      go_enter Tryz.func71, Tryz.ntmps71
      go_wp2
      go_ret
      exact ⟨by rw [HE2.out]; rfl, HB0.out⟩
    · have h2' : ¬ (nk : Int) < 2 := by omega
      have HE2 : Hid (t.poor = false) := by show _ = _; rw [HE.out]; exact decide_eq_false h2'
      go_enter Tryz.func71, Tryz.ntmps71
      go_wp2
      go_ret
      exact ⟨by rw [HE2.out]; rfl, HB0.out⟩
structure TgI (w wr : World) (xa xb xs : List Value) : Prop where
  a : Bk wr w.heap.size 50 xa
  b : Bk wr (w.heap.size + 1) 50 xb
  s : Bk wr (w.heap.size + 1 + 1) 50 xs
  bel : Below w.heap.size w wr
  z : w.heap.size + 3 ≤ wr.heap.size
theorem TgI.keep {w wr w1 : World} {xa xb xs : List Value} (h : TgI w wr xa xb xs) (hb : Below wr.heap.size wr w1) : TgI w w1 xa xb xs := ⟨h.a.below hb, h.b.below hb, h.s.below hb, Below.then' h.bel hb (Nat.le_refl _), Nat.le_trans h.z hb.size⟩
theorem TgI.grow {w u w2 : World} {xa xb xs : List Value} {o : Option Nat} (h : TgI w u xa xb xs) (hg : u.grownBy w2 o) (ho : ∀ x, o = some x → w.heap.size + 3 ≤ x) : TgI w w2 xa xb xs := by
  have hon : Only (fun y => o = some y) u w2 := only_of_grown hg (fun _ e => e)
  exact ⟨h.a.to hon (fun e => by have := ho _ e; omega), h.b.to hon (fun e => by have := ho _ e; omega), h.s.to hon (fun e => by have := ho _ e; omega), h.bel.trans (hon.below h.bel.size (fun b hb e => by have := ho _ e; omega)), Nat.le_trans h.z hg.size⟩
theorem TgI.put {w u : World} {xa xb xs : List Value} (h : TgI w u xa xb xs) (j : Nat) (v : Value) : TgI w (u.setCell ⟨w.heap.size + 1 + 1, j, none⟩ v) xa xb (xs.set j v) := by
  have hon : Only (fun y => y = w.heap.size + 1 + 1) u (u.setCell ⟨w.heap.size + 1 + 1, j, none⟩ v) := only_set (R := fun y => y = w.heap.size + 1 + 1) rfl _
  exact ⟨h.a.to hon (by omega), h.b.to hon (by omega), h.s.set j v, h.bel.trans (hon.below h.bel.size (fun b hb e => by omega)), Nat.le_trans h.z hon.size⟩
theorem SubR.subP {w : World} {S : Nat → Prop} {lf : Bool} {pv kv : Value} {ps : List PB} {ts : List T} (h : SubR w S kv ts) (hP : Pr w S pv ps) (hlf : lf = decide (ts.length = 0)) : Sub w S lf pv kv (.mk ps ts) := by
  obtain ⟨L, P, K, h1, h2⟩ := h
  exact .mk lf pv kv ps ts L P K hlf hP h1 h2
set_option maxHeartbeats 2000000 in
set_option maxRecDepth 20000 in
theorem specTogether_any (S : Nat → Prop) (l1 l2 : Bool) (ap1 ak1 ap2 ak2 : Option Addr) (np1 cp1 nk1 ck1 np2 cp2 nk2 ck2 : Nat) (t1 t2 : T) (w : World) (h1 : Sub w S l1 (.slice ap1 np1 cp1) (.slice ak1 nk1 ck1) t1) (h2 : Sub w S l2 (.slice ap2 np2 cp2) (.slice ak2 nk2 ck2) t2)
    (hab : t1.ks = [] ↔ t2.ks = []) (hs : t1.ps.length + t2.ps.length ≤ 1000) (hs2 : t1.ks.length + t2.ks.length ≤ 1000) :
    Calls Tryz.prog 72 #[.agg #[.bool l1, .slice ap1 np1 cp1, .slice ak1 nk1 ck1], .agg #[.bool l2, .slice ap2 np2 cp2, .slice ak2 nk2 ck2]] w fun e w' => SubsPost w S (togS t1 t2) e w' := by
  obtain ⟨_, _, _, _, _, _, e1, e2, HNP1, HNK1, -, -, hl1, hP1⟩ := h1.shape
  cases e1
  cases e2
  obtain ⟨_, _, _, _, _, _, e1, e2, HNP2, HNK2, -, -, -, hP2⟩ := h2.shape
  cases e1
  cases e2
  have HLF : Hid (l1 = decide ((t1.ks ++ t2.ks).length = 0)) := by
    show _ = _
    rw [hl1, HNK1.out, decide_eq_decide, List.length_append]
    constructor
    · intro h
      have := hab.1 (List.eq_nil_of_length_eq_zero h)
      rw [this]; simp; exact List.eq_nil_of_length_eq_zero h
    · intro h; omega
  have H1 : Hid (Sub w (fun y => S y ∧ y < w.heap.size) l1 (.slice ap1 np1 cp1) (.slice ak1 nk1 ck1) t1) := h1.mono (fun y hy hl => ⟨hy, hl⟩)
  have H2 : Hid (Sub w (fun y => S y ∧ y < w.heap.size) l2 (.slice ap2 np2 cp2) (.slice ak2 nk2 ck2) t2) := h2.mono (fun y hy hl => ⟨hy, hl⟩)
  have HP1 : Hid (Pr w (fun y => S y ∧ y < w.heap.size) (.slice ap1 np1 cp1) t1.ps) := Rw.mono hP1 (fun y hy hl => ⟨hy, hl⟩)
  have HP2 : Hid (Pr w (fun y => S y ∧ y < w.heap.size) (.slice ap2 np2 cp2) t2.ps) := Rw.mono hP2 (fun y hy hl => ⟨hy, hl⟩)
  have HSP : Hid (t1.ps.length + t2.ps.length ≤ 1000 ∧ t1.ks.length + t2.ks.length ≤ 1000) := ⟨hs, hs2⟩
  clear h1 h2 hP1 hP2 hab hl1 hs hs2
  have HI0 : Hid (TgI w (((w.alloc (.cells #[.bool l1, .slice ap1 np1 cp1, .slice ak1 nk1 ck1] 50)).alloc (.cells #[.bool l2, .slice ap2 np2 cp2, .slice ak2 nk2 ck2] 50)).alloc (.cells #[.bool l1, .slice none 0 0, .slice none 0 0] 50)) [.bool l1, .slice ap1 np1 cp1, .slice ak1 nk1 ck1] [.bool l2, .slice ap2 np2 cp2, .slice ak2 nk2 ck2] [.bool l1, .slice none 0 0, .slice none 0 0]) := by
    refine ⟨((Bk.new w 50 [.bool l1, .slice ap1 np1 cp1, .slice ak1 nk1 ck1]).alloc _).alloc _, ?_, ?_, below_new (below_new (below_new (Below.refl _ _))), by simp⟩
    · have := (Bk.new (w.alloc (.cells #[.bool l1, .slice ap1 np1 cp1, .slice ak1 nk1 ck1] 50)) 50 [.bool l2, .slice ap2 np2 cp2, .slice ak2 nk2 ck2]).alloc (.cells #[.bool l1, .slice none 0 0, .slice none 0 0] 50)
      simpa using this
    · have := Bk.new ((w.alloc (.cells #[.bool l1, .slice ap1 np1 cp1, .slice ak1 nk1 ck1] 50)).alloc (.cells #[.bool l2, .slice ap2 np2 cp2, .slice ak2 nk2 ck2] 50)) 50 [.bool l1, .slice none 0 0, .slice none 0 0]
      simpa using this
  have q0 := ((Bk.new w 50 [.bool l1, .slice ap1 np1 cp1, .slice ak1 nk1 ck1]).alloc (.cells #[.bool l2, .slice ap2 np2 cp2, .slice ak2 nk2 ck2] 50)).cell (j := 0) rfl
  go_enter Tryz.func72, Tryz.ntmps72
  go_wp2_with fail
  generalize ((w.alloc (.cells #[.bool l1, .slice ap1 np1 cp1, .slice ak1 nk1 ck1] 50)).alloc (.cells #[.bool l2, .slice ap2 np2 cp2, .slice ak2 nk2 ck2] 50)).alloc (.cells #[.bool l1, .slice none 0 0, .slice none 0 0] 50) = U at *
  clear q0
  have a1 := HI0.out.a.cell (j := 1) rfl
  have b1 := HI0.out.b.cell (j := 1) rfl
  have s1 := HI0.out.s.cell (j := 1) rfl
  have sf := HI0.out.s.free 1
  have HIb := hid (HI0.out.keep (below_new (o := .cells #[] 64) (w := U) (Below.refl _ _)))
  have HIa := hid (HIb.out.keep (below_drew _))
  have a1' := HIb.out.a.cell (j := 1) rfl
  have b1' := HIb.out.b.cell (j := 1) rfl
  have HO0 := hid ((ow_new U (w.heap.size + 3) HI0.out.z).kept (below_drew _))
  have HW1 : Hid (∀ (v2 : Value) (w2 : World), Ow w2 (w.heap.size + 3) v2 ([] ++ t1.ps) → (U.alloc (.cells #[] 64)).drew.grownBy w2 (Value.slice (some ⟨U.heap.size, 0, none⟩) 0 0).ownBlock → TgI w w2 [.bool l1, .slice ap1 np1 cp1, .slice ak1 nk1 ck1] [.bool l2, .slice ap2 np2 cp2, .slice ak2 nk2 ck2] [.bool l1, .slice none 0 0, .slice none 0 0]) := fun v2 w2 _ hg => HIa.out.grow hg (fun x e => by have := HI0.out.z; have e' : U.heap.size = x := (by simpa [Value.ownBlock] using e); omega)
  have HFIN : Hid (∀ (w2 w3 : World) (a2 a3 : Option Addr) (n2 c2 n3 c3 : Nat), TgI w w2 [.bool l1, .slice ap1 np1 cp1, .slice ak1 nk1 ck1] [.bool l2, .slice ap2 np2 cp2, .slice ak2 nk2 ck2] [.bool l1, .slice none 0 0, .slice none 0 0] → Ow w2 (w.heap.size + 3) (.slice a2 n2 c2) ([] ++ t1.ps) → w2.grownBy w3 (Value.slice a2 n2 c2).ownBlock → Ow w3 (w.heap.size + 3) (.slice a3 n3 c3) (([] ++ t1.ps) ++ t2.ps) →
      TgI w (w3.setCell ⟨w.heap.size + 1 + 1, 1, none⟩ (.slice a3 n3 c3)) [.bool l1, .slice ap1 np1 cp1, .slice ak1 nk1 ck1] [.bool l2, .slice ap2 np2 cp2, .slice ak2 nk2 ck2] [.bool l1, .slice a3 n3 c3, .slice none 0 0] ∧ Ow (w3.setCell ⟨w.heap.size + 1 + 1, 1, none⟩ (.slice a3 n3 c3)) (w.heap.size + 3) (.slice a3 n3 c3) (t1.ps ++ t2.ps)) := by
    intro w2 w3 a2 a3 n2 c2 n3 c3 hI hO2 hg hO3
    refine ⟨(hI.grow hg (fun x e => (World.ownsRow.lt hO2 x e).1)).put 1 _, ?_⟩
    exact Ow.to hO3 (only_set (R := fun y => y = w.heap.size + 1 + 1) rfl _) (fun x e h => by have := (World.ownsRow.lt hO3 x e).1; omega)
  have hl1 : ([] : List PB).length + t1.ps.length ≤ 2097154 := by have := HSP.out.1; simp; omega
  have hl2 : (([] : List PB) ++ t1.ps).length + t2.ps.length ≤ 2097154 := by have := HSP.out.1; simp; omega
  go_cut [15] (fun x v => ∃ (a3 : Option Addr) (n3 c3 : Nat), x = x ∧ Hid (TgI w v [.bool l1, .slice ap1 np1 cp1, .slice ak1 nk1 ck1] [.bool l2, .slice ap2 np2 cp2, .slice ak2 nk2 ck2] [.bool l1, .slice a3 n3 c3, .slice none 0 0]) ∧ Hid (Ow v (w.heap.size + 3) (.slice a3 n3 c3) (t1.ps ++ t2.ps)))
  case first =>
    go_region_law (first
      | (refine step_append_pairs rfl _ _ rfl (w.heap.size + 3) (.slice (some ⟨U.heap.size, 0, none⟩) 0 0) [] rfl HO0.out _ _ t1.ps rfl (HP1.out.below HIa.out.bel) hl1 HIa.out.z ?_; intro v2 w2 hO2 hg2; obtain ⟨a2, n2, c2, e2, -⟩ := hO2.shape'; subst e2; have hI2 := HW1.out _ _ hO2 hg2; have b2' := hI2.b.cell (j := 1) rfl)
      | (refine step_append_pairs rfl _ _ rfl (w.heap.size + 3) (.slice a2 n2 c2) ([] ++ t1.ps) rfl hO2 _ _ t2.ps rfl (HP2.out.below hI2.bel) hl2 hI2.z ?_; intro v3 w3 hO3 hg3; obtain ⟨a3, n3, c3, e3, -⟩ := hO3.shape'; subst e3; have hI3 := hI2.grow hg3 (fun x e => (World.ownsRow.lt hO2 x e).1); have s3 := hI3.s.cell (j := 1) rfl; have s3f := hI3.s.free 1))
    all_goals (go_wp2_with fail; go_meet)
    all_goals exact ⟨_, _, _, trivial, (HFIN.out _ _ _ _ _ _ _ _ hI2 hO2 hg3 hO3).1, (HFIN.out _ _ _ _ _ _ _ _ hI2 hO2 hg3 hO3).2⟩
  case rest =>
    obtain ⟨a3, n3, c3, -, HI3, HO3⟩ := hcut
    clear HFIN HW1 HO0 HIa HIb a1 b1 s1 sf a1' b1' HI0 hl1 hl2
    have a1 := HI3.out.a.cell (j := 2) rfl
    have b1 := HI3.out.b.cell (j := 2) rfl
    have s1 := HI3.out.s.cell (j := 2) rfl
    have sf := HI3.out.s.free 2
    have HIb := hid (HI3.out.keep (below_new (o := .cells #[] 50) (w := wc) (Below.refl _ _)))
    have HIa := hid (HIb.out.keep (below_drew _))
    have a1' := HIb.out.a.cell (j := 2) rfl
    have b1' := HIb.out.b.cell (j := 2) rfl
    have HS0 := hid ((so_new wc wc.heap.size (Nat.le_refl _)).kept (below_drew _))
    have HZ := hid HI3.out.z
    have HAP : Hid (∀ y, S y ∧ y < w.heap.size → (Value.slice (some ⟨wc.heap.size, 0, none⟩) 0 0).ownBlock ≠ some y) := fun y hy e => by have := HZ.out; have e' : wc.heap.size = y := (by simpa [Value.ownBlock] using e); have := hy.2; omega
    have HAQ : Hid (∀ (w4 : World) (R : Nat → Prop) (v4 : Value) (L : List T), SO w4 wc.heap.size R v4 L → ∀ y, S y ∧ y < w.heap.size → v4.ownBlock ≠ some y) := fun w4 R v4 L h y hy e => by have := HZ.out; have := (h.lo y e).1; have := hy.2; omega
    have hl1 : ([] : List T).length + t1.ks.length ≤ 1048576 := by have := HSP.out.2; simp; omega
    have hl2 : (([] : List T) ++ t1.ks).length + t2.ks.length ≤ 1048576 := by have := HSP.out.2; simp; omega
    have HZA : Hid (wc.heap.size ≤ (wc.alloc (.cells #[] 50)).drew.heap.size) := by show wc.heap.size ≤ (wc.alloc (.cells #[] 50)).heap.size; simp
    have HGR : Hid (∀ (w4 : World) (R : Nat → Prop) (v4 : Value) (L : List T), (wc.alloc (.cells #[] 50)).drew.grownBy w4 (Value.slice (some ⟨wc.heap.size, 0, none⟩) 0 0).ownBlock → TgI w w4 [.bool l1, .slice ap1 np1 cp1, .slice ak1 nk1 ck1] [.bool l2, .slice ap2 np2 cp2, .slice ak2 nk2 ck2] [.bool l1, .slice a3 n3 c3, .slice none 0 0] ∧ wc.heap.size ≤ w4.heap.size ∧ Ow w4 (w.heap.size + 3) (.slice a3 n3 c3) (t1.ps ++ t2.ps)) := by
      intro w4 R v4 L hg
      have hon : Only (fun y => wc.heap.size ≤ y) (wc.alloc (.cells #[] 50)).drew w4 := only_of_grown hg (fun k e => by have e' : wc.heap.size = k := (by simpa [Value.ownBlock] using e); omega)
      refine ⟨HIa.out.grow hg (fun x e => by have := HZ.out; have e' : wc.heap.size = x := (by simpa [Value.ownBlock] using e); omega), Nat.le_trans HZA.out hg.size, ?_⟩
      exact ((HO3.out.kept (below_new (Below.refl _ _))).kept (below_drew _)).to hon (fun x e h => by have := (World.ownsRow.lt HO3.out x e).2; omega)
    have HFIN : Hid (∀ (w4 w5 : World) (a4 a5 : Option Addr) (n4 c4 n5 c5 : Nat) (R4 R5 : Nat → Prop), TgI w w4 [.bool l1, .slice ap1 np1 cp1, .slice ak1 nk1 ck1] [.bool l2, .slice ap2 np2 cp2, .slice ak2 nk2 ck2] [.bool l1, .slice a3 n3 c3, .slice none 0 0] → SO w4 wc.heap.size R4 (.slice a4 n4 c4) ([] ++ t1.ks) → w4.grownBy w5 (Value.slice a4 n4 c4).ownBlock → SO w5 wc.heap.size R5 (.slice a5 n5 c5) (([] ++ t1.ks) ++ t2.ks) → (∀ y, R5 y → S y ∧ y < w.heap.size) → Ow w4 (w.heap.size + 3) (.slice a3 n3 c3) (t1.ps ++ t2.ps) →
        TgI w (w5.setCell ⟨w.heap.size + 1 + 1, 2, none⟩ (.slice a5 n5 c5)) [.bool l1, .slice ap1 np1 cp1, .slice ak1 nk1 ck1] [.bool l2, .slice ap2 np2 cp2, .slice ak2 nk2 ck2] [.bool l1, .slice a3 n3 c3, .slice a5 n5 c5] ∧ Sub (w5.setCell ⟨w.heap.size + 1 + 1, 2, none⟩ (.slice a5 n5 c5)) (fun y => S y ∨ w.heap.size ≤ y) l1 (.slice a3 n3 c3) (.slice a5 n5 c5) (.mk (t1.ps ++ t2.ps) (t1.ks ++ t2.ks))) := by
      intro w4 w5 a4 a5 n4 c4 n5 c5 R4 R5 hI hO4 hg hO5 hR hOw
      have hz := HZ.out
      have hon : Only (fun y => y = w.heap.size + 1 + 1) w5 (w5.setCell ⟨w.heap.size + 1 + 1, 2, none⟩ (.slice a5 n5 c5)) := only_set (R := fun y => y = w.heap.size + 1 + 1) rfl _
      have hon4 : Only (fun y => wc.heap.size ≤ y) w4 w5 := only_of_grown hg (fun k e => (hO4.lo k e).1)
      have hlt3 := World.ownsRow.lt HO3.out
      have hw5 := hOw.to hon4 (fun x e h => by have := (hlt3 x e).2; omega)
      have hwf := hw5.to hon (fun x e h => by have := (hlt3 x e).1; omega)
      refine ⟨(hI.grow hg (fun x e => by have := (hO4.lo x e).1; omega)).put 2 _, ?_⟩
      have hSO := hO5.to hon (fun y e h => by have := (hO5.lo y e).1; omega) (fun y hy _ h => by have := (hR y hy).2; omega)
      refine (hSO.subR (R := fun y => S y ∨ w.heap.size ≤ y) (fun y _ h1 _ => .inr (by omega)) (fun y hy _ => .inl (hR y hy).1)).subP (hwf.pr (fun k _ h1 _ => .inr (by omega))) ?_
      have := HLF.out
      simpa using this
    go_wp2_with fail
    go_cut [23] (fun x v => ∃ (a5 : Option Addr) (n5 c5 : Nat), x = x ∧ Hid (TgI w v [.bool l1, .slice ap1 np1 cp1, .slice ak1 nk1 ck1] [.bool l2, .slice ap2 np2 cp2, .slice ak2 nk2 ck2] [.bool l1, .slice a3 n3 c3, .slice a5 n5 c5]) ∧ Hid (Sub v (fun y => S y ∨ w.heap.size ≤ y) l1 (.slice a3 n3 c3) (.slice a5 n5 c5) (.mk (t1.ps ++ t2.ps) (t1.ks ++ t2.ks))))
    case first =>
      go_region_law (first
        | (refine step_append_subs rfl _ _ rfl wc.heap.size _ (fun y => S y ∧ y < w.heap.size) (.slice (some ⟨wc.heap.size, 0, none⟩) 0 0) _ [] t1.ks rfl HS0.out rfl ((H1.out.kept HIa.out.bel).row) HAP.out hl1 HZA.out ?_; intro v4 w4 hO4 hg4 ha4; obtain ⟨a4, n4, c4, e4, -⟩ := hO4.shape; subst e4; obtain ⟨hI4, hz4, hw4⟩ := HGR.out w4 (fun _ => True) (.slice none 0 0) [] hg4; have b2' := hI4.b.cell (j := 2) rfl)
        | (refine step_append_subs rfl _ _ rfl wc.heap.size _ (fun y => S y ∧ y < w.heap.size) (.slice a4 n4 c4) _ ([] ++ t1.ks) t2.ks rfl hO4 rfl ((H2.out.kept hI4.bel).row) (HAQ.out _ _ _ _ hO4) hl2 hz4 ?_; intro v5 w5 hO5 hg5 ha5; obtain ⟨a5, n5, c5, e5, -⟩ := hO5.shape; subst e5; have hI5 := hI4.grow hg5 (fun x e => Nat.le_trans HZ.out (hO4.lo x e).1); have s3 := hI5.s.cell (j := 2) rfl; have s3f := hI5.s.free 2))
      all_goals (go_wp2_with fail; go_meet)
      all_goals exact ⟨_, _, _, trivial, (HFIN.out _ _ _ _ _ _ _ _ _ _ hI4 hO4 hg5 hO5 (fun y hy => by rcases hy.1 with ⟨h | h, _⟩ | h; exact h.elim; exact h; exact h) hw4).1, (HFIN.out _ _ _ _ _ _ _ _ _ _ hI4 hO4 hg5 hO5 (fun y hy => by rcases hy.1 with ⟨h | h, _⟩ | h; exact h.elim; exact h; exact h) hw4).2⟩
    case rest =>
      obtain ⟨a5, n5, c5, -, HI5, HS5⟩ := hcut
      clear HFIN HGR HAQ HAP HS0 HIa HIb a1 b1 s1 sf a1' b1' HI3 HO3
      have q0 := HI5.out.s.cell (j := 0) rfl
      have q1 := HI5.out.s.cell (j := 1) rfl
      have q2 := HI5.out.s.cell (j := 2) rfl
      rename_i wc2
      have HSP2 := hid (specSplit_any _ l1 a3 a5 n3 c3 n5 c5 _ _ HS5.out)
      go_wp2_with fail
      refine HSP2.out.mono ?_
      rintro e w7 ⟨v7, rfl, h8, h9⟩
      have H8 : Hid (SubR w7 (fun y => S y ∨ w.heap.size ≤ y) v7 (togS t1 t2)) := h8.mono (fun y hy _ => hy.elim id (fun h => .inr (by have := HI5.out.z; omega)))
      have H9 := hid (Below.then' HI5.out.bel h9 (Nat.le_refl _))
      clear h8 h9 HSP2
      go_wp2
      go_ret
      exact ⟨_, rfl, H8.out, H9.out⟩
end Go.Proofs.YtkfeefaokghibabGreat
/-
  A list of nodes whose rows are all apart from each other.
-/
namespace Go.Proofs.YtkfeefaokghibabGreat
open Go.RowKit
structure NA (w : World) (v : Value) (V : List V3) (ns : List NB) : Prop where
  len : V.length = ns.length
  row : w.ownsRow 0 84 3 v ns.length (ncs V)
  own : ∀ i, i < ns.length → OwN w (vAt V i) (nAt ns i) ∧ ap3 (vAt V i)
  apart : ∀ i j, i < ns.length → j < ns.length → i ≠ j → ∀ y, bl (vAt V i) y → ¬ bl (vAt V j) y
  off : ∀ i, i < ns.length → ∀ y, bl (vAt V i) y → v.ownBlock ≠ some y
theorem NA.to {w w' : World} {R : Nat → Prop} {v : Value} {V : List V3} {ns : List NB} (h : NA w v V ns) (ho : Only R w w') (hv : ∀ y, v.ownBlock = some y → ¬ R y) (hR : ∀ i, i < ns.length → ∀ y, bl (vAt V i) y → ¬ R y) : NA w' v V ns :=
  ⟨h.len, own_kept h.row ho hv, fun i hi => ⟨(h.own i hi).1.to ho (hR i hi), (h.own i hi).2⟩, h.apart, h.off⟩
theorem NA.kept {w w' : World} {v : Value} {V : List V3} {ns : List NB} (h : NA w v V ns) (hb : Below w.heap.size w w') : NA w' v V ns := h.to (only_of_below hb (fun _ => False)) (fun _ _ h => h) (fun _ _ _ _ h => h)
theorem na_nil (w : World) : NA w (.slice none 0 0) [] [] := ⟨rfl, World.ownsRow_nil _ _ _ _, fun i hi => by simp at hi, fun i j hi => by simp at hi, fun i hi => by simp at hi⟩
theorem NA.nr {w : World} {v : Value} {V : List V3} {ns : List NB} (h : NA w v V ns) {S : Nat → Prop} (hS : ∀ y, y < w.heap.size → S y) : Nr w S v ns :=
  ⟨V, h.len, rw_own h.row (fun k _ _ h => hS k h), fun i hi => ⟨rw_own (h.own i hi).1.1 (fun k _ _ h => hS k h), rw_own (h.own i hi).1.2.1 (fun k _ _ h => hS k h), rw_own (h.own i hi).1.2.2 (fun k _ _ h => hS k h)⟩⟩
/-- append(nodes, a node). -/
theorem NA.push {u w2 : World} {v v' : Value} {V : List V3} {ns : List NB} (h : NA u v V ns) (x : NB) (p : V3) (hx : OwN u p x) (hap : ap3 p) (hd : ∀ y, bl p y → v.ownBlock ≠ some y ∧ ∀ i, i < ns.length → ¬ bl (vAt V i) y)
    (ho : w2.ownsRow 0 84 3 v' (ns.length + 1) (ncs V ++ [p.1, p.2.1, p.2.2])) (hg : u.grownBy w2 v.ownBlock) (ha : v'.ownBlock = v.ownBlock ∨ v'.ownBlock = some u.heap.size) :
    NA w2 v' (V ++ [p]) (ns ++ [x]) := by
  have o : Only (fun y => v.ownBlock = some y) u w2 := only_of_grown hg (fun k e => e)
  have hl := h.len
  have hat : ∀ i, i < (ns ++ [x]).length → (i < ns.length ∧ vAt (V ++ [p]) i = vAt V i ∧ nAt (ns ++ [x]) i = nAt ns i) ∨ (i = ns.length ∧ vAt (V ++ [p]) i = p ∧ nAt (ns ++ [x]) i = x) := by
    intro i hi
    simp at hi
    by_cases e : i < ns.length
    · exact .inl ⟨e, vAt_append_left (by omega), nAt_append_left e⟩
    · obtain rfl : i = ns.length := by omega
      exact .inr ⟨rfl, by rw [← hl, vAt_append_at], nAt_append_at _ _ _⟩
  refine ⟨by simp [hl], by rw [ncs_append, List.length_append]; exact ho, fun i hi => ?_, fun i j hi hj hij y hy hz => ?_, fun i hi y hy hv => ?_⟩
  · rcases hat i hi with ⟨e, e1, e2⟩ | ⟨e, e1, e2⟩
    · rw [e1, e2]; exact ⟨(h.own i e).1.to o (h.off i e), (h.own i e).2⟩
    · rw [e1, e2]; exact ⟨hx.to o (fun y hy => (hd y hy).1), hap⟩
  · rcases hat i hi with ⟨e, e1, _⟩ | ⟨e, e1, _⟩
    · rw [e1] at hy
      rcases hat j hj with ⟨d, d1, _⟩ | ⟨d, d1, _⟩
      · rw [d1] at hz; exact h.apart i j e d hij y hy hz
      · rw [d1] at hz; exact (hd y hz).2 i e hy
    · rw [e1] at hy
      rcases hat j hj with ⟨d, d1, _⟩ | ⟨d, d1, _⟩
      · rw [d1] at hz; exact (hd y hy).2 j d hz
      · omega
  · have : y < u.heap.size ∧ v.ownBlock ≠ some y := by
      rcases hat i hi with ⟨e, e1, _⟩ | ⟨e, e1, _⟩
      · rw [e1] at hy; exact ⟨(h.own i e).1.lt hy, h.off i e y hy⟩
      · rw [e1] at hy; exact ⟨hx.lt hy, (hd y hy).1⟩
    rcases ha with ha | ha
    · rw [ha] at hv; exact this.2 hv
    · rw [ha] at hv; cases hv; omega
theorem nAt_other (ms : List NB) (z x : NB) (l : List NB) {i : Nat} (h : i ≠ ms.length) : nAt (ms ++ x :: l) i = nAt (ms ++ z :: l) i := by
  by_cases hi2 : i < ms.length
  · rw [nAt_append_left hi2, nAt_append_left hi2]
  · obtain ⟨j, rfl⟩ : ∃ j, i = ms.length + 1 + j := ⟨i - ms.length - 1, by omega⟩
    simp only [nAt]
    rw [List.getElem?_append_right (by omega), List.getElem?_append_right (by omega), show ms.length + 1 + j - ms.length = j + 1 by omega]
    rfl
/-- One node has turned. -/
theorem NA.upd {u w2 w3 : World} {v : Value} {V : List V3} {ms l : List NB} {z z' : NB} {p' : V3} {g : Nat} (h : NA u v V (ms ++ z :: l)) (hv : v.ownBlock = some g) (ho : Only (bl (vAt V ms.length)) u w2) (hown : OwN w2 p' z') (hap : ap3 p')
    (hbl : ∀ y, bl p' y → bl (vAt V ms.length) y ∨ u.heap.size ≤ y) (o3 : Only (fun y => y = g) w2 w3) (hrow : w3.ownsRow 0 84 3 v (ms ++ z :: l).length (ncs (V.set ms.length p'))) : NA w3 v (V.set ms.length p') (ms ++ z' :: l) := by
  have hl2 : (ms ++ z' :: l).length = (ms ++ z :: l).length := by simp
  have hlt : ms.length < (ms ++ z :: l).length := by simp
  have hl := h.len
  have hg : g < u.heap.size := (World.ownsRow.lt h.row g hv).2
  have hoff : ∀ y, bl p' y → y ≠ g := by
    intro y hy e
    rcases hbl y hy with h1 | h1
    · exact h.off _ hlt y h1 (by rw [hv, e])
    · omega
  have hat : ∀ i, i ≠ ms.length → vAt (V.set ms.length p') i = vAt V i := fun i hi => vAt_other _ _ _ _ hi
  have hat0 : vAt (V.set ms.length p') ms.length = p' := vAt_set _ _ _ (by omega)
  refine ⟨by rw [List.length_set, hl, hl2], by rw [hl2]; exact hrow, fun i hi => ?_, fun i j hi hj hij y hy hz => ?_, fun i hi y hy hv' => ?_⟩
  · rw [hl2] at hi
    by_cases e : i = ms.length
    · subst e
      rw [hat0, nAt_append_at]
      exact ⟨hown.to o3 (fun y hy => hoff y hy), hap⟩
    · rw [hat i e, nAt_other ms z z' l e]
      exact ⟨((h.own i hi).1.to ho (fun y hy hz => h.apart i ms.length hi hlt e y hy hz)).to o3 (fun y hy e2 => h.off i hi y hy (by rw [hv, e2])), (h.own i hi).2⟩
  · rw [hl2] at hi hj
    have key : ∀ i, i < (ms ++ z :: l).length → i ≠ ms.length → ∀ y, bl (vAt V i) y → ¬ bl p' y := by
      intro i hi e y hy hz
      rcases hbl y hz with h1 | h1
      · exact h.apart i ms.length hi hlt e y hy h1
      · have := (h.own i hi).1.lt hy; omega
    by_cases e : i = ms.length
    · rw [e, hat0] at hy
      have hj' : j ≠ ms.length := by omega
      rw [hat j hj'] at hz
      exact key j hj hj' y hz hy
    · rw [hat i e] at hy
      by_cases e2 : j = ms.length
      · rw [e2, hat0] at hz; exact key i hi e y hy hz
      · rw [hat j e2] at hz; exact h.apart i j hi hj hij y hy hz
  · rw [hl2] at hi
    rw [hv] at hv'
    cases hv'
    by_cases e : i = ms.length
    · rw [e, hat0] at hy; exact hoff _ hy rfl
    · rw [hat i e] at hy; exact h.off i hi _ hy hv
theorem row_set {w : World} {E : TypeId} {s g n c m : Nat} {xs : List Value} (h : w.ownsRow 0 E s (.slice (some ⟨g, 0, none⟩) n c) m xs) (j : Nat) (u : Value) : (w.setCell ⟨g, j, none⟩ u).ownsRow 0 E s (.slice (some ⟨g, 0, none⟩) n c) m (xs.set j u) := by
  obtain ⟨k1, k2⟩ := h
  rcases k2 with ⟨k2, _⟩ | ⟨g', cap, cur, e, k3, k4, k5, k6, k7, k8⟩
  · cases k2
  · cases e
    refine ⟨by simpa using k1, .inr ⟨g, c, cur.setIfInBounds j u, rfl, k3, ?_, k5, k6, by simpa using k7, ?_⟩⟩
    · simp [World.setCell, Array.getElem?_modify, k4]
    · rw [← k8]
      simp only [Array.toList_setIfInBounds, List.take_set]
theorem set_same {xs : List Value} {j : Nat} {u : Value} (h : xs[j]? = some u) : xs.set j u = xs := by
  apply List.ext_getElem?
  intro i
  rw [List.getElem?_set]
  split
  · rename_i e; subst e
    split
    · exact h.symm
    · rename_i hl; rw [List.getElem?_eq_none (by omega)]
  · rfl
theorem ncs_set1 (V : List V3) (j : Nat) (x : Value) (h : j < V.length) : ncs (V.set j ((vAt V j).1, x, (vAt V j).2.2)) = (ncs V).set (j * 3 + 1) x := by
  obtain ⟨c0, c1, c2⟩ := ncs_at V j h
  rw [ncs_set _ _ _ h]
  simp only
  rw [set_same c0]
  apply set_same
  rw [List.getElem?_set, if_neg (by omega)]
  exact c2
theorem ncs_set2 (V : List V3) (j : Nat) (x : Value) (h : j < V.length) : ncs (V.set j ((vAt V j).1, (vAt V j).2.1, x)) = (ncs V).set (j * 3 + 2) x := by
  obtain ⟨c0, c1, c2⟩ := ncs_at V j h
  rw [ncs_set _ _ _ h]
  simp only
  rw [set_same c0, set_same c1]
/-- l[at].Keys = append(l[at].Keys, s) -/
theorem NA.addKey {u w2 : World} {g n c : Nat} {V : List V3} {ms l : List NB} {z : NB} {kx' : Value} {s : ByteArray} (h : NA u (.slice (some ⟨g, 0, none⟩) n c) V (ms ++ z :: l)) (hO : w2.ownsRow 0 9 1 kx' (z.keys.length + 1) (z.keys.map Value.string ++ [.string s])) (hg : u.grownBy w2 (vAt V ms.length).2.1.ownBlock)
    (ha : kx'.ownBlock = (vAt V ms.length).2.1.ownBlock ∨ ∃ k, kx'.ownBlock = some k ∧ u.heap.size ≤ k) :
    NA (w2.setCell ⟨g, ms.length * 3 + 1, none⟩ kx') (.slice (some ⟨g, 0, none⟩) n c) (V.set ms.length ((vAt V ms.length).1, kx', (vAt V ms.length).2.2)) (ms ++ ⟨z.ps, z.keys ++ [s], z.kids⟩ :: l) := by
  have hlt : ms.length < (ms ++ z :: l).length := by simp
  obtain ⟨h1, h2⟩ := h.own _ hlt
  rw [nAt_append_at] at h1
  have o : Only (fun y => (vAt V ms.length).2.1.ownBlock = some y) u w2 := only_of_grown hg (fun k e => e)
  have hl := h.len
  have hnew : ∀ y, kx'.ownBlock = some y → (vAt V ms.length).2.1.ownBlock = some y ∨ u.heap.size ≤ y := by
    intro y hy
    rcases ha with e | ⟨k, e, hk⟩
    · exact .inl (e ▸ hy)
    · rw [e] at hy; cases hy; exact .inr hk
  refine h.upd rfl (o.mono (fun y _ e => .inr (.inl e))) ⟨?_, ?_, ?_⟩ ?_ ?_ (only_set (R := fun y => y = g) rfl _) ?_
  · exact own_kept h1.1 o (fun y e e2 => ((h2 y).1 e).1 e2)
  · simpa using hO
  · exact own_kept h1.2.2 o (fun y e e2 => (h2 y).2 e2 e)
  · intro y
    refine ⟨fun e => ⟨fun e2 => ?_, ((h2 y).1 e).2⟩, fun e e2 => ?_⟩
    · rcases hnew y e2 with h3 | h3
      · exact ((h2 y).1 e).1 h3
      · have := h1.lt (.inl e); omega
    · rcases hnew y e with h3 | h3
      · exact (h2 y).2 h3 e2
      · have := h1.lt (.inr (.inr e2)); omega
  · rintro y (e | e | e)
    · exact .inl (.inl e)
    · exact (hnew y e).imp (fun h => .inr (.inl h)) id
    · exact .inl (.inr (.inr e))
  · rw [ncs_set1 _ _ _ (by omega)]
    exact row_set (own_kept h.row o (fun y e e2 => h.off _ hlt y (.inr (.inl e2)) e)) _ _
/-- l[at].Kids = append(l[at].Kids, s) -/
theorem NA.addKid {u w2 : World} {g n c : Nat} {V : List V3} {ms l : List NB} {z : NB} {ki' : Value} {s : Int} (h : NA u (.slice (some ⟨g, 0, none⟩) n c) V (ms ++ z :: l)) (hO : w2.ownsRow 0 3 1 ki' (z.kids.length + 1) (z.kids.map (Value.int .i64) ++ [.int .i64 s])) (hg : u.grownBy w2 (vAt V ms.length).2.2.ownBlock)
    (ha : ki'.ownBlock = (vAt V ms.length).2.2.ownBlock ∨ ∃ k, ki'.ownBlock = some k ∧ u.heap.size ≤ k) :
    NA (w2.setCell ⟨g, ms.length * 3 + 2, none⟩ ki') (.slice (some ⟨g, 0, none⟩) n c) (V.set ms.length ((vAt V ms.length).1, (vAt V ms.length).2.1, ki')) (ms ++ ⟨z.ps, z.keys, z.kids ++ [s]⟩ :: l) := by
  have hlt : ms.length < (ms ++ z :: l).length := by simp
  obtain ⟨h1, h2⟩ := h.own _ hlt
  rw [nAt_append_at] at h1
  have o : Only (fun y => (vAt V ms.length).2.2.ownBlock = some y) u w2 := only_of_grown hg (fun k e => e)
  have hl := h.len
  have hnew : ∀ y, ki'.ownBlock = some y → (vAt V ms.length).2.2.ownBlock = some y ∨ u.heap.size ≤ y := by
    intro y hy
    rcases ha with e | ⟨k, e, hk⟩
    · exact .inl (e ▸ hy)
    · rw [e] at hy; cases hy; exact .inr hk
  refine h.upd rfl (o.mono (fun y _ e => .inr (.inr e))) ⟨?_, ?_, ?_⟩ ?_ ?_ (only_set (R := fun y => y = g) rfl _) ?_
  · exact own_kept h1.1 o (fun y e e2 => ((h2 y).1 e).2 e2)
  · exact own_kept h1.2.1 o (fun y e e2 => (h2 y).2 e e2)
  · simpa using hO
  · intro y
    refine ⟨fun e => ⟨((h2 y).1 e).1, fun e2 => ?_⟩, fun e e2 => ?_⟩
    · rcases hnew y e2 with h3 | h3
      · exact ((h2 y).1 e).2 h3
      · have := h1.lt (.inl e); omega
    · rcases hnew y e2 with h3 | h3
      · exact (h2 y).2 e h3
      · have := h1.lt (.inr (.inl e)); omega
  · rintro y (e | e | e)
    · exact .inl (.inl e)
    · exact .inl (.inr (.inl e))
    · exact (hnew y e).imp (fun h => .inr (.inr h)) id
  · rw [ncs_set2 _ _ _ (by omega)]
    exact row_set (own_kept h.row o (fun y e e2 => h.off _ hlt y (.inr (.inr e2)) e)) _ _
/-- How far nodes has come: L stands there, ns stood there at the start; new rows lie in blocks of P or in new ones. -/
structure NI (w wr : World) (v vv : Value) (V0 V : List V3) (ns L : List NB) (P : Nat → Prop) : Prop where
  na : NA wr vv V L
  old : ∀ i, i < ns.length → vAt V i = vAt V0 i
  new : ∀ i, ns.length ≤ i → i < L.length → ∀ y, bl (vAt V i) y → P y ∨ w.heap.size ≤ y
  only : Only (fun y => v.ownBlock = some y) w wr
  vb : ∀ y, vv.ownBlock = some y → v.ownBlock = some y ∨ w.heap.size ≤ y
theorem NI.keep {w wr w1 : World} {v vv : Value} {V0 V : List V3} {ns L : List NB} {P : Nat → Prop} (h : NI w wr v vv V0 V ns L P) (hb : Below wr.heap.size wr w1) : NI w w1 v vv V0 V ns L P :=
  ⟨h.na.kept hb, h.old, h.new, h.only.trans (only_of_below hb _), h.vb⟩
theorem NI.mono {w wr : World} {v vv : Value} {V0 V : List V3} {ns L : List NB} {P Q : Nat → Prop} (h : NI w wr v vv V0 V ns L P) (hq : ∀ y, P y → Q y) : NI w wr v vv V0 V ns L Q :=
  ⟨h.na, h.old, fun i h1 h2 y hy => (h.new i h1 h2 y hy).imp (hq y) id, h.only, h.vb⟩
/-- Behind a kid's nodes. -/
theorem NI.then {w wr w' : World} {v vv v' : Value} {V0 V V' : List V3} {ns L M : List NB} {P Q : Nat → Prop} (h : NI w wr v vv V0 V ns L P) (hns : ns.length ≤ L.length) (k : NI wr w' vv v' V V' L M Q) : NI w w' v v' V0 V' ns M (fun y => P y ∨ Q y) := by
  have hs := h.only.size
  refine ⟨k.na, fun i hi => (k.old i (by omega)).trans (h.old i hi), fun i h1 h2 y hy => ?_, h.only.then k.only (fun i hi e => ?_), fun y hy => ?_⟩
  · by_cases e : i < L.length
    · rw [k.old i e] at hy
      exact (h.new i h1 e y hy).imp .inl id
    · rcases k.new i (by omega) h2 y hy with h3 | h3
      · exact .inl (.inr h3)
      · right; omega
  · rcases h.vb i e with h3 | h3
    · exact h3
    · omega
  · rcases k.vb y hy with h3 | h3
    · exact h.vb y h3
    · right; omega
theorem NI.addKey {w u w2 : World} {v : Value} {g n c : Nat} {V0 V : List V3} {ns l : List NB} {z : NB} {P : Nat → Prop} {kx' : Value} {s : ByteArray} (h : NI w u v (.slice (some ⟨g, 0, none⟩) n c) V0 V ns (ns ++ z :: l) P) (hO : w2.ownsRow 0 9 1 kx' (z.keys.length + 1) (z.keys.map Value.string ++ [.string s])) (hg : u.grownBy w2 (vAt V ns.length).2.1.ownBlock)
    (ha : kx'.ownBlock = (vAt V ns.length).2.1.ownBlock ∨ ∃ k, kx'.ownBlock = some k ∧ u.heap.size ≤ k) (hfr : ∀ y, (vAt V ns.length).2.1.ownBlock = some y → w.heap.size ≤ y) :
    NI w (w2.setCell ⟨g, ns.length * 3 + 1, none⟩ kx') v (.slice (some ⟨g, 0, none⟩) n c) V0 (V.set ns.length ((vAt V ns.length).1, kx', (vAt V ns.length).2.2)) ns (ns ++ ⟨z.ps, z.keys ++ [s], z.kids⟩ :: l) P := by
  have hs := h.only.size
  have hlt : ns.length < (ns ++ z :: l).length := by simp
  have hl := h.na.len
  refine ⟨h.na.addKey hO hg ha, fun i hi => (vAt_other _ _ _ _ (by omega)).trans (h.old i hi), fun i h1 h2 y hy => ?_, ?_, h.vb⟩
  · have h2' : i < (ns ++ z :: l).length := by simpa using h2
    by_cases e : i = ns.length
    · rw [e, vAt_set _ _ _ (by omega)] at hy
      rcases hy with hy | hy | hy
      · exact h.new _ (Nat.le_refl _) hlt y (.inl hy)
      · rcases ha with e | ⟨k, e, hk⟩
        · exact .inr (hfr y (e ▸ hy))
        · rw [e] at hy; cases hy; right; omega
      · exact h.new _ (Nat.le_refl _) hlt y (.inr (.inr hy))
    · rw [vAt_other _ _ _ _ e] at hy
      exact h.new i h1 h2' y hy
  · refine (h.only.then (only_of_grown hg (R := fun y => (vAt V ns.length).2.1.ownBlock = some y) (fun k e => e)) (fun i hi e => ?_)).then (only_set (R := fun y => y = g) rfl _) (fun i hi e => ?_)
    · have := hfr i e; omega
    · rcases h.vb i (by rw [e]; rfl) with h3 | h3
      · exact h3
      · omega
theorem NI.addKid {w u w2 : World} {v : Value} {g n c : Nat} {V0 V : List V3} {ns l : List NB} {z : NB} {P : Nat → Prop} {kx' : Value} {s : Int} (h : NI w u v (.slice (some ⟨g, 0, none⟩) n c) V0 V ns (ns ++ z :: l) P) (hO : w2.ownsRow 0 3 1 kx' (z.kids.length + 1) (z.kids.map (Value.int .i64) ++ [.int .i64 s])) (hg : u.grownBy w2 (vAt V ns.length).2.2.ownBlock)
    (ha : kx'.ownBlock = (vAt V ns.length).2.2.ownBlock ∨ ∃ k, kx'.ownBlock = some k ∧ u.heap.size ≤ k) (hfr : ∀ y, (vAt V ns.length).2.2.ownBlock = some y → w.heap.size ≤ y) :
    NI w (w2.setCell ⟨g, ns.length * 3 + 2, none⟩ kx') v (.slice (some ⟨g, 0, none⟩) n c) V0 (V.set ns.length ((vAt V ns.length).1, (vAt V ns.length).2.1, kx')) ns (ns ++ ⟨z.ps, z.keys, z.kids ++ [s]⟩ :: l) P := by
  have hs := h.only.size
  have hlt : ns.length < (ns ++ z :: l).length := by simp
  have hl := h.na.len
  refine ⟨h.na.addKid hO hg ha, fun i hi => (vAt_other _ _ _ _ (by omega)).trans (h.old i hi), fun i h1 h2 y hy => ?_, ?_, h.vb⟩
  · have h2' : i < (ns ++ z :: l).length := by simpa using h2
    by_cases e : i = ns.length
    · rw [e, vAt_set _ _ _ (by omega)] at hy
      rcases hy with hy | hy | hy
      · exact h.new _ (Nat.le_refl _) hlt y (.inl hy)
      · exact h.new _ (Nat.le_refl _) hlt y (.inr (.inl hy))
      · rcases ha with e | ⟨k, e, hk⟩
        · exact .inr (hfr y (e ▸ hy))
        · rw [e] at hy; cases hy; right; omega
    · rw [vAt_other _ _ _ _ e] at hy
      exact h.new i h1 h2' y hy
  · refine (h.only.then (only_of_grown hg (R := fun y => (vAt V ns.length).2.2.ownBlock = some y) (fun k e => e)) (fun i hi e => ?_)).then (only_set (R := fun y => y = g) rfl _) (fun i hi e => ?_)
    · have := hfr i e; omega
    · rcases h.vb i (by rw [e]; rfl) with h3 | h3
      · exact h3
      · omega
end Go.Proofs.YtkfeefaokghibabGreat
/-
  nodes: a limb's nodes in the walk's order, behind others; all rows are apart.
-/
namespace Go.Proofs.YtkfeefaokghibabGreat
open Go.RowKit
theorem NA.shape {w : World} {v : Value} {V : List V3} {ns : List NB} (h : NA w v V ns) : ∃ a n c, v = .slice a n c ∧ Hid (n = ns.length) := by
  obtain ⟨a, c, e⟩ := own_shape h.row
  exact ⟨a, _, c, e, rfl⟩
theorem wpList_append_node {w : World} {ops : Array Oper} {rest : List Oper} {o : Oper} {a : Act} {Q : Exit → Act → World → Prop} (hgd : o.guard = none) (s x : Operand)
    (ho : o.op = .call { callee := .builtin .append, args := #[s, x], argTypes := #[28, 28] }) (v : Value) (V : List V3) (ns : List NB) (hs : a.eval s = v) (hown : NA w v V ns) (pv : Value) (ps : List PB) (hP : w.ownsRow 0 64 2 pv ps.length (pcs ps)) (hd : ∀ y, pv.ownBlock = some y → v.ownBlock ≠ some y ∧ ∀ i, i < ns.length → ¬ bl (vAt V i) y)
    (g : Nat) (hx : a.eval x = .slice (some ⟨g, 0, none⟩) 1 1) (hB : Bk w g 84 [pv, .slice none 0 0, .slice none 0 0]) (hb : ns.length ≤ 1048576)
    (h : ∀ g' n' c' w', NA w' (.slice (some ⟨g', 0, none⟩) n' c') (V ++ [(pv, .slice none 0 0, .slice none 0 0)]) (ns ++ [⟨ps, [], []⟩]) → Hid (n' = ns.length + 1) → w.grownBy w' v.ownBlock → ((Value.slice (some ⟨g', 0, none⟩) n' c').ownBlock = v.ownBlock ∨ (Value.slice (some ⟨g', 0, none⟩) n' c').ownBlock = some w.heap.size) → wpList Tryz.prog ops Q rest (a.put o.dst (.slice (some ⟨g', 0, none⟩) n' c')) w') : wpList Tryz.prog ops Q (o :: rest) a w := by
  obtain ⟨i, hi, hz, hsz, hby⟩ := info_of infoNodeI
  obtain ⟨ap, cp, hpv⟩ := own_shape hP
  refine wpList_append_row_at hgd s x 28 ho 0 84 i _ 3 72 Tryz.underlying28 hi hz hsz hby rfl (by decide) v ns.length (ncs V) hs hown.row (fun _ => True) _ 1 [pv, .slice none 0 0, .slice none 0 0] hx (hB.rw (Nat.le_refl _) (by omega) (fun h => by omega) _ trivial) rfl
    (by intro u hu; simp at hu; rcases hu with rfl | rfl <;> first | (rw [hpv]; rfl) | rfl) (by unfold maxLen; omega) (by omega) (Nat.zero_le _) ?_
  intro v' w' k1 k2 k3
  rcases k1.2 with ⟨_, e⟩ | ⟨g', cap, cur, e, _⟩
  · omega
  · subst e
    refine h g' _ cap w' ?_ rfl k2 k3
    exact hown.push ⟨ps, [], []⟩ (pv, .slice none 0 0, .slice none 0 0) ⟨hP, World.ownsRow_nil _ _ _ _, World.ownsRow_nil _ _ _ _⟩ (fun y => ⟨fun _ => ⟨by simp [Value.ownBlock], by simp [Value.ownBlock]⟩, by simp [Value.ownBlock]⟩) (by rintro y (e | e | e) <;> first | exact hd y e | (simp [Value.ownBlock] at e)) k1 k2 k3
/-- The keys and kids of the node at n lie in new blocks. -/
def KF (w : World) (V : List V3) (n : Nat) : Prop := ∀ y, (vAt V n).2.1.ownBlock = some y ∨ (vAt V n).2.2.ownBlock = some y → w.heap.size ≤ y
def NodesPost (w : World) (v : Value) (V0 : List V3) (ns L : List NB) (S : Nat → Prop) (e : Ending) (w' : World) : Prop := ∃ v' V, e = .returned v' ∧ NI w w' v v' V0 V ns L S
theorem NA.rowAt {w : World} {a : Option Addr} {n c : Nat} {V : List V3} {ns : List NB} (h : NA w (.slice a n c) V ns) (hp : 0 < ns.length) : ∃ g, a = some ⟨g, 0, none⟩ ∧ Hid (n = ns.length) := by
  rcases h.row.2 with ⟨e, e2⟩ | ⟨g, cap, cur, e, _⟩
  · omega
  · cases e
    exact ⟨g, rfl, rfl⟩
theorem NA.cells {w : World} {g n c : Nat} {V : List V3} {ns : List NB} (h : NA w (.slice (some ⟨g, 0, none⟩) n c) V ns) (i : Nat) (hi : i < ns.length) : w.cell? ⟨g, i * 3, none⟩ = some (vAt V i).1 ∧ w.cell? ⟨g, i * 3 + 1, none⟩ = some (vAt V i).2.1 ∧ w.cell? ⟨g, i * 3 + 2, none⟩ = some (vAt V i).2.2 ∧ ∀ o, w.frozen? ⟨g, o, none⟩ = false := by
  have hc := World.ownsRow.cells h.row (g := g) rfl
  have hl := h.len
  obtain ⟨c0, c1, c2⟩ := ncs_at V i (by omega)
  have d0 := hc _ _ c0
  have d1 := hc _ _ c1
  have d2 := hc _ _ c2
  rw [Addr.add_lit, Nat.zero_add] at d0 d1 d2
  refine ⟨d0, d1, d2, fun o => ?_⟩
  rcases h.row.2 with ⟨e, _⟩ | ⟨g', cap, cur, e, _, k4, _⟩
  · cases e
  · cases e
    simp [World.frozen?, k4]
set_option maxHeartbeats 8000000 in
set_option maxRecDepth 20000 in
theorem nodes_any (t : T) : ∀ (S : Nat → Prop) (b : Nat) (w : World) (v : Value) (V0 : List V3) (ns : List NB) (r : Bool), Limb w S b t → t.full r = true → NA w v V0 ns → (∀ y, S y → y < w.heap.size ∧ v.ownBlock ≠ some y ∧ ∀ i, i < ns.length → ¬ bl (vAt V0 i) y) → ns.length + t.size ≤ 1048576 →
    Calls Tryz.prog 58 #[.pointer (some ⟨b, 0, none⟩), v] w fun e w' => NodesPost w v V0 ns (ns ++ lay ns.length t) S e w' := by
  induction t using T.ind
  rename_i ps ks ih
  intro S b w v V0 ns r hL hfu hN hS hsz
  obtain ⟨av, nv, cv, e3, HNV⟩ := hN.shape
  subst e3
  obtain ⟨pv, kv, A, SS, lb⟩ := hL.lb
  obtain ⟨ap, cp, e4⟩ := own_shape lb.hP
  obtain ⟨ak, ck, e5⟩ := own_shape lb.hK
  generalize hnk : ks.length = nk at e5
  generalize hnp : ps.length = np at e4
  have HNK := hid hnk
  have HNP := hid hnp
  subst e4 e5
  have HLB := hid lb
  have HIH := hid ih
  have HS := hid hS
  have HN := hid hN
  have HSZ := hid hsz
  have HFU := hid hfu
  have c0 := lb.hB.cell (j := 0) rfl
  have c1 := lb.hB.cell (j := 1) rfl
  have hnl : nv ≤ 1048576 := by have := HNV.out; have := HSZ.out; omega
  have HPW := hid (lb.hP)
  clear hL hfu hN hS hsz lb ih hnk hnp
  have HB0 := hid (below_new (o := .cells #[.slice ap np cp, .slice none 0 0, .slice none 0 0] 84) (w := w) (Below.refl _ _))
  have KZ := hid (Bk.new w 84 [.slice ap np cp, .slice none 0 0, .slice none 0 0])
  have HN0 := hid (HN.out.kept HB0.out)
  have HP0 := hid (own_kept HPW.out (only_of_below HB0.out (fun _ => False)) (fun _ _ h => h))
  have HD0 : Hid (∀ y, (Value.slice ap np cp).ownBlock = some y → (Value.slice av nv cv).ownBlock ≠ some y ∧ ∀ i, i < ns.length → ¬ bl (vAt V0 i) y) := fun y hy => (HS.out y (HLB.out.hPS y hy).1).2
  go_enter Tryz.func58, Tryz.ntmps58
  go_wp2_with (at_builtin; refine wpList_append_node rfl _ _ rfl _ V0 ns rfl HN0.out (.slice ap np cp) ps HP0.out HD0.out w.heap.size rfl KZ.out ?q1 ?_)
  case q1 => have := HSZ.out; omega
  intro g1 n1 c1' w1 hN1 HN1L hg1 ha1
  have hsz1 := hg1.size
  have HO1 : Hid (Only (fun y => (Value.slice av nv cv).ownBlock = some y) w w1) := (only_of_below HB0.out _).trans (only_of_grown hg1 (fun k e => e))
  have HI1 : Hid (NI w w1 (.slice av nv cv) (.slice (some ⟨g1, 0, none⟩) n1 c1') V0 (V0 ++ [(.slice ap np cp, .slice none 0 0, .slice none 0 0)]) ns (ns ++ ⟨ps, (ks.take 0).tail.map T.least, places (ns.length + 1) (ks.take 0)⟩ :: layL (ns.length + 1) (ks.take 0)) (fun y => (Value.slice ap np cp).ownBlock = some y ∨ ∃ i, i < 0 ∧ SS i y)) := by
    refine ⟨by simpa [layL, places] using hN1, fun i hi => vAt_append_left (by rw [HN.out.len]; exact hi), fun i h1 h2 y hy => ?_, HO1.out, fun y hy => ?_⟩
    · simp [layL] at h2
      obtain rfl : i = ns.length := by omega
      rw [← HN.out.len, vAt_append_at] at hy
      rcases hy with e | e | e
      · exact .inl (.inl e)
      · simp [Value.ownBlock] at e
      · simp [Value.ownBlock] at e
    · rcases ha1 with e | e
      · exact .inl (e ▸ hy)
      · rw [e] at hy; cases hy; right; simp
  have HKF1 : Hid (KF w (V0 ++ [(.slice ap np cp, .slice none 0 0, .slice none 0 0)]) ns.length) := by
    intro y hy
    rw [← HN.out.len, vAt_append_at] at hy
    simp [Value.ownBlock] at hy
  have d1 := (HLB.out.hB.to HO1.out (fun e => (HS.out b HLB.out.hb).2.1 e)).cell (j := 1) rfl
  clear hN1 hg1 ha1 HN0 HP0 KZ HB0 c0 c1 hsz1
  go_wp2_with fail
  go_loopw [1, 23] (fun x i wr => ∃ (k g' n' c' : Nat) (V : List V3), k ≤ nk ∧ i = .int .i64 k ∧ x = .slice (some ⟨g', 0, none⟩) n' c' ∧ Hid (NI w wr (.slice av nv cv) (.slice (some ⟨g', 0, none⟩) n' c') V0 V ns (ns ++ ⟨ps, (ks.take k).tail.map T.least, places (ns.length + 1) (ks.take k)⟩ :: layL (ns.length + 1) (ks.take k)) (fun y => (Value.slice ap np cp).ownBlock = some y ∨ ∃ i, i < k ∧ SS i y)) ∧ Hid (KF w V ns.length)) (fun _ i _ => nk - (intOf i).toNat)
  case atStart => exact ⟨0, g1, n1, c1', _, Nat.zero_le _, rfl, rfl, HI1.out, HKF1.out⟩
  case round =>
    obtain ⟨k, g', n', c', V, hkn, rfl, rfl, HL, HKF⟩ := hrel
    by_cases hlt : k < nk
    · have hlt' : (k : Int) < (nk : Int) := by omega
      have hks : k < ks.length := by rw [HNK.out]; exact hlt
      have HK4 : Hid (ks.length ≤ 4) := by
        obtain ⟨_, h, _, _⟩ := full_br HFU.out (by rintro rfl; simp at hks)
        exact h
      have HBR : Hid (∀ {i : Nat}, i < ks.length → (tAt ks i).full false = true) := by
        obtain ⟨_, _, _, h⟩ := full_br HFU.out (by rintro rfl; simp at hks)
        exact fun hi => h _ (tAt_mem hi)
      have HSZK : Hid (ns.length + 1 + szL ks ≤ 1048576) := by have := HSZ.out; simp only [T.size] at this; show _ ≤ _; omega
      have HLN : Hid (n' = ns.length + 1 + szL (ks.take k)) := by
        show _ = _
        obtain ⟨_, _, _, e, h⟩ := HL.out.na.shape
        cases e
        rw [h.out]; simp [layL_length]; omega
      obtain ⟨gk, ofk, hak, hgS, hgl, hcell⟩ := (rw_own HLB.out.hK (S := S) (fun y e _ _ => (HLB.out.hKS y e).1)).at (by omega)
      subst hak
      have hck := (rw_own HLB.out.hK (S := S) (fun y e _ _ => (HLB.out.hKS y e).1)).to HL.out.only (fun y hy _ e => (HS.out y hy).2.1 e)
      obtain ⟨gk2, ofk2, hak2, _, _, hcell2⟩ := hck.at (by omega)
      cases hak2
      have cq := hcell2 k _ (ptrs_at A _ k hks)
      simp only [ptr] at cq
      clear hck hcell hcell2 hgS hgl
      have hk0 : (0 : Int) ≤ (k : Int) := by omega
      cases k with
      | zero =>
        have HLX : Hid (NI w wr (.slice av nv cv) (.slice (some ⟨g', 0, none⟩) n' c') V0 V ns (ns ++ ⟨ps, (ks.take (0 + 1)).tail.map T.least, places (ns.length + 1) (ks.take 0)⟩ :: layL (ns.length + 1) (ks.take 0)) (fun y => (Value.slice ap np cp).ownBlock = some y ∨ ∃ i, i < 0 ∧ SS i y)) := by
          have e : (ks.take (0 + 1)).tail.map T.least = (ks.take 0).tail.map T.least := by cases ks <;> simp
          show NI _ _ _ _ _ _ _ _ _
          rw [e]
          exact HL.out
        have HKX := HKF
        simp only [Nat.add_zero] at cq
        clear HL HKF
        generalize hVX : V = VX at *
        clear hVX

        have HL2X := HLX
        obtain ⟨-, -, m2, mf⟩ := HLX.out.na.cells ns.length (by simp)
        have hrow := (HLX.out.na.own ns.length (by simp)).1.2.2
        rw [nAt_append_at] at hrow
        simp only at hrow
        obtain ⟨aki, cki, hki⟩ := own_shape hrow
        have HNKI : Hid ((places (ns.length + 1) (ks.take 0)).length = 0) := by show _ = _; rw [places_length, List.length_take]; omega
        rw [HNKI.out] at hki hrow
        have HBLK := hid hki
        rw [hki] at m2 hrow
        rw [← HNV.out] at m2
        have mf2 := mf (nv * 3 + 2)
        have HLu := hid (HLX.out.keep (below_new (o := .cells #[.int .i64 (n' : Int)] 3) (Below.refl _ _)))
        have HRI : Hid (World.ownsRow (wr.alloc (.cells #[.int .i64 (n' : Int)] 3)) 0 3 1 (.slice aki (0) cki) (0) ((places (ns.length + 1) (ks.take 0)).map (Value.int .i64))) := own_kept hrow (only_of_below (below_new (Below.refl _ _)) (fun _ => False)) (fun _ _ h => h)
        have hnv : (nv : Int) < (n' : Int) := by have h1 := HLN.out; have h2 := HNV.out; omega
        have hnv0 : (0 : Int) ≤ (nv : Int) := by omega
        have m2a : (wr.alloc (.cells #[.int .i64 (n' : Int)] 3)).cell? ⟨g', nv * 3 + 2, none⟩ = some (.slice aki (0) cki) := by
          have := (HLu.out.na.cells ns.length (by simp)).2.2.1
          rw [HBLK.out, ← HNV.out] at this
          exact this
        have hkk : 0 ≤ 1048576 := by have := HK4.out; omega
        clear hrow mf hki
        go_wp2_with (at_builtin; refine wpList_append_int1 rfl _ _ rfl _ (0) _ rfl HRI.out wr.heap.size (n' : Int) rfl (Bk.new wr 3 [.int .i64 (n' : Int)]) hkk ?_)
        intro ai2 ni2 ci2 w2 hO2 hg2 ha2
        have HL2 : Hid (NI w (w2.setCell ⟨g', nv * 3 + 2, none⟩ (.slice ai2 ni2 ci2)) (.slice av nv cv) (.slice (some ⟨g', 0, none⟩) n' c') V0 (VX.set ns.length ((vAt VX ns.length).1, (vAt VX ns.length).2.1, .slice ai2 ni2 ci2)) ns (ns ++ ⟨ps, (ks.take (0 + 1)).tail.map T.least, places (ns.length + 1) (ks.take (0 + 1))⟩ :: layL (ns.length + 1) (ks.take 0)) (fun y => (Value.slice ap np cp).ownBlock = some y ∨ ∃ i, i < 0 ∧ SS i y)) := by
          have h2 : places (ns.length + 1) (ks.take (0 + 1)) = places (ns.length + 1) (ks.take 0) ++ [(n' : Int)] := by rw [places_take ks _ _ hks, HLN.out]
          have h1 := HLu.out.addKid (s := (n' : Int)) (kx' := .slice ai2 ni2 ci2) (by simp only; rw [HNKI.out]; exact hO2) (by rw [HBLK.out]; exact hg2) (by rw [HBLK.out]; exact ha2.imp id (fun e => ⟨_, e, by simp⟩)) (fun y hy => HKX.out y (.inr hy))
          show NI _ _ _ _ _ _ _ _ _
          have e3 : (⟨g', ns.length * 3 + 2, none⟩ : Addr) = ⟨g', nv * 3 + 2, none⟩ := by rw [HNV.out]
          rw [e3] at h1
          rw [h2]
          exact h1
        have HK2 : Hid (KF w (VX.set ns.length ((vAt VX ns.length).1, (vAt VX ns.length).2.1, .slice ai2 ni2 ci2)) ns.length) := by
          intro y hy
          rw [vAt_set _ _ _ (by rw [HLX.out.na.len]; simp)] at hy
          rcases hy with hy | hy
          · exact HKX.out y (.inl hy)
          · rcases ha2 with e | e
            · exact HKX.out y (.inr (by rw [HBLK.out, ← e]; exact hy))
            · rw [e] at hy; cases hy
              have := HLX.out.only.size
              simp; omega
        have hz2 := World.cell?_of_block (w := wr.alloc (.cells #[.int .i64 (n' : Int)] 3)) (w' := w2) (a := ⟨g', nv * 3 + 2, none⟩) (hg2.block g' (block_lt m2a) (fun e => HLu.out.na.off ns.length (by simp) g' (.inr (.inr (by rw [HBLK.out]; exact e.symm))) rfl))
        have z2 := hz2.trans m2a
        have zf : w2.frozen? ⟨g', nv * 3 + 2, none⟩ = false := (World.frozen?_of_block (w := wr.alloc (.cells #[.int .i64 (n' : Int)] 3)) (w' := w2) (a := ⟨g', nv * 3 + 2, none⟩) (hg2.block g' (block_lt m2a) (fun e => HLu.out.na.off ns.length (by simp) g' (.inr (.inr (by rw [HBLK.out]; exact e.symm))) rfl))).trans ((HLu.out.na.cells ns.length (by simp)).2.2.2 _)
        clear hO2 hg2 ha2 HRI HLu hz2 m2a m2 mf2 HL2X
        have HLEN : Hid ((ns ++ ⟨ps, (ks.take (0 + 1)).tail.map T.least, places (ns.length + 1) (ks.take (0 + 1))⟩ :: layL (ns.length + 1) (ks.take 0)).length = ns.length + 1 + szL (ks.take 0)) := by show _ = _; simp [layL_length]; omega
        have HEQ : Hid ((ns ++ ⟨ps, (ks.take (0 + 1)).tail.map T.least, places (ns.length + 1) (ks.take (0 + 1))⟩ :: layL (ns.length + 1) (ks.take 0)) ++ lay (ns ++ ⟨ps, (ks.take (0 + 1)).tail.map T.least, places (ns.length + 1) (ks.take (0 + 1))⟩ :: layL (ns.length + 1) (ks.take 0)).length (tAt ks (0)) = ns ++ ⟨ps, (ks.take (0 + 1)).tail.map T.least, places (ns.length + 1) (ks.take (0 + 1))⟩ :: layL (ns.length + 1) (ks.take (0 + 1))) := by
          show _ = _
          rw [HLEN.out, layL_take ks (0) (ns.length + 1) hks]
          simp
        have HBND : Hid ((ns ++ ⟨ps, (ks.take (0 + 1)).tail.map T.least, places (ns.length + 1) (ks.take (0 + 1))⟩ :: layL (ns.length + 1) (ks.take 0)).length + (tAt ks (0)).size ≤ 1048576) := by
          show _ ≤ _
          have h1 := szL_take_le ks (0 + 1)
          rw [szL_take ks (0) hks] at h1
          have h2 := HSZK.out
          rw [HLEN.out]
          omega
        have HKID : Hid (Limb (w2.setCell ⟨g', nv * 3 + 2, none⟩ (.slice ai2 ni2 ci2)) (SS (0)) (A (0)) (tAt ks (0))) := (HLB.out.hk (0) hks).to HL2.out.only (fun x hx e => (HS.out x (HLB.out.hSS (0) hks x hx).1).2.1 e)
        have HCOND : Hid (∀ y, SS (0) y → y < (w2.setCell ⟨g', nv * 3 + 2, none⟩ (.slice ai2 ni2 ci2)).heap.size ∧ (Value.slice (some ⟨g', 0, none⟩) n' c').ownBlock ≠ some y ∧ ∀ i, i < (ns ++ ⟨ps, (ks.take (0 + 1)).tail.map T.least, places (ns.length + 1) (ks.take (0 + 1))⟩ :: layL (ns.length + 1) (ks.take 0)).length → ¬ bl (vAt (VX.set ns.length ((vAt VX ns.length).1, (vAt VX ns.length).2.1, .slice ai2 ni2 ci2)) i) y) := by
          intro y hy
          have hs := HLB.out.hSS (0) hks y hy
          have hS1 := HS.out y hs.1
          have hsz := HL2.out.only.size
          refine ⟨by omega, fun e => ?_, fun i hi hb => ?_⟩
          · rcases HL2.out.vb y e with h | h
            · exact hS1.2.1 h
            · omega
          · by_cases hin : i < ns.length
            · rw [HL2.out.old i hin] at hb
              exact hS1.2.2 i hin hb
            · rcases HL2.out.new i (by omega) hi y hb with (h | ⟨z, hz, h⟩) | h
              · exact hs.2.2.1 h
              · exact HLB.out.hD z (0) (by omega) hks (by omega) y h hy
              · omega
        go_wp2_with fail
        refine (HIH.out (tAt ks (0)) (tAt_mem hks) (SS (0)) (A (0)) _ (.slice (some ⟨g', 0, none⟩) n' c') _ _ false HKID.out (HBR.out hks) HL2.out.na HCOND.out HBND.out).mono ?_
        rintro e w9 ⟨v9, V9, rfl, hI9⟩
        rw [HEQ.out] at hI9
        have HL9 : Hid (NI w w9 (.slice av nv cv) v9 V0 V9 ns (ns ++ ⟨ps, (ks.take (0 + 1)).tail.map T.least, places (ns.length + 1) (ks.take (0 + 1))⟩ :: layL (ns.length + 1) (ks.take (0 + 1))) (fun y => (Value.slice ap np cp).ownBlock = some y ∨ ∃ i, i < 0 + 1 ∧ SS i y)) := by
          refine (HL2.out.then (by simp) hI9).mono ?_
          rintro y ((h | ⟨i, hi, h⟩) | h)
          · exact .inl h
          · exact .inr ⟨i, by omega, h⟩
          · exact .inr ⟨0, by omega, h⟩
        have HK9 : Hid (KF w V9 ns.length) := by
          intro y hy
          rw [hI9.old ns.length (by simp)] at hy
          exact HK2.out y hy
        obtain ⟨a9, n9, c9, e9, -⟩ := HL9.out.na.shape
        subst e9
        obtain ⟨g9, e9, -⟩ := HL9.out.na.rowAt (by rw [List.length_append, List.length_cons]; omega)
        subst e9
        clear hI9 HL2 HK2 HCOND HKID z2 zf
        go_wp2
        go_roundw
        case rel => exact ⟨0 + 1, g9, n9, c9, V9, by omega, by go_num, rfl, HL9.out, HK9.out⟩
        case measure => simp [intOf]; omega

      | succ k' =>
        have hk1 : (0 : Int) < (k' : Int) + 1 := by omega
        have hk2 : (k' : Int) + 1 < (nk : Int) := by omega
        obtain ⟨-, m1, -, mf⟩ := HL.out.na.cells ns.length (by simp)
        have hrow := (HL.out.na.own ns.length (by simp)).1.2.1
        rw [nAt_append_at] at hrow
        simp only at hrow
        obtain ⟨akx, ckx, hkx⟩ := own_shape hrow
        have HNKX : Hid (((ks.take (k' + 1)).tail.map T.least).length = k') := by show _ = _; simp; omega
        rw [HNKX.out] at hkx hrow
        have HBKX := hid hkx
        rw [hkx] at m1 hrow
        rw [← HNV.out] at m1
        have mf1 := mf (nv * 3 + 1)
        have hnv : (nv : Int) < (n' : Int) := by have h1 := HLN.out; have h2 := HNV.out; omega
        have hnv0 : (0 : Int) ≤ (nv : Int) := by omega
        have hkk : k' ≤ 1048576 := by have := HK4.out; omega
        have HNE := hid (full_ne _ _ (HBR.out hks))
        have HLS : Hid (∀ (u : World), Below wr.heap.size wr u → Calls Tryz.prog 91 #[.pointer (some ⟨A (k' + 1), 0, none⟩)] u fun e w' => e = .returned (.string (tAt ks (k' + 1)).least) ∧ ∃ q, w' = u.drewN q) :=
          fun u hu => least_any (SS (k' + 1)) (A (k' + 1)) (tAt ks (k' + 1)) u (((HLB.out.hk (k' + 1) hks).to HL.out.only (fun x hx e => (HS.out x (HLB.out.hSS (k' + 1) hks x hx).1).2.1 e)).kept hu) HNE.out
        have HKEY : Hid ((ks.take (k' + 1 + 1)).tail.map T.least = (ks.take (k' + 1)).tail.map T.least ++ [(tAt ks (k' + 1)).least]) := keys_take ks k' hks
        generalize hz : (tAt ks (k' + 1)).least = z at *
        clear hz
        have HBW : Hid (∀ q1, Below wr.heap.size wr ((wr.drewN q1).alloc (.cells #[.string z] 9))) := fun q1 => Below.then' (below_dn wr q1) (below_new (Below.refl _ _)) (Nat.le_refl _)
        have HM : Hid (∀ q1, ((wr.drewN q1).alloc (.cells #[.string z] 9)).cell? ⟨g', nv * 3 + 1, none⟩ = some (.slice akx k' ckx) ∧ ((wr.drewN q1).alloc (.cells #[.string z] 9)).frozen? ⟨g', nv * 3 + 1, none⟩ = false ∧ ((wr.drewN q1).alloc (.cells #[.string z] 9)).ownsRow 0 9 1 (.slice akx k' ckx) k' (((ks.take (k' + 1)).tail.map T.least).map Value.string)) := by
          intro q1
          obtain ⟨-, h1, -, h2⟩ := (HL.out.na.kept (HBW.out q1)).cells ns.length (by simp)
          rw [HBKX.out, ← HNV.out] at h1
          exact ⟨h1, h2 _, own_kept hrow (only_of_below (HBW.out q1) (fun _ => False)) (fun _ _ h => h)⟩
        have HZC : Hid (∀ q1, ((wr.drewN q1).alloc (.cells #[.string z] 9)).cell? ⟨wr.heap.size, 0, none⟩ = some (.string z)) := fun q1 => (Bk.new (wr.drewN q1) 9 [.string z]).cell (j := 0) rfl
        have HNB : Hid ((Value.slice akx k' ckx).ownBlock ≠ some g') := fun e => HL.out.na.off ns.length (by simp) g' (.inr (.inl (by rw [HBKX.out]; exact e))) rfl
        have HFIN : Hid (∀ q1 (a5 : Option Addr) (n5 c5 : Nat) (w5 : World), w5.ownsRow 0 9 1 (.slice a5 n5 c5) (k' + 1) (((ks.take (k' + 1)).tail.map T.least).map Value.string ++ [.string z]) → ((wr.drewN q1).alloc (.cells #[.string z] 9)).grownBy w5 (Value.slice akx k' ckx).ownBlock →
            ((Value.slice a5 n5 c5).ownBlock = (Value.slice akx k' ckx).ownBlock ∨ (Value.slice a5 n5 c5).ownBlock = some ((wr.drewN q1).alloc (.cells #[.string z] 9)).heap.size) →
            ∃ VX, NI w (w5.setCell ⟨g', nv * 3 + 1, none⟩ (.slice a5 n5 c5)) (.slice av nv cv) (.slice (some ⟨g', 0, none⟩) n' c') V0 VX ns (ns ++ ⟨ps, (ks.take (k' + 1 + 1)).tail.map T.least, places (ns.length + 1) (ks.take (k' + 1))⟩ :: layL (ns.length + 1) (ks.take (k' + 1))) (fun y => (Value.slice ap np cp).ownBlock = some y ∨ ∃ i, i < k' + 1 ∧ SS i y) ∧ KF w VX ns.length) := by
          intro q1 a5 n5 c5 w5 hO5 hg5 ha5
          have h1 := (HL.out.keep (HBW.out q1)).addKey (s := z) (kx' := .slice a5 n5 c5) (by simp only; rw [HNKX.out]; exact hO5) (by rw [HBKX.out]; exact hg5) (by rw [HBKX.out]; exact ha5.imp id (fun e => ⟨_, e, Nat.le_refl _⟩)) (fun y hy => HKF.out y (.inl hy))
          have e3 : (⟨g', ns.length * 3 + 1, none⟩ : Addr) = ⟨g', nv * 3 + 1, none⟩ := by rw [HNV.out]
          rw [e3] at h1
          refine ⟨_, by rw [HKEY.out]; exact h1, ?_⟩
          intro y hy
          rw [vAt_set _ _ _ (by rw [HL.out.na.len]; simp)] at hy
          rcases hy with hy | hy
          · rcases ha5 with e | e
            · exact HKF.out y (.inl (by rw [HBKX.out, ← e]; exact hy))
            · rw [e] at hy; cases hy
              have h3 := HL.out.only.size
              have h4 := (HBW.out q1).size
              omega
          · exact HKF.out y (.inr hy)
        have cq0 := cq
        clear hrow hkx mf HNKX HKF HNE
        go_wp2_with fail
        go_cut [1] (fun x v2 => x = .slice (some ⟨g', 0, none⟩) n' c' ∧ Hid (∃ VX, NI w v2 (.slice av nv cv) (.slice (some ⟨g', 0, none⟩) n' c') V0 VX ns (ns ++ ⟨ps, (ks.take (k' + 1 + 1)).tail.map T.least, places (ns.length + 1) (ks.take (k' + 1))⟩ :: layL (ns.length + 1) (ks.take (k' + 1))) (fun y => (Value.slice ap np cp).ownBlock = some y ∨ ∃ i, i < k' + 1 ∧ SS i y) ∧ KF w VX ns.length))
        case first =>
          go_region_law (first
            | (go_simp; go_at_call 91; refine (HLS.out _ (below_drew _)).mono ?_; rintro e w4 ⟨rfl, q1, rfl⟩; have f1 := (HM.out (1 + q1)).1)
            | (refine step_append_str1 rfl _ _ rfl _ k' _ rfl (HM.out _).2.2 wr.heap.size z rfl (HZC.out _) hkk g' (nv * 3 + 1) _ (HM.out _).1 (HM.out _).2.1 HNB.out ?_; intro a5 n5 c5 w5 hO5 hg5 ha5 hc5 hf5))
          all_goals (go_wp2_with fail; go_meet)
          all_goals exact ⟨rfl, HFIN.out _ _ _ _ _ hO5 hg5 ha5⟩
        case rest =>
          obtain ⟨rfl, HV⟩ := hcut
          obtain ⟨VX, hlx, hkx⟩ := HV.out
          have HLX := hid hlx
          have HKX := hid hkx
          clear HV hlx hkx HL HM HZC HNB HFIN HLS HBW HKEY m1 mf1 cq cq0 HBKX

          have HL2X := HLX
          obtain ⟨-, -, m2, mf⟩ := HLX.out.na.cells ns.length (by simp)
          have hrow := (HLX.out.na.own ns.length (by simp)).1.2.2
          rw [nAt_append_at] at hrow
          simp only at hrow
          obtain ⟨aki, cki, hki⟩ := own_shape hrow
          have HNKI : Hid ((places (ns.length + 1) (ks.take (k' + 1))).length = (k' + 1)) := by show _ = _; rw [places_length, List.length_take]; omega
          rw [HNKI.out] at hki hrow
          have HBLK := hid hki
          rw [hki] at m2 hrow
          rw [← HNV.out] at m2
          have mf2 := mf (nv * 3 + 2)
          have HLu := hid (HLX.out.keep (below_new (o := .cells #[.int .i64 (n' : Int)] 3) (Below.refl _ _)))
          have HRI : Hid (World.ownsRow (wc.alloc (.cells #[.int .i64 (n' : Int)] 3)) 0 3 1 (.slice aki ((k' + 1)) cki) ((k' + 1)) ((places (ns.length + 1) (ks.take (k' + 1))).map (Value.int .i64))) := own_kept hrow (only_of_below (below_new (Below.refl _ _)) (fun _ => False)) (fun _ _ h => h)
          have hnv : (nv : Int) < (n' : Int) := by have h1 := HLN.out; have h2 := HNV.out; omega
          have hnv0 : (0 : Int) ≤ (nv : Int) := by omega
          have m2a : (wc.alloc (.cells #[.int .i64 (n' : Int)] 3)).cell? ⟨g', nv * 3 + 2, none⟩ = some (.slice aki ((k' + 1)) cki) := by
            have := (HLu.out.na.cells ns.length (by simp)).2.2.1
            rw [HBLK.out, ← HNV.out] at this
            exact this
          have hkk : (k' + 1) ≤ 1048576 := by have := HK4.out; omega
          clear hrow mf hki
          go_wp2_with (at_builtin; refine wpList_append_int1 rfl _ _ rfl _ ((k' + 1)) _ rfl HRI.out wc.heap.size (n' : Int) rfl (Bk.new wc 3 [.int .i64 (n' : Int)]) hkk ?_)
          intro ai2 ni2 ci2 w2 hO2 hg2 ha2
          have HL2 : Hid (NI w (w2.setCell ⟨g', nv * 3 + 2, none⟩ (.slice ai2 ni2 ci2)) (.slice av nv cv) (.slice (some ⟨g', 0, none⟩) n' c') V0 (VX.set ns.length ((vAt VX ns.length).1, (vAt VX ns.length).2.1, .slice ai2 ni2 ci2)) ns (ns ++ ⟨ps, (ks.take ((k' + 1) + 1)).tail.map T.least, places (ns.length + 1) (ks.take ((k' + 1) + 1))⟩ :: layL (ns.length + 1) (ks.take (k' + 1))) (fun y => (Value.slice ap np cp).ownBlock = some y ∨ ∃ i, i < (k' + 1) ∧ SS i y)) := by
            have h2 : places (ns.length + 1) (ks.take ((k' + 1) + 1)) = places (ns.length + 1) (ks.take (k' + 1)) ++ [(n' : Int)] := by rw [places_take ks _ _ hks, HLN.out]
            have h1 := HLu.out.addKid (s := (n' : Int)) (kx' := .slice ai2 ni2 ci2) (by simp only; rw [HNKI.out]; exact hO2) (by rw [HBLK.out]; exact hg2) (by rw [HBLK.out]; exact ha2.imp id (fun e => ⟨_, e, by simp⟩)) (fun y hy => HKX.out y (.inr hy))
            show NI _ _ _ _ _ _ _ _ _
            have e3 : (⟨g', ns.length * 3 + 2, none⟩ : Addr) = ⟨g', nv * 3 + 2, none⟩ := by rw [HNV.out]
            rw [e3] at h1
            rw [h2]
            exact h1
          have HK2 : Hid (KF w (VX.set ns.length ((vAt VX ns.length).1, (vAt VX ns.length).2.1, .slice ai2 ni2 ci2)) ns.length) := by
            intro y hy
            rw [vAt_set _ _ _ (by rw [HLX.out.na.len]; simp)] at hy
            rcases hy with hy | hy
            · exact HKX.out y (.inl hy)
            · rcases ha2 with e | e
              · exact HKX.out y (.inr (by rw [HBLK.out, ← e]; exact hy))
              · rw [e] at hy; cases hy
                have := HLX.out.only.size
                simp; omega
          have hz2 := World.cell?_of_block (w := wc.alloc (.cells #[.int .i64 (n' : Int)] 3)) (w' := w2) (a := ⟨g', nv * 3 + 2, none⟩) (hg2.block g' (block_lt m2a) (fun e => HLu.out.na.off ns.length (by simp) g' (.inr (.inr (by rw [HBLK.out]; exact e.symm))) rfl))
          have z2 := hz2.trans m2a
          have zf : w2.frozen? ⟨g', nv * 3 + 2, none⟩ = false := (World.frozen?_of_block (w := wc.alloc (.cells #[.int .i64 (n' : Int)] 3)) (w' := w2) (a := ⟨g', nv * 3 + 2, none⟩) (hg2.block g' (block_lt m2a) (fun e => HLu.out.na.off ns.length (by simp) g' (.inr (.inr (by rw [HBLK.out]; exact e.symm))) rfl))).trans ((HLu.out.na.cells ns.length (by simp)).2.2.2 _)
          clear hO2 hg2 ha2 HRI HLu hz2 m2a m2 mf2 HL2X
          have HLEN : Hid ((ns ++ ⟨ps, (ks.take ((k' + 1) + 1)).tail.map T.least, places (ns.length + 1) (ks.take ((k' + 1) + 1))⟩ :: layL (ns.length + 1) (ks.take (k' + 1))).length = ns.length + 1 + szL (ks.take (k' + 1))) := by show _ = _; simp [layL_length]; omega
          have HEQ : Hid ((ns ++ ⟨ps, (ks.take ((k' + 1) + 1)).tail.map T.least, places (ns.length + 1) (ks.take ((k' + 1) + 1))⟩ :: layL (ns.length + 1) (ks.take (k' + 1))) ++ lay (ns ++ ⟨ps, (ks.take ((k' + 1) + 1)).tail.map T.least, places (ns.length + 1) (ks.take ((k' + 1) + 1))⟩ :: layL (ns.length + 1) (ks.take (k' + 1))).length (tAt ks ((k' + 1))) = ns ++ ⟨ps, (ks.take ((k' + 1) + 1)).tail.map T.least, places (ns.length + 1) (ks.take ((k' + 1) + 1))⟩ :: layL (ns.length + 1) (ks.take ((k' + 1) + 1))) := by
            show _ = _
            rw [HLEN.out, layL_take ks ((k' + 1)) (ns.length + 1) hks]
            simp
          have HBND : Hid ((ns ++ ⟨ps, (ks.take ((k' + 1) + 1)).tail.map T.least, places (ns.length + 1) (ks.take ((k' + 1) + 1))⟩ :: layL (ns.length + 1) (ks.take (k' + 1))).length + (tAt ks ((k' + 1))).size ≤ 1048576) := by
            show _ ≤ _
            have h1 := szL_take_le ks ((k' + 1) + 1)
            rw [szL_take ks ((k' + 1)) hks] at h1
            have h2 := HSZK.out
            rw [HLEN.out]
            omega
          have HKID : Hid (Limb (w2.setCell ⟨g', nv * 3 + 2, none⟩ (.slice ai2 ni2 ci2)) (SS ((k' + 1))) (A ((k' + 1))) (tAt ks ((k' + 1)))) := (HLB.out.hk ((k' + 1)) hks).to HL2.out.only (fun x hx e => (HS.out x (HLB.out.hSS ((k' + 1)) hks x hx).1).2.1 e)
          have HCOND : Hid (∀ y, SS ((k' + 1)) y → y < (w2.setCell ⟨g', nv * 3 + 2, none⟩ (.slice ai2 ni2 ci2)).heap.size ∧ (Value.slice (some ⟨g', 0, none⟩) n' c').ownBlock ≠ some y ∧ ∀ i, i < (ns ++ ⟨ps, (ks.take ((k' + 1) + 1)).tail.map T.least, places (ns.length + 1) (ks.take ((k' + 1) + 1))⟩ :: layL (ns.length + 1) (ks.take (k' + 1))).length → ¬ bl (vAt (VX.set ns.length ((vAt VX ns.length).1, (vAt VX ns.length).2.1, .slice ai2 ni2 ci2)) i) y) := by
            intro y hy
            have hs := HLB.out.hSS ((k' + 1)) hks y hy
            have hS1 := HS.out y hs.1
            have hsz := HL2.out.only.size
            refine ⟨by omega, fun e => ?_, fun i hi hb => ?_⟩
            · rcases HL2.out.vb y e with h | h
              · exact hS1.2.1 h
              · omega
            · by_cases hin : i < ns.length
              · rw [HL2.out.old i hin] at hb
                exact hS1.2.2 i hin hb
              · rcases HL2.out.new i (by omega) hi y hb with (h | ⟨z, hz, h⟩) | h
                · exact hs.2.2.1 h
                · exact HLB.out.hD z ((k' + 1)) (by omega) hks (by omega) y h hy
                · omega
          go_wp2_with fail
          refine (HIH.out (tAt ks ((k' + 1))) (tAt_mem hks) (SS ((k' + 1))) (A ((k' + 1))) _ (.slice (some ⟨g', 0, none⟩) n' c') _ _ false HKID.out (HBR.out hks) HL2.out.na HCOND.out HBND.out).mono ?_
          rintro e w9 ⟨v9, V9, rfl, hI9⟩
          rw [HEQ.out] at hI9
          have HL9 : Hid (NI w w9 (.slice av nv cv) v9 V0 V9 ns (ns ++ ⟨ps, (ks.take ((k' + 1) + 1)).tail.map T.least, places (ns.length + 1) (ks.take ((k' + 1) + 1))⟩ :: layL (ns.length + 1) (ks.take ((k' + 1) + 1))) (fun y => (Value.slice ap np cp).ownBlock = some y ∨ ∃ i, i < (k' + 1) + 1 ∧ SS i y)) := by
            refine (HL2.out.then (by simp) hI9).mono ?_
            rintro y ((h | ⟨i, hi, h⟩) | h)
            · exact .inl h
            · exact .inr ⟨i, by omega, h⟩
            · exact .inr ⟨(k' + 1), by omega, h⟩
          have HK9 : Hid (KF w V9 ns.length) := by
            intro y hy
            rw [hI9.old ns.length (by simp)] at hy
            exact HK2.out y hy
          obtain ⟨a9, n9, c9, e9, -⟩ := HL9.out.na.shape
          subst e9
          obtain ⟨g9, e9, -⟩ := HL9.out.na.rowAt (by rw [List.length_append, List.length_cons]; omega)
          subst e9
          clear hI9 HL2 HK2 HCOND HKID z2 zf
          go_wp2
          go_roundw
          case rel => exact ⟨(k' + 1) + 1, g9, n9, c9, V9, by omega, by go_num, rfl, HL9.out, HK9.out⟩
          case measure => simp [intOf]; omega

    · have hk' : k = nk := by omega
      have HTK : Hid (ks.take k = ks) := by show _ = _; rw [hk', ← HNK.out, List.take_length]
      rw [HTK.out] at HL
      have hnlt : ¬ (k : Int) < (nk : Int) := by omega
      have HLY : Hid (ns ++ lay ns.length (T.mk ps ks) = ns ++ ⟨ps, ks.tail.map T.least, places (ns.length + 1) ks⟩ :: layL (ns.length + 1) ks) := by
        show _ = _
        by_cases hk : ks = []
        · subst hk; simp [lay, layL, places]
        · obtain ⟨_, _, hp, _⟩ := full_br HFU.out hk; simp [lay, hk, hp]
      have HFIN : Hid (NI w wr (.slice av nv cv) (.slice (some ⟨g', 0, none⟩) n' c') V0 V ns (ns ++ lay ns.length (T.mk ps ks)) S) := by
        show NI _ _ _ _ _ _ _ _ _
        rw [HLY.out]
        refine HL.out.mono ?_
        rintro y (h | ⟨i, hi, h⟩)
        · exact (HLB.out.hPS y h).1
        · exact (HLB.out.hSS i (by rw [HNK.out]; omega) y h).1
      clear HL HTK hk' HLY
      go_wp2
      go_ret
      exact ⟨_, V, rfl, HFIN.out⟩
end Go.Proofs.YtkfeefaokghibabGreat
/-
  rootPut: the root behind the put.
-/
namespace Go.Proofs.YtkfeefaokghibabGreat
open Go.RowKit
def OnePost (w : World) (S : Nat → Prop) (t : T) (e : Ending) (w' : World) : Prop := ∃ b, e = .returned (.pointer (some ⟨b, 0, none⟩)) ∧ OneL w w' b t S
theorem root_new {w X : World} {S S1 S2 : Nat → Prop} {b b2 : Nat} {t1 t2 : T} (h1 : Limb X S1 b t1) (h2 : Limb X S2 b2 t2) (hd : ∀ x, S1 x → ¬ S2 x) (hS : ∀ x, S1 x ∨ S2 x → (S x ∨ w.heap.size ≤ x) ∧ x < X.heap.size) (hon : Only S w X) :
    OneL w ((X.alloc (.cells #[.pointer (some ⟨b, 0, none⟩), .pointer (some ⟨b2, 0, none⟩)] 59)).alloc (.cells #[.slice none 0 0, .slice (some ⟨X.heap.size, 0, none⟩) 2 2] 93)) (X.heap.size + 1) (.mk [] [t1, t2]) S := by
  have hbn : Below X.heap.size X ((X.alloc (.cells #[.pointer (some ⟨b, 0, none⟩), .pointer (some ⟨b2, 0, none⟩)] 59)).alloc (.cells #[.slice none 0 0, .slice (some ⟨X.heap.size, 0, none⟩) 2 2] 93)) := below_new (below_new (Below.refl _ _))
  have k1 : Bk ((X.alloc (.cells #[.pointer (some ⟨b, 0, none⟩), .pointer (some ⟨b2, 0, none⟩)] 59)).alloc (.cells #[.slice none 0 0, .slice (some ⟨X.heap.size, 0, none⟩) 2 2] 93)) X.heap.size 59 [.pointer (some ⟨b, 0, none⟩), .pointer (some ⟨b2, 0, none⟩)] := (Bk.new X 59 [.pointer (some ⟨b, 0, none⟩), .pointer (some ⟨b2, 0, none⟩)]).alloc _
  have k2 : Bk ((X.alloc (.cells #[.pointer (some ⟨b, 0, none⟩), .pointer (some ⟨b2, 0, none⟩)] 59)).alloc (.cells #[.slice none 0 0, .slice (some ⟨X.heap.size, 0, none⟩) 2 2] 93)) (X.heap.size + 1) 93 [.slice none 0 0, .slice (some ⟨X.heap.size, 0, none⟩) 2 2] := by
    have := Bk.new (X.alloc (.cells #[.pointer (some ⟨b, 0, none⟩), .pointer (some ⟨b2, 0, none⟩)] 59)) 93 [.slice none 0 0, .slice (some ⟨X.heap.size, 0, none⟩) 2 2]
    simpa using this
  have hsz : ((X.alloc (.cells #[.pointer (some ⟨b, 0, none⟩), .pointer (some ⟨b2, 0, none⟩)] 59)).alloc (.cells #[.slice none 0 0, .slice (some ⟨X.heap.size, 0, none⟩) 2 2] 93)).heap.size = X.heap.size + 2 := by simp
  have hs := hon.size
  refine ⟨fun x => (S1 x ∨ S2 x) ∨ x = X.heap.size ∨ x = X.heap.size + 1, .mk _ _ (.slice none 0 0) (.slice (some ⟨X.heap.size, 0, none⟩) 2 2) [] [t1, t2] (fun i => if i = 0 then b else b2) (fun i => if i = 0 then S1 else S2) (.inr (.inr rfl)) k2 (World.ownsRow_nil _ _ _ _) ⟨by simp [ptrs], .inr ⟨X.heap.size, 2, #[.pointer (some ⟨b, 0, none⟩), .pointer (some ⟨b2, 0, none⟩)], rfl, Nat.zero_le _, k1, Nat.le_refl _, by unfold maxLen; omega, rfl, rfl⟩⟩ (fun x hx => by cases hx) (fun x hx => ?_) (fun i hi x hx => ?_) (fun i j hi hj hij x hx hy => ?_) (fun i hi => ?_), fun x hx => ?_, hon.trans (only_of_below hbn _)⟩
  · cases hx
    exact ⟨.inr (.inl rfl), (show X.heap.size ≠ X.heap.size + 1 by omega), by simp [Value.ownBlock]⟩
  · have hx' : S1 x ∨ S2 x := by
      by_cases e : i = 0
      · simp only [e, if_true] at hx; exact .inl hx
      · simp only [e, if_false] at hx; exact .inr hx
    have := (hS x hx').2
    exact ⟨.inl hx', by omega, by simp [Value.ownBlock], by simp [Value.ownBlock]; omega⟩
  · simp at hi hj
    by_cases e : i = 0
    · have e' : j ≠ 0 := by omega
      simp only [e, if_true] at hx
      simp only [e', if_false] at hy
      exact hd x hx hy
    · have e' : j = 0 := by omega
      simp only [e, if_false] at hx
      simp only [e', if_true] at hy
      exact hd x hy hx
  · simp at hi
    by_cases e : i = 0
    · subst e; exact h1.kept hbn
    · obtain rfl : i = 1 := by omega
      exact h2.kept hbn
  · rw [hsz]
    rcases hx with h | h | h
    · exact ⟨(hS x h).1, by have := (hS x h).2; omega⟩
    · exact ⟨.inr (by omega), by omega⟩
    · exact ⟨.inr (by omega), by omega⟩
set_option maxHeartbeats 1000000 in
theorem rootPut_any (f : Nat) (S : Nat → Prop) (b : Nat) (t : T) (k v : ByteArray) (w : World) (hL : Limb w S b t) (hS : ∀ x, S x → x < w.heap.size) (g : PutIn f true t) :
    Calls Tryz.prog 28 #[.pointer (some ⟨b, 0, none⟩), .agg #[.string k, .string v]] w fun e w' => OnePost w S (rootT (putF f t (k, v))) e w' := by
  have hb := below_new (o := .cells #[.string k, .string v] 64) (w := w) (Below.refl _ _)
  have HB0 := hid hb
  have KP := hid (Bk.new w 64 [.string k, .string v])
  have p0 := KP.out.cell (j := 0) rfl
  have p1 := KP.out.cell (j := 1) rfl
  have HPT := hid (put_any f true S b t k v _ (hL.kept hb) (fun x hx => Nat.lt_of_lt_of_le (hS x hx) hb.size) g)
  have HOUT := hid (putF_out f true t (k, v) g)
  clear hb hL hS g
  go_enter Tryz.func28, Tryz.ntmps28
  go_wp2_with fail
  refine HPT.out.mono ?_
  rintro e w1 ⟨b2, rfl, S1, S2, k1, k2, k3, k4, k5⟩
  have HBA := hid (fun (w' : World) h1 => isBare_any S2 b2 (putF f t (k, v)).2 w' h1 (Nat.le_trans (small_out HOUT.out) (by omega)))
  have H1 := hid k1
  have H2 := hid k2
  have H3 := hid k3
  have H4 : Hid (∀ x, S1 x ∨ S2 x → (S x ∨ w.heap.size ≤ x) ∧ x < w1.heap.size) := fun x hx => ⟨(k4 x hx).1.imp id (fun h => Nat.le_trans HB0.out.size h), (k4 x hx).2⟩
  have H5 := hid ((only_of_below HB0.out S).trans k5)
  clear k1 k2 k3 k4 k5 HPT
  generalize hrr : putF f t (k, v) = rr at *
  have HRR := hid hrr
  clear hrr
  go_wp2_with fail
  refine (HBA.out _ H2.out).mono ?_
  rintro e w9 ⟨rfl, n2, rfl⟩
  have J1 := hid (H1.out.kept (below_dn w1 n2))
  have J2 := hid (H2.out.kept (below_dn w1 n2))
  have J4 : Hid (∀ x, S1 x ∨ S2 x → (S x ∨ w.heap.size ≤ x) ∧ x < (w1.drewN n2).heap.size) := H4.out
  have J5 := hid (H5.out.trans (only_of_below (below_dn w1 n2) S))
  generalize w1.drewN n2 = X at *
  clear H1 H2 H4 H5 HBA
  cases hbr : rr.2.bare with
  | true =>
    have HR : Hid (rootT rr = rr.1) := by show _ = _; rw [rootT, if_pos hbr]
    clear hbr
    go_wp2
    go_ret
    refine ⟨b, rfl, ?_⟩
    rw [HRR.out, HR.out]
    exact ⟨S1, J1.out, fun x hx => J4.out x (.inl hx), J5.out⟩
  | false =>
    have HR : Hid (rootT rr = .mk [] [rr.1, rr.2]) := by show _ = _; rw [rootT, if_neg (by rw [hbr]; simp)]
    have HN := hid (root_new J1.out J2.out H3.out J4.out J5.out)
    clear hbr
    go_wp2
    go_ret
    refine ⟨_, rfl, ?_⟩
    rw [HRR.out, HR.out]
    exact HN.out
end Go.Proofs.YtkfeefaokghibabGreat
