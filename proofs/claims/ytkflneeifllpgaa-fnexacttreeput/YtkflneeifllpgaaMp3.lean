/-
  Rows of subs; l03Split and l03Way of the specification.
-/
import Derived.Test.YtkflneeifllpgaaMp2
import Derived.Deep.DeepCutAuto
import Derived.Deep.RegionLaw
import Derived.Test.YtkflneeifllpgaaMp1
namespace Go.Proofs.Ytkflneeifllpgaa
open Go.RowKit
theorem Rw.take {w : World} {S : Nat → Prop} {a : Option Addr} {n c m : Nat} {xs : List Value} (h : Rw w S (.slice a n c) n xs) (hm : m ≤ n) (s : Nat) : Rw w S (.slice a m c) m (xs.take (m * s)) := by
  obtain ⟨a', c', e, h2, h3, h4, hn, h5⟩ := h
  cases e
  refine ⟨a, c, rfl, by omega, h3, fun e => by rw [e]; simp, hn, fun hp => ?_⟩
  obtain ⟨b, off, h6, h7, h8, h9⟩ := h5 (by omega)
  refine ⟨b, off, h6, h7, h8, fun j u hu => h9 j u ?_⟩
  rw [List.getElem?_take] at hu
  split at hu
  · exact hu
  · cases hu
theorem Rw.drop {w : World} {S : Nat → Prop} {b off n c m : Nat} {xs : List Value} (h : Rw w S (.slice (some ⟨b, off, none⟩) n c) n xs) (hm : m ≤ n) (s : Nat) (h0 : n - m = 0 → xs.drop (m * s) = []) : Rw w S (.slice (some ⟨b, off + m * s, none⟩) (n - m) (c - m)) (n - m) (xs.drop (m * s)) := by
  obtain ⟨a', c', e, h2, h3, h4, hn, h5⟩ := h
  cases e
  refine ⟨_, _, rfl, by omega, by omega, h0, fun e => (by cases e), fun hp => ?_⟩
  obtain ⟨b', off', h6, h7, h8, h9⟩ := h5 (by omega)
  cases h6
  refine ⟨b, off + m * s, rfl, h7, h8, fun j u hu => ?_⟩
  rw [List.getElem?_drop] at hu
  have := h9 _ u hu
  rwa [← Nat.add_assoc] at this
theorem ncs_take (V : List V3) : ∀ m, (ncs V).take (m * 3) = ncs (V.take m) := by
  induction V with
  | nil => intro m; simp [ncs]
  | cons p V ih =>
    intro m
    cases m with
    | zero => simp [ncs]
    | succ m =>
      rw [show (m + 1) * 3 = m * 3 + 1 + 1 + 1 by omega, ncs, List.take_succ_cons, List.take_succ_cons, List.take_succ_cons, ih, List.take_succ_cons, ncs]
theorem ncs_drop (V : List V3) : ∀ m, (ncs V).drop (m * 3) = ncs (V.drop m) := by
  induction V with
  | nil => intro m; simp [ncs]
  | cons p V ih =>
    intro m
    cases m with
    | zero => simp
    | succ m =>
      rw [show (m + 1) * 3 = m * 3 + 1 + 1 + 1 by omega, ncs, List.drop_succ_cons, List.drop_succ_cons, List.drop_succ_cons, ih, List.drop_succ_cons]
theorem mkV_take (L : Nat → Bool) (P K : Nat → Value) (n m : Nat) (h : m ≤ n) : (mkV L P K n).take m = mkV L P K m := by
  apply List.ext_getElem
  · simp [mkV]; omega
  · intro i h1 h2; simp [mkV]
theorem mkV_drop (L : Nat → Bool) (P K : Nat → Value) (n m : Nat) : (mkV L P K n).drop m = mkV (fun i => L (m + i)) (fun i => P (m + i)) (fun i => K (m + i)) (n - m) := by
  apply List.ext_getElem
  · simp [mkV]
  · intro i h1 h2; simp [mkV]
theorem mkV_app (L1 L2 : Nat → Bool) (P1 K1 P2 K2 : Nat → Value) (n1 n2 : Nat) : mkV L1 P1 K1 n1 ++ mkV L2 P2 K2 n2 = mkV (fun i => if i < n1 then L1 i else L2 (i - n1)) (fun i => if i < n1 then P1 i else P2 (i - n1)) (fun i => if i < n1 then K1 i else K2 (i - n1)) (n1 + n2) := by
  apply List.ext_getElem
  · simp [mkV]
  · intro i h1 h2
    by_cases hi : i < n1
    · rw [List.getElem_append_left (by simpa [mkV] using hi)]; simp [mkV, hi]
    · rw [List.getElem_append_right (by simpa [mkV] using hi)]; simp [mkV, hi]
/-- The slice v leads to the subs ts. -/
def SubR (w : World) (S : Nat → Prop) (v : Value) (ts : List T) : Prop := ∃ L P K, Rw w S v ts.length (ncs (mkV L P K ts.length)) ∧ ∀ i, i < ts.length → Sub w S (L i) (P i) (K i) (tAt ts i)
theorem SubR.to {w w' : World} {S R : Nat → Prop} {v : Value} {ts : List T} (h : SubR w S v ts) (ho : Only R w w') (hR : ∀ x, S x → x < w.heap.size → ¬ R x) : SubR w' S v ts := by
  obtain ⟨L, P, K, h1, h2⟩ := h
  exact ⟨L, P, K, h1.to ho hR, fun i hi => (h2 i hi).to ho hR⟩
theorem SubR.kept {w w' : World} {S : Nat → Prop} {v : Value} {ts : List T} (h : SubR w S v ts) (hb : Below w.heap.size w w') : SubR w' S v ts := h.to (only_of_below hb (fun _ => False)) (fun _ _ _ h => h)
theorem SubR.mono {w : World} {S R : Nat → Prop} {v : Value} {ts : List T} (h : SubR w S v ts) (hR : ∀ x, S x → x < w.heap.size → R x) : SubR w R v ts := by
  obtain ⟨L, P, K, h1, h2⟩ := h
  exact ⟨L, P, K, h1.mono hR, fun i hi => (h2 i hi).mono hR⟩
theorem SubR.shape {w : World} {S : Nat → Prop} {v : Value} {ts : List T} (h : SubR w S v ts) : ∃ a n c, v = .slice a n c ∧ Hid (n = ts.length) := by
  obtain ⟨L, P, K, h1, h2⟩ := h
  obtain ⟨a, c, e, _⟩ := h1.shape
  exact ⟨a, _, c, e, rfl⟩
/-- A sub of kids alone. -/
theorem SubR.sub {w : World} {S : Nat → Prop} {v : Value} {ts : List T} (h : SubR w S v ts) (hne : ts ≠ []) : Sub w S false (.slice none 0 0) v (.mk [] ts) := by
  obtain ⟨L, P, K, h1, h2⟩ := h
  exact .mk false _ v [] ts L P K (by have := List.length_pos_iff.2 hne; symm; exact decide_eq_false (by omega)) (rw_nil _ _) h1 h2
theorem Sub.row {w : World} {S : Nat → Prop} {lf : Bool} {pv kv : Value} {t : T} (h : Sub w S lf pv kv t) : SubR w S kv t.ks := by
  cases h with
  | mk _ _ _ ps ks L P K hlf hP hK hk => exact ⟨L, P, K, hK, hk⟩
theorem SubR.take {w : World} {S : Nat → Prop} {a : Option Addr} {n c m : Nat} {ts : List T} (h : SubR w S (.slice a n c) ts) (hm : m ≤ n) : SubR w S (.slice a m c) (ts.take m) := by
  obtain ⟨L, P, K, h1, h2⟩ := h
  have hn := h1.len.1
  subst hn
  have hl : (ts.take m).length = m := by rw [List.length_take]; omega
  refine ⟨L, P, K, ?_, fun i hi => ?_⟩
  · have := h1.take hm 3
    rw [ncs_take, mkV_take _ _ _ _ _ hm] at this
    rw [hl]; exact this
  · rw [hl] at hi; rw [tAt_take hi]; exact h2 i (by omega)
theorem SubR.drop {w : World} {S : Nat → Prop} {b off n c m : Nat} {ts : List T} (h : SubR w S (.slice (some ⟨b, off, none⟩) n c) ts) (hm : m ≤ n) : SubR w S (.slice (some ⟨b, off + m * 3, none⟩) (n - m) (c - m)) (ts.drop m) := by
  obtain ⟨L, P, K, h1, h2⟩ := h
  have hn := h1.len.1
  subst hn
  refine ⟨fun i => L (m + i), fun i => P (m + i), fun i => K (m + i), ?_, fun i hi => ?_⟩
  · have := h1.drop hm 3 (fun e => by rw [ncs_drop, mkV_drop, e]; rfl)
    rw [ncs_drop, mkV_drop] at this
    rw [List.length_drop]; exact this
  · rw [List.length_drop] at hi; rw [tAt_drop]; exact h2 (m + i) (by omega)
def SubsPost (w : World) (S : Nat → Prop) (ts : List T) (e : Ending) (w' : World) : Prop := ∃ v, e = .returned v ∧ SubR w' (fun y => S y ∨ w.heap.size ≤ y) v ts ∧ Below w.heap.size w w'
theorem subR_two {w : World} {S : Nat → Prop} {g : Nat} {l1 l2 : Bool} {p1 k1 p2 k2 : Value} {t1 t2 : T} (hB : Bk w g 74 [.bool l1, p1, k1, .bool l2, p2, k2]) (hS : S g) (h1 : Sub w S l1 p1 k1 t1) (h2 : Sub w S l2 p2 k2 t2) : SubR w S (.slice (some ⟨g, 0, none⟩) 2 2) [t1, t2] := by
  refine ⟨fun i => if i = 0 then l1 else l2, fun i => if i = 0 then p1 else p2, fun i => if i = 0 then k1 else k2, hB.rw (Nat.le_refl _) (by omega) (fun h => by omega) _ hS, fun i hi => ?_⟩
  simp at hi
  by_cases e : i = 0
  · subst e; exact h1
  · obtain rfl : i = 1 := by omega
    exact h2
theorem subR_one {w : World} {S : Nat → Prop} {g : Nat} {l1 : Bool} {p1 k1 : Value} {t1 : T} (hB : Bk w g 74 [.bool l1, p1, k1]) (hS : S g) (h1 : Sub w S l1 p1 k1 t1) : SubR w S (.slice (some ⟨g, 0, none⟩) 1 1) [t1] := by
  refine ⟨fun _ => l1, fun _ => p1, fun _ => k1, hB.rw (Nat.le_refl _) (by omega) (fun h => by omega) _ hS, fun i hi => ?_⟩
  simp at hi; subst hi; exact h1
theorem Sub.leafOf {w : World} {S : Nat → Prop} {pv : Value} {ps : List PB} (h : Pr w S pv ps) : Sub w S true pv (.slice none 0 0) (.mk ps []) := .mk true pv _ ps [] (fun _ => false) (fun _ => .slice none 0 0) (fun _ => .slice none 0 0) rfl h (rw_nil _ _) (fun i hi => by simp at hi)
set_option maxHeartbeats 2000000 in
theorem specSplit_any (S : Nat → Prop) (lf : Bool) (ap ak : Option Addr) (np cp nk ck : Nat) (t : T) (w : World) (h : Sub w S lf (.slice ap np cp) (.slice ak nk ck) t) :
    Calls Try.prog 85 #[.agg #[.bool lf, .slice ap np cp, .slice ak nk ck]] w fun e w' => SubsPost w S (splT t) e w' := by
  obtain ⟨_, _, _, _, _, _, e1, e2, HNP, HNK, b1, b2, hlf, hP⟩ := h.shape
  cases e1
  cases e2
  have hcp := (Rw.len hP).2
  have HR := hid h.row
  have hck : nk ≤ ck ∧ ck ≤ 9223372036854775807 := by
    obtain ⟨L, P, K, h1, _⟩ := h.row
    exact h1.len.2
  have H0 := hid h
  have HP := hid hP
  have HB0 := hid (below_new (o := .cells #[.bool lf, .slice ap np cp, .slice ak nk ck] 74) (w := w) (Below.refl _ _))
  have K0 := hid (Bk.new w 74 [.bool lf, .slice ap np cp, .slice ak nk ck])
  have c0 := K0.out.cell (j := 0) rfl
  have c1 := K0.out.cell (j := 1) rfl
  have c2 := K0.out.cell (j := 2) rfl
  clear h hP
  obtain ⟨hcp1, hcp2⟩ := hcp
  obtain ⟨hck1, hck2⟩ := hck
  by_cases hk : nk = 0
  · have hlf' : lf = true := by rw [hlf, hk]; rfl
    have HKS : Hid (t.ks = []) := List.eq_nil_of_length_eq_zero (by rw [← HNK.out]; exact hk)
    subst hlf' hk
    by_cases h4 : 4 < np
    · have h4' : (4 : Int) < (np : Int) := by omega
      have h4a : (3 : Int) ≤ (np : Int) := by omega
      have h4b : (3 : Int) ≤ (cp : Int) := by omega
      have HT : Hid (splT t = [.mk (t.ps.take 3) [], .mk (t.ps.drop 3) []]) := by show _ = _; rw [splT, if_pos ⟨HKS.out, by rw [← HNP.out]; exact h4⟩]
      obtain ⟨b, off, hab, _, _, _⟩ := (HP.out).at (by omega)
      subst hab
      have hn : np = t.ps.length := HNP.out
      have HQ : Hid (Pr w S (.slice (some ⟨b, off, none⟩) 3 cp) (t.ps.take 3) ∧ Pr w S (.slice (some ⟨b, off + 3 * 2, none⟩) (np - 3) (cp - 3)) (t.ps.drop 3)) := by
        have hp := HP.out
        unfold Pr at hp
        rw [← hn] at hp
        refine ⟨?_, ?_⟩
        · have := hp.take (m := 3) (by omega) 2
          rw [pcs_take] at this
          unfold Pr
          rw [List.length_take, ← hn, Nat.min_eq_left (by omega)]
          exact this
        · have := hp.drop (m := 3) (by omega) 2 (by omega)
          rw [pcs_drop] at this
          unfold Pr
          rw [List.length_drop, ← hn]
          exact this
      have HFIN : Hid (SubsPost w S (splT t) (.returned (.slice (some ⟨w.heap.size + 1, 0, none⟩) 2 2)) ((w.alloc (.cells #[.bool true, .slice (some ⟨b, off, none⟩) np cp, .slice ak 0 ck] 74)).alloc (.cells #[.bool true, .slice (some ⟨b, off, none⟩) 3 cp, .slice none 0 0, .bool true, .slice (some ⟨b, off + 6, none⟩) (np - 3) (cp - 3), .slice none 0 0] 74)).drew) := by
        have hb : Below w.heap.size w ((w.alloc (.cells #[.bool true, .slice (some ⟨b, off, none⟩) np cp, .slice ak 0 ck] 74)).alloc (.cells #[.bool true, .slice (some ⟨b, off, none⟩) 3 cp, .slice none 0 0, .bool true, .slice (some ⟨b, off + 6, none⟩) (np - 3) (cp - 3), .slice none 0 0] 74)).drew := Below.then' (below_new (below_new (Below.refl _ _))) (below_drew _) (Nat.le_refl _)
        refine ⟨_, rfl, ?_, hb⟩
        rw [HT.out]
        have kb := (Bk.new (w.alloc (.cells #[.bool true, .slice (some ⟨b, off, none⟩) np cp, .slice ak 0 ck] 74)) 74 [.bool true, .slice (some ⟨b, off, none⟩) 3 cp, .slice none 0 0, .bool true, .slice (some ⟨b, off + 6, none⟩) (np - 3) (cp - 3), .slice none 0 0]).below (below_drew _)
        refine subR_two (by simpa using kb) (.inr (by omega)) (Sub.leafOf ((HQ.out.1.below hb).mono (fun y hy _ => .inl hy))) (Sub.leafOf ((HQ.out.2.below hb).mono (fun y hy _ => .inl hy)))
      clear hn HP HR H0 hlf
      go_enter Try.func85, Try.ntmps85
      go_wp2_with fail
      go_region
      all_goals (go_wp2_with fail)
      all_goals go_ret
      all_goals exact HFIN.out
    · have h4' : ¬ (4 : Int) < (np : Int) := by omega
      have HT : Hid (splT t = [t]) := by show _ = _; rw [splT, if_neg (fun e => by have := e.2; rw [← HNP.out] at this; omega), if_neg (by rw [HKS.out]; simp)]
      have HFIN : Hid (SubsPost w S (splT t) (.returned (.slice (some ⟨w.heap.size + 1, 0, none⟩) 1 1)) ((w.alloc (.cells #[.bool true, .slice ap np cp, .slice ak 0 ck] 74)).alloc (.cells #[.bool true, .slice ap np cp, .slice ak 0 ck] 74))) := by
        have hb : Below w.heap.size w ((w.alloc (.cells #[.bool true, .slice ap np cp, .slice ak 0 ck] 74)).alloc (.cells #[.bool true, .slice ap np cp, .slice ak 0 ck] 74)) := below_new (below_new (Below.refl _ _))
        refine ⟨_, rfl, ?_, hb⟩
        rw [HT.out]
        have kb := (Bk.new (w.alloc (.cells #[.bool true, .slice ap np cp, .slice ak 0 ck] 74)) 74 [.bool true, .slice ap np cp, .slice ak 0 ck])
        exact subR_one (by simpa using kb) (.inr (by omega)) ((H0.out.kept hb).mono (fun y hy _ => .inl hy))
      clear HP HR H0 hlf
      go_enter Try.func85, Try.ntmps85
      go_wp2
      go_ret
      exact HFIN.out
  · have hlf' : lf = false := by rw [hlf]; exact decide_eq_false hk
    subst hlf'
    have HKS : Hid (t.ks ≠ []) := fun e => hk (by rw [HNK.out, e]; rfl)
    by_cases h4 : 4 < nk
    · have h4' : (4 : Int) < (nk : Int) := by omega
      have h4a : (3 : Int) ≤ (nk : Int) := by omega
      have h4b : (3 : Int) ≤ (ck : Int) := by omega
      have HT : Hid (splT t = [.mk [] (t.ks.take 3), .mk [] (t.ks.drop 3)]) := by show _ = _; rw [splT, if_neg (fun e => HKS.out e.1), if_pos (by rw [← HNK.out]; exact h4)]
      obtain ⟨b, off, hab⟩ : ∃ b off, ak = some ⟨b, off, none⟩ := by
        obtain ⟨L, P, K, h1, _⟩ := HR.out
        obtain ⟨b, off, e, _⟩ := h1.at (by omega)
        exact ⟨b, off, e⟩
      subst hab
      have HQ : Hid (SubR w S (.slice (some ⟨b, off, none⟩) 3 ck) (t.ks.take 3) ∧ SubR w S (.slice (some ⟨b, off + 3 * 3, none⟩) (nk - 3) (ck - 3)) (t.ks.drop 3)) := ⟨HR.out.take (by omega), HR.out.drop (by omega)⟩
      have HFIN : Hid (SubsPost w S (splT t) (.returned (.slice (some ⟨w.heap.size + 1, 0, none⟩) 2 2)) ((w.alloc (.cells #[.bool false, .slice ap np cp, .slice (some ⟨b, off, none⟩) nk ck] 74)).alloc (.cells #[.bool false, .slice none 0 0, .slice (some ⟨b, off, none⟩) 3 ck, .bool false, .slice none 0 0, .slice (some ⟨b, off + 9, none⟩) (nk - 3) (ck - 3)] 74)).drew) := by
        have hb : Below w.heap.size w ((w.alloc (.cells #[.bool false, .slice ap np cp, .slice (some ⟨b, off, none⟩) nk ck] 74)).alloc (.cells #[.bool false, .slice none 0 0, .slice (some ⟨b, off, none⟩) 3 ck, .bool false, .slice none 0 0, .slice (some ⟨b, off + 9, none⟩) (nk - 3) (ck - 3)] 74)).drew := Below.then' (below_new (below_new (Below.refl _ _))) (below_drew _) (Nat.le_refl _)
        refine ⟨_, rfl, ?_, hb⟩
        rw [HT.out]
        have kb := (Bk.new (w.alloc (.cells #[.bool false, .slice ap np cp, .slice (some ⟨b, off, none⟩) nk ck] 74)) 74 [.bool false, .slice none 0 0, .slice (some ⟨b, off, none⟩) 3 ck, .bool false, .slice none 0 0, .slice (some ⟨b, off + 9, none⟩) (nk - 3) (ck - 3)]).below (below_drew _)
        have hl : t.ks.length = nk := HNK.out.symm
        refine subR_two (by simpa using kb) (.inr (by omega)) (((HQ.out.1.kept hb).mono (fun y hy _ => .inl hy)).sub ?_) (((HQ.out.2.kept hb).mono (fun y hy _ => .inl hy)).sub ?_)
        · intro e; have := congrArg List.length e; rw [List.length_take, List.length_nil] at this; omega
        · intro e; have := congrArg List.length e; rw [List.length_drop, List.length_nil] at this; omega
      clear HR H0 hlf
      go_enter Try.func85, Try.ntmps85
      go_wp2_with fail
      go_region
      all_goals (go_wp2_with fail)
      all_goals go_ret
      all_goals exact HFIN.out
    · have h4' : ¬ (4 : Int) < (nk : Int) := by omega
      have HT : Hid (splT t = [t]) := by show _ = _; rw [splT, if_neg (fun e => HKS.out e.1), if_neg (by rw [← HNK.out]; omega)]
      have HFIN : Hid (SubsPost w S (splT t) (.returned (.slice (some ⟨w.heap.size + 1, 0, none⟩) 1 1)) ((w.alloc (.cells #[.bool false, .slice ap np cp, .slice ak nk ck] 74)).alloc (.cells #[.bool false, .slice ap np cp, .slice ak nk ck] 74))) := by
        have hb : Below w.heap.size w ((w.alloc (.cells #[.bool false, .slice ap np cp, .slice ak nk ck] 74)).alloc (.cells #[.bool false, .slice ap np cp, .slice ak nk ck] 74)) := below_new (below_new (Below.refl _ _))
        refine ⟨_, rfl, ?_, hb⟩
        rw [HT.out]
        have kb := (Bk.new (w.alloc (.cells #[.bool false, .slice ap np cp, .slice ak nk ck] 74)) 74 [.bool false, .slice ap np cp, .slice ak nk ck])
        exact subR_one (by simpa using kb) (.inr (by omega)) ((H0.out.kept hb).mono (fun y hy _ => .inl hy))
      clear HR H0 hlf
      go_enter Try.func85, Try.ntmps85
      go_wp2
      go_ret
      exact HFIN.out
set_option maxHeartbeats 2000000 in
theorem specWay_any (S : Nat → Prop) (lf : Bool) (ap ak : Option Addr) (np cp nk ck : Nat) (t : T) (k : ByteArray) (w : World) (h : Sub w S lf (.slice ap np cp) (.slice ak nk ck) t) (hs : t.ks.length ≤ 1048576) :
    Calls Try.prog 86 #[.agg #[.bool lf, .slice ap np cp, .slice ak nk ck], .string k] w fun e w' => e = .returned (.int .i64 (wayOf t.ks k : Nat)) ∧ Below w.heap.size w w' := by
  obtain ⟨_, _, _, _, _, _, e1, e2, HNP, HNK, b1, b2, -, -⟩ := h.shape
  cases e1
  cases e2
  have hnk : nk ≤ 1048576 := by rw [HNK.out]; exact hs
  have HB0 := hid (below_new (o := .cells #[.bool lf, .slice ap np cp, .slice ak nk ck] 74) (w := w) (Below.refl _ _))
  have K0 := hid (Bk.new w 74 [.bool lf, .slice ap np cp, .slice ak nk ck])
  have H0 := hid h
  clear h hs b1 b2
  go_enter Try.func86, Try.ntmps86
  go_wp2_with fail
  go_loopw [5, 6] (fun x y wr => ∃ i a f : Nat, x = .int .i64 (a : Int) ∧ y = .int .i64 (i : Int) ∧ 1 ≤ i ∧ i ≤ nk + 1 ∧ Hid (wayF t.ks k f i a = wayOf t.ks k) ∧ Hid (t.ks.length ≤ i + f) ∧ Hid (Bk wr w.heap.size 74 [.bool lf, .slice ap np cp, .slice ak nk ck]) ∧ Hid (Below w.heap.size w wr)) (fun _ y _ => nk + 1 - (intOf y).toNat)
  case atStart => exact ⟨1, 0, t.ks.length, rfl, rfl, Nat.le_refl _, by omega, rfl, Nat.le_add_left _ _, K0.out, HB0.out⟩
  case round =>
    obtain ⟨i, a, f, rfl, rfl, hi1, hi2, HW, HF, HK, HB⟩ := hrel
    have c2 := HK.out.cell (j := 2) rfl
    by_cases hlt : i < nk
    · have hlt' : (i : Int) < (nk : Int) := by omega
      have hi0 : (0 : Int) ≤ (i : Int) := by omega
      obtain ⟨g, off, hak, _, _, hkid⟩ := (H0.out.kept HB.out).kids (by omega)
      subst hak
      obtain ⟨l1, ap1, np1, cp1, ak1, nk1, ck1, x0, x1, x2, hs1⟩ := hkid i hlt
      have HS1 := hid hs1
      clear hkid hs1
      go_wp2_with fail
      refine (specLeast_any _ _ l1 ap1 ak1 np1 cp1 nk1 ck1 wr HS1.out).mono ?_
      rintro e w1 ⟨rfl, hb⟩
      have HB1 := hid (Below.then' HB.out hb (Nat.le_refl _))
      have HK1 := hid (HK.out.below hb)
      obtain ⟨f, rfl⟩ : ∃ g, f = g + 1 := ⟨f - 1, by have := HF.out; have := HNK.out; omega⟩
      have HW2 : Hid (wayF t.ks k f (i + 1) (if klt k (tAt t.ks i).least = false then i else a) = wayOf t.ks k) := by
        have := HW.out
        rw [wayF, if_pos (by rw [← HNK.out]; exact hlt)] at this
        exact this
      have HF2 : Hid (t.ks.length ≤ i + 1 + f) := by have := HF.out; show _ ≤ _; omega
      clear hb HW HF x0 x1 x2 HB HK c2 HS1
      generalize (tAt t.ks i).least = z at *
      rcases tri z k with ⟨h1, h2, h3, h4⟩ | rfl | ⟨h1, h2, h3, h4⟩
      · have hz : klt k z = false := h2
        rw [if_pos hz] at HW2
        clear hz
        go_wp2
        go_roundw
        case rel => exact ⟨i + 1, i, f, rfl, by go_num, by omega, by omega, HW2.out, HF2.out, HK1.out, HB1.out⟩
        case measure => simp [intOf]; omega
      · have hz : klt z z = false := klt_irrefl z
        rw [if_pos hz] at HW2
        clear hz
        go_wp2
        go_roundw
        case rel => exact ⟨i + 1, i, f, rfl, by go_num, by omega, by omega, HW2.out, HF2.out, HK1.out, HB1.out⟩
        case measure => simp [intOf]; omega
      · have hz : klt k z = true := h2
        rw [if_neg (by rw [hz]; simp)] at HW2
        clear hz
        go_wp2
        go_roundw
        case rel => exact ⟨i + 1, a, f, rfl, by go_num, by omega, by omega, HW2.out, HF2.out, HK1.out, HB1.out⟩
        case measure => simp [intOf]; omega
    · have hlt' : ¬ (i : Int) < (nk : Int) := by omega
      have HA : Hid (wayOf t.ks k = a) := by
        show _ = _
        rw [← HW.out]
        cases f with
        | zero => rfl
        | succ f => rw [wayF, if_neg (by rw [← HNK.out]; exact hlt)]
      clear HW HF
      go_wp2
      go_ret
      exact ⟨by rw [HA.out]; rfl, HB.out⟩
end Go.Proofs.Ytkflneeifllpgaa
/-
  l03Put of the specification.
-/
namespace Go.Proofs.Ytkflneeifllpgaa
open Go.RowKit
/-- What is kept while a leaf's pairs are gone through: the pair, and the list that is made. -/
structure LeafI (w wr : World) (k v : ByteArray) (o : Value) (l : List PB) : Prop where
  p : Bk wr (w.heap.size + 1) 35 [.string k, .string v]
  o : Ow wr (w.heap.size + 2) o l
  b : Below w.heap.size w wr
  s : w.heap.size + 2 ≤ wr.heap.size
theorem LeafI.keep {w wr w1 : World} {k v : ByteArray} {o : Value} {l : List PB} (h : LeafI w wr k v o l) (hb : Below wr.heap.size wr w1) : LeafI w w1 k v o l := ⟨h.p.below hb, h.o.kept hb, Below.then' h.b hb (Nat.le_refl _), Nat.le_trans h.s hb.size⟩
theorem LeafI.push {w u w2 : World} {k v : ByteArray} {o o' : Value} {l l' : List PB} (h : LeafI w u k v o l) (hO : Ow w2 (w.heap.size + 2) o' l') (hg : u.grownBy w2 o.ownBlock) : LeafI w w2 k v o' l' := by
  have hlt := fun x e => (World.ownsRow.lt h.o x e).1
  have hon : Only (fun y => o.ownBlock = some y) u w2 := only_of_grown hg (fun _ e => e)
  exact ⟨h.p.to hon (fun e => by have := hlt _ e; omega), hO, h.b.trans (hon.below h.b.size (fun b hb e => by have := hlt _ e; omega)), Nat.le_trans h.s hg.size⟩
theorem insS_cons (x : PB) (l : List PB) (p : PB) (d : Bool) : insS (x :: l) p d = (if d = false ∧ klt x.1 p.1 = false then [p] else []) ++ ((if x.1 = p.1 then [] else [x]) ++ insS l p (d || !klt x.1 p.1)) := rfl
theorem drop_pAtB {ps : List PB} {i : Nat} (h : i < ps.length) : ps.drop i = pAtB ps i :: ps.drop (i + 1) := by rw [pAtB_lt h, List.getElem_cons_drop h]
theorem insS_len (l : List PB) (p : PB) : ∀ d, (insS l p d).length ≤ l.length + 1 + l.length := by
  induction l with
  | nil => intro d; simp only [insS]; split <;> simp
  | cons x l ih =>
    intro d
    rw [insS_cons]
    have := ih (d || !klt x.1 p.1)
    simp only [List.length_append, List.length_cons]
    split <;> split <;> simp <;> omega
/-- An owned row of subs, its subs lying in other blocks. -/
def SO (w : World) (base : Nat) (S : Nat → Prop) (v : Value) (ts : List T) : Prop := ∃ L P K, w.ownsRow base 74 3 v ts.length (ncs (mkV L P K ts.length)) ∧ (∀ i, i < ts.length → Sub w S (L i) (P i) (K i) (tAt ts i)) ∧ ∀ y, S y → v.ownBlock ≠ some y
theorem SO.to {w w' : World} {base : Nat} {S R : Nat → Prop} {v : Value} {ts : List T} (h : SO w base S v ts) (ho : Only R w w') (hv : ∀ y, v.ownBlock = some y → ¬ R y) (hR : ∀ y, S y → y < w.heap.size → ¬ R y) : SO w' base S v ts := by
  obtain ⟨L, P, K, h1, h2, h3⟩ := h
  exact ⟨L, P, K, own_kept h1 ho hv, fun i hi => (h2 i hi).to ho hR, h3⟩
theorem SO.kept {w w' : World} {base : Nat} {S : Nat → Prop} {v : Value} {ts : List T} (h : SO w base S v ts) (hb : Below w.heap.size w w') : SO w' base S v ts := h.to (only_of_below hb (fun _ => False)) (fun _ _ h => h) (fun _ _ _ h => h)
theorem SO.shape {w : World} {base : Nat} {S : Nat → Prop} {v : Value} {ts : List T} (h : SO w base S v ts) : ∃ a n c, v = .slice a n c ∧ Hid (n = ts.length) := by
  obtain ⟨L, P, K, h1, _⟩ := h
  obtain ⟨a, c, e⟩ := own_shape h1
  exact ⟨a, _, c, e, rfl⟩
theorem SO.subR {w : World} {base : Nat} {S R : Nat → Prop} {v : Value} {ts : List T} (h : SO w base S v ts) (hv : ∀ y, v.ownBlock = some y → base ≤ y → y < w.heap.size → R y) (hS : ∀ y, S y → y < w.heap.size → R y) : SubR w R v ts := by
  obtain ⟨L, P, K, h1, h2, h3⟩ := h
  exact ⟨L, P, K, rw_own h1 hv, fun i hi => (h2 i hi).mono hS⟩
theorem so_new (w : World) (base : Nat) (hb : base ≤ w.heap.size) : SO (w.alloc (.cells #[] 74)) base (fun _ => False) (.slice (some ⟨w.heap.size, 0, none⟩) 0 0) [] :=
  ⟨fun _ => false, fun _ => .slice none 0 0, fun _ => .slice none 0 0, ⟨rfl, .inr ⟨w.heap.size, 0, #[], rfl, hb, heap_alloc_new w _, Nat.le_refl _, by decide, rfl, rfl⟩⟩, fun i hi => by simp at hi, fun _ h => h.elim⟩
theorem mkV_one {w : World} {S : Nat → Prop} {L : Nat → Bool} {P K : Nat → Value} {ts : List T} (h : ∀ i, i < ts.length → Sub w S (L i) (P i) (K i) (tAt ts i)) : ∀ u ∈ ncs (mkV L P K ts.length), u.oneCell' = true := by
  intro u hu
  obtain ⟨j, hj⟩ := List.mem_iff_getElem?.1 hu
  have hl : (ncs (mkV L P K ts.length)).length = ts.length * 3 := by rw [ncs_length, mkV_length]
  have hjl := (List.getElem?_eq_some_iff.1 hj).1
  have hi : j / 3 < ts.length := by omega
  obtain ⟨c0, c1, c2⟩ := ncs_at (mkV L P K ts.length) (j / 3) (by rw [mkV_length]; exact hi)
  rw [mkV_at _ _ _ _ _ hi] at c0 c1 c2
  obtain ⟨ap, np, cp, ak, nk, ck, e1, e2, _⟩ := (h _ hi).shape
  simp only at c0 c1 c2
  rw [e1] at c1
  rw [e2] at c2
  rcases (show j = j / 3 * 3 ∨ j = j / 3 * 3 + 1 ∨ j = j / 3 * 3 + 2 by omega) with e | e | e
  · rw [e, c0] at hj; cases hj; rfl
  · rw [e, c1] at hj; cases hj; rfl
  · rw [e, c2] at hj; cases hj; rfl
/-- append(row, others...) -/
theorem run_append_subs {w : World} {ty : TypeId} (base : Nat) (S S2 : Nat → Prop) (v src : Value) (ts us : List T) (hown : SO w base S v ts) (hsrc : SubR w S2 src us) (hap : ∀ y, S2 y → v.ownBlock ≠ some y) (hb : ts.length + us.length ≤ 1048576) (hbase : base ≤ w.heap.size) :
    ∃ v' w', (Builtin.append_ #[72, 72] ty #[v, src]).run Try.prog w = .ok v' w' ∧ SO w' base (fun y => (S y ∨ S2 y) ∧ y < w.heap.size) v' (ts ++ us) ∧ w.grownBy w' v.ownBlock ∧ (v'.ownBlock = v.ownBlock ∨ v'.ownBlock = some w.heap.size) := by
  obtain ⟨i, hi, hz, hsz, hby⟩ := info_of infoSub
  obtain ⟨L, P, K, h1, h2, h3⟩ := hown
  obtain ⟨L2, P2, K2, k1, k2⟩ := hsrc
  obtain ⟨v', w', hr, ho, hg, ha⟩ := run_append_row_at (P := Try.prog) (w := w) base 72 ty 74 i _ 3 56 Try.underlying72 hi hz hsz hby rfl (by decide) v ts.length _ h1 S2 src us.length _ k1 (by rw [ncs_length, mkV_length]) (mkV_one k2) (by unfold maxLen; omega) (by omega) hbase
  have hon : Only (fun y => v.ownBlock = some y) w w' := only_of_grown hg (fun _ e => e)
  rw [← ncs_append, mkV_app] at ho
  refine ⟨v', w', hr, ⟨_, _, _, by rw [List.length_append]; exact ho, fun j hj => ?_, fun y hy => ?_⟩, hg, ha⟩
  · rw [List.length_append] at hj
    by_cases e : j < ts.length
    · simp only [e, if_true]
      rw [tAt_app1 e]
      exact ((h2 j e).mono (R := fun y => (S y ∨ S2 y) ∧ y < w.heap.size) (fun y hy hl => ⟨.inl hy, hl⟩)).to hon (fun y hy _ => hy.1.elim (h3 y) (hap y))
    · simp only [e, if_false]
      rw [tAt_app2 (by omega)]
      exact ((k2 (j - ts.length) (by omega)).mono (R := fun y => (S y ∨ S2 y) ∧ y < w.heap.size) (fun y hy hl => ⟨.inr hy, hl⟩)).to hon (fun y hy _ => hy.1.elim (h3 y) (hap y))
  · rcases ha with e | e
    · rw [e]; exact hy.1.elim (h3 y) (hap y)
    · rw [e]; intro h; cases h; exact absurd hy.2 (Nat.lt_irrefl _)
theorem wpList_append_subs {w : World} {ops : Array Oper} {rest : List Oper} {o : Oper} {a : Act} {Q : Exit → Act → World → Prop} (hgd : o.guard = none) (s x : Operand)
    (ho : o.op = .call { callee := .builtin .append, args := #[s, x], argTypes := #[72, 72] }) (base : Nat) (S S2 : Nat → Prop) (v src : Value) (ts us : List T) (hs : a.eval s = v) (hown : SO w base S v ts) (hx : a.eval x = src) (hsrc : SubR w S2 src us) (hap : ∀ y, S2 y → v.ownBlock ≠ some y) (hb : ts.length + us.length ≤ 1048576) (hbase : base ≤ w.heap.size)
    (h : ∀ v' w', SO w' base (fun y => (S y ∨ S2 y) ∧ y < w.heap.size) v' (ts ++ us) → w.grownBy w' v.ownBlock → (v'.ownBlock = v.ownBlock ∨ v'.ownBlock = some w.heap.size) → wpList Try.prog ops Q rest (a.put o.dst v') w') : wpList Try.prog ops Q (o :: rest) a w := by
  refine wpList_plain hgd fun K hK => ?_
  obtain ⟨v', w', hr, h2, h3, h4⟩ := run_append_subs (w := w) (ty := o.type) base S S2 v src ts us hown hsrc hap hb hbase
  unfold Oper.wp execOp
  simp only [ho, resolve, invoke, builtin, Sem.run_bind, Sem.run_pure, Result.andThen_ok, List.map_toArray, List.map_cons, List.map_nil, hs, hx, hr]
  exact hK _ _ (h v' w' h2 h3 h4)
theorem step_append_subs {w : World} {ops : Array Oper} {o : Oper} {a : Act} {K : Act → World → Prop} {Q : Exit → Act → World → Prop} {E : Prop} (hgd : o.guard = none) (s x : Operand)
    (ho : o.op = .call { callee := .builtin .append, args := #[s, x], argTypes := #[72, 72] }) (base : Nat) (S S2 : Nat → Prop) (v src : Value) (ts us : List T) (hs : a.eval s = v) (hown : SO w base S v ts) (hx : a.eval x = src) (hsrc : SubR w S2 src us) (hap : ∀ y, S2 y → v.ownBlock ≠ some y) (hb : ts.length + us.length ≤ 1048576) (hbase : base ≤ w.heap.size)
    (h : ∀ v' w', SO w' base (fun y => (S y ∨ S2 y) ∧ y < w.heap.size) v' (ts ++ us) → w.grownBy w' v.ownBlock → (v'.ownBlock = v.ownBlock ∨ v'.ownBlock = some w.heap.size) → K (a.put o.dst v') w') :
    if Region.wanted o (yielded ops a.tmps) = true then Oper.wp Try.prog o a w K Q else E := by
  have hw : Region.wanted o (yielded ops a.tmps) = true := by simp [Region.wanted, hgd]
  rw [if_pos hw]
  obtain ⟨v', w', hr, h2, h3, h4⟩ := run_append_subs (w := w) (ty := o.type) base S S2 v src ts us hown hsrc hap hb hbase
  unfold Oper.wp execOp
  simp only [ho, resolve, invoke, builtin, Sem.run_bind, Sem.run_pure, Result.andThen_ok, List.map_toArray, List.map_cons, List.map_nil, hs, hx, hr]
  exact h v' w' h2 h3 h4
def LeafPut (w : World) (S : Nat → Prop) (t : T) (k v : ByteArray) (lf : Bool) (ap ak : Option Addr) (np cp nk ck : Nat) : Prop := Calls Try.prog 42 #[.agg #[.bool lf, .slice ap np cp, .slice ak nk ck], .agg #[.string k, .string v]] w fun e w' => SubsPost w S (splT (.mk (insS t.ps (k, v) false) [])) e w'
set_option maxHeartbeats 2000000 in
set_option maxRecDepth 20000 in
theorem specPut_leaf (S : Nat → Prop) (ap ak : Option Addr) (np cp ck : Nat) (t : T) (k v : ByteArray) (w : World) (h : Sub w S true (.slice ap np cp) (.slice ak 0 ck) t) (hs : t.ps.length ≤ 4) :
    LeafPut w S t k v true ap ak np cp 0 ck := by
  unfold LeafPut
  obtain ⟨_, _, _, _, _, _, e1, e2, HNP, HNK, b1, b2, -, hP⟩ := h.shape
  cases e1
  cases e2
  have hnp : np ≤ 4 := by rw [HNP.out]; exact hs
  have HP := hid hP
  have HB0 : Hid (Below w.heap.size w ((w.alloc (.cells #[.bool true, .slice ap np cp, .slice ak 0 ck] 74)).alloc (.cells #[.string k, .string v] 35))) := below_new (below_new (Below.refl _ _))
  have KS : Hid (Bk ((w.alloc (.cells #[.bool true, .slice ap np cp, .slice ak 0 ck] 74)).alloc (.cells #[.string k, .string v] 35)) w.heap.size 74 [.bool true, .slice ap np cp, .slice ak 0 ck]) := (Bk.new w 74 [.bool true, .slice ap np cp, .slice ak 0 ck]).alloc _
  have KP : Hid (Bk ((w.alloc (.cells #[.bool true, .slice ap np cp, .slice ak 0 ck] 74)).alloc (.cells #[.string k, .string v] 35)) (w.heap.size + 1) 35 [.string k, .string v]) := by
    have := Bk.new (w.alloc (.cells #[.bool true, .slice ap np cp, .slice ak 0 ck] 74)) 35 [.string k, .string v]
    show Bk _ _ _ _
    simpa using this
  have HSZ : Hid (((w.alloc (.cells #[.bool true, .slice ap np cp, .slice ak 0 ck] 74)).alloc (.cells #[.string k, .string v] 35)).heap.size = w.heap.size + 2) := by show _ = _; simp
  have c0 := KS.out.cell (j := 0) rfl
  have c1 := (KS.out.alloc (.cells #[] 35)).cell (j := 1) rfl
  have HI0 : Hid (LeafI w (((w.alloc (.cells #[.bool true, .slice ap np cp, .slice ak 0 ck] 74)).alloc (.cells #[.string k, .string v] 35)).alloc (.cells #[] 35)) k v (.slice (some ⟨w.heap.size + 2, 0, none⟩) 0 0) []) := by
    refine ⟨KP.out.alloc _, ?_, Below.then' HB0.out (below_new (Below.refl _ _)) (Nat.le_refl _), by simp⟩
    have := ow_new ((w.alloc (.cells #[.bool true, .slice ap np cp, .slice ak 0 ck] 74)).alloc (.cells #[.string k, .string v] 35)) (w.heap.size + 2) (by simp)
    simpa using this
  clear h hs b1 b2 hP
  go_enter Try.func42, Try.ntmps42
  go_wp2_with fail
  go_loopw [5, 6, 17] (fun x y z wr => ∃ (i : Nat) (a : Option Addr) (n c : Nat) (d : Bool) (l : List PB), i ≤ np ∧ x = .slice a n c ∧ y = .bool d ∧ z = .int .i64 (i : Int) ∧ Hid (LeafI w wr k v (.slice a n c) l) ∧ Hid (l ++ insS (t.ps.drop i) (k, v) d = insS t.ps (k, v) false) ∧ Hid (l.length ≤ i * 2)) (fun _ _ z _ => np - (intOf z).toNat)
  case atStart => exact ⟨0, _, _, _, false, [], Nat.zero_le _, rfl, rfl, rfl, by have := HI0.out; show LeafI _ _ _ _ _ _; simpa using this, rfl, Nat.zero_le _⟩
  case round =>
    obtain ⟨i, a, n, c, d, l, hi, rfl, rfl, rfl, HI, HE, HLL⟩ := hrel
    by_cases hlt : i < np
    · have hlt' : (i : Int) < (np : Int) := by omega
      have hi0 : (0 : Int) ≤ (i : Int) := by omega
      obtain ⟨g, off, hap, _, _, hc⟩ := (HP.out.below HI.out.b).at (by omega)
      subst hap
      obtain ⟨x0, x1⟩ := hc i hlt
      have HD : Hid (t.ps.drop i = pAtB t.ps i :: t.ps.drop (i + 1)) := drop_pAtB (by rw [← HNP.out]; exact hlt)
      rw [HD.out, insS_cons] at HE
      clear hc
      generalize pAtB t.ps i = xx at *
      obtain ⟨y0, y1⟩ := xx
      simp only at x0 x1 HE
      have HIX := hid (HI.out.keep (below_new (o := .cells #[.string y0, .string y1] 35) (w := wr) (Below.refl _ _)))
      have KX := hid (Bk.new wr 35 [.string y0, .string y1])
      have HNX : Hid ((Value.slice a n c).ownBlock ≠ some wr.heap.size) := fun e => by have := (World.ownsRow.lt HI.out.o _ e).2; omega
      have q0 := HIX.out.p.cell (j := 0) rfl
      have q1 := HIX.out.p.cell (j := 1) rfl
      have k0 := KX.out.cell (j := 0) rfl
      have k1 := KX.out.cell (j := 1) rfl
      cases d with
      | false =>
        rcases tri y0 k with ⟨h1, h2, h3, h4⟩ | rfl | ⟨h1, h2, h3, h4⟩
        · -- less
          have HEQ : Hid ((l ++ [(y0, y1)]) ++ insS (t.ps.drop (i + 1)) (k, v) false = insS t.ps (k, v) false) := by
            have hk : klt y0 k = true := h1
            have := HE.out
            show _ = _
            simpa [hk, klt_ne hk] using this
          clear HE
          have HIXa := hid (HIX.out.keep (below_new (o := .cells #[.string y0, .string y1] 35) (w := (wr.alloc (.cells #[.string y0, .string y1] 35))) (Below.refl _ _)))
          have HPa2 : Hid (Pr ((wr.alloc (.cells #[.string y0, .string y1] 35)).alloc (.cells #[.string y0, .string y1] 35)) (fun _ => True) (.slice (some ⟨wr.heap.size + 1, 0, none⟩) 1 1) [(y0, y1)]) := by
            have := (Bk.new (wr.alloc (.cells #[.string y0, .string y1] 35)) 35 [.string y0, .string y1]).pr (n := 1) (ps := [(y0, y1)]) rfl (by omega) (fun _ => True) trivial
            have hz : (wr.alloc (.cells #[.string y0, .string y1] 35)).heap.size = wr.heap.size + 1 := by first | rfl | simp
            rw [hz] at this
            exact this
          go_wp2_with (at_builtin; refine wpList_append_pairs rfl _ _ rfl (w.heap.size + 2) _ _ rfl HIXa.out.o (fun _ => True) _ [(y0, y1)] rfl HPa2.out ?q1 ?q2 ?_)
          case q1 => have := HLL.out; simp; omega
          case q2 => have h9 := HI.out.s; have h8 := HIX.out.s; first | omega | (simp; omega)
          intro v2 w2 hO2 hg2
          obtain ⟨a2, n2, c2, e2, -⟩ := hO2.shape'
          subst e2
          have HI2 := hid (HIXa.out.push hO2 hg2)
          clear hO2 hg2
          go_wp2
          go_roundw
          case rel => exact ⟨i + 1, a2, n2, c2, false, _, by omega, rfl, rfl, by go_num, HI2.out, HEQ.out, by have := HLL.out; show _ ≤ _; simp; omega⟩
          case measure => simp [intOf]; omega
        · -- equal
          have HEQ : Hid ((l ++ [(y0, v)]) ++ insS (t.ps.drop (i + 1)) (y0, v) true = insS t.ps (y0, v) false) := by
            have := HE.out
            show _ = _
            simpa [klt_irrefl y0] using this
          clear HE
          have HIXa := hid (HIX.out.keep (below_new (o := .cells #[.string y0, .string v] 35) (w := (wr.alloc (.cells #[.string y0, .string y1] 35))) (Below.refl _ _)))
          have HPa2 : Hid (Pr ((wr.alloc (.cells #[.string y0, .string y1] 35)).alloc (.cells #[.string y0, .string v] 35)) (fun _ => True) (.slice (some ⟨wr.heap.size + 1, 0, none⟩) 1 1) [(y0, v)]) := by
            have := (Bk.new (wr.alloc (.cells #[.string y0, .string y1] 35)) 35 [.string y0, .string v]).pr (n := 1) (ps := [(y0, v)]) rfl (by omega) (fun _ => True) trivial
            have hz : (wr.alloc (.cells #[.string y0, .string y1] 35)).heap.size = wr.heap.size + 1 := by first | rfl | simp
            rw [hz] at this
            exact this
          go_wp2_with (at_builtin; refine wpList_append_pairs rfl _ _ rfl (w.heap.size + 2) _ _ rfl HIXa.out.o (fun _ => True) _ [(y0, v)] rfl HPa2.out ?q1 ?q2 ?_)
          case q1 => have := HLL.out; simp; omega
          case q2 => have h9 := HI.out.s; have h8 := HIX.out.s; first | omega | (simp; omega)
          intro v2 w2 hO2 hg2
          obtain ⟨a2, n2, c2, e2, -⟩ := hO2.shape'
          subst e2
          have HI2 := hid (HIXa.out.push hO2 hg2)
          have z0 := (bk_grown (KX.out.alloc (.cells #[.string y0, .string v] 35)) hg2 HNX.out).cell (j := 0) rfl
          have z1 := HI2.out.p.cell (j := 0) rfl
          clear hO2 hg2
          go_wp2
          go_roundw
          case rel => exact ⟨i + 1, a2, n2, c2, true, _, by omega, rfl, rfl, by go_num, HI2.out, HEQ.out, by have := HLL.out; show _ ≤ _; simp; omega⟩
          case measure => simp [intOf]; omega
        · -- greater
          have HEQ : Hid (l ++ [(k, v), (y0, y1)] ++ insS (t.ps.drop (i + 1)) (k, v) true = insS t.ps (k, v) false) := by
            have hk : klt y0 k = false := h1
            have hne : y0 ≠ k := fun e => by rw [e] at h2; exact absurd h2 (by rw [less_irrefl]; simp)
            have := HE.out
            show _ = _
            simpa [hk, hne] using this
          clear HE
          have HIXa := hid (HIX.out.keep (below_new (o := .cells #[.string k, .string v] 35) (w := (wr.alloc (.cells #[.string y0, .string y1] 35))) (Below.refl _ _)))
          have HPa2 : Hid (Pr ((wr.alloc (.cells #[.string y0, .string y1] 35)).alloc (.cells #[.string k, .string v] 35)) (fun _ => True) (.slice (some ⟨wr.heap.size + 1, 0, none⟩) 1 1) [(k, v)]) := by
            have := (Bk.new (wr.alloc (.cells #[.string y0, .string y1] 35)) 35 [.string k, .string v]).pr (n := 1) (ps := [(k, v)]) rfl (by omega) (fun _ => True) trivial
            have hz : (wr.alloc (.cells #[.string y0, .string y1] 35)).heap.size = wr.heap.size + 1 := by first | rfl | simp
            rw [hz] at this
            exact this
          go_wp2_with (at_builtin; refine wpList_append_pairs rfl _ _ rfl (w.heap.size + 2) _ _ rfl HIXa.out.o (fun _ => True) _ [(k, v)] rfl HPa2.out ?q1 ?q2 ?_)
          case q1 => have := HLL.out; simp; omega
          case q2 => have h9 := HI.out.s; have h8 := HIX.out.s; first | omega | (simp; omega)
          intro v2 w2 hO2 hg2
          obtain ⟨a2, n2, c2, e2, -⟩ := hO2.shape'
          subst e2
          have HI2 := hid (HIXa.out.push hO2 hg2)
          have KX2 := hid (bk_grown (KX.out.alloc (.cells #[.string k, .string v] 35)) hg2 HNX.out)
          have z0 := KX2.out.cell (j := 0) rfl
          have z2 := KX2.out.cell (j := 1) rfl
          have z1 := HI2.out.p.cell (j := 0) rfl
          clear hO2 hg2
          have HI2a := hid (HI2.out.keep (below_new (o := .cells #[.string y0, .string y1] 35) (w := w2) (Below.refl _ _)))
          have HPa3 : Hid (Pr (w2.alloc (.cells #[.string y0, .string y1] 35)) (fun _ => True) (.slice (some ⟨w2.heap.size, 0, none⟩) 1 1) [(y0, y1)]) := by
            have := (Bk.new w2 35 [.string y0, .string y1]).pr (n := 1) (ps := [(y0, y1)]) rfl (by omega) (fun _ => True) trivial
            have hz : w2.heap.size = w2.heap.size := by first | rfl | simp
            rw [hz] at this
            exact this
          go_wp2_with (at_builtin; refine wpList_append_pairs rfl _ _ rfl (w.heap.size + 2) _ _ rfl HI2a.out.o (fun _ => True) _ [(y0, y1)] rfl HPa3.out ?q1 ?q2 ?_)
          case q1 => have := HLL.out; simp; omega
          case q2 => have h9 := HI.out.s; have h8 := HI2.out.s; first | omega | (simp; omega)
          intro v3 w3 hO3 hg3
          obtain ⟨a3, n3, c3, e3, -⟩ := hO3.shape'
          subst e3
          have HI3 := hid (HI2a.out.push hO3 hg3)
          clear hO3 hg3
          go_wp2
          go_roundw
          case rel => exact ⟨i + 1, a3, n3, c3, true, _, by omega, rfl, rfl, by go_num, HI3.out, HEQ.out, by have := HLL.out; show _ ≤ _; simp; omega⟩
          case measure => simp [intOf]; omega
      | true =>
        rcases tri y0 k with ⟨h1, h2, h3, h4⟩ | rfl | ⟨h1, h2, h3, h4⟩
        · have HEQ : Hid ((l ++ [(y0, y1)]) ++ insS (t.ps.drop (i + 1)) (k, v) true = insS t.ps (k, v) false) := by
            have hk : klt y0 k = true := h1
            have := HE.out
            show _ = _
            simpa [klt_ne hk] using this
          clear HE
          have HIXa := hid (HIX.out.keep (below_new (o := .cells #[.string y0, .string y1] 35) (w := (wr.alloc (.cells #[.string y0, .string y1] 35))) (Below.refl _ _)))
          have HPa2 : Hid (Pr ((wr.alloc (.cells #[.string y0, .string y1] 35)).alloc (.cells #[.string y0, .string y1] 35)) (fun _ => True) (.slice (some ⟨wr.heap.size + 1, 0, none⟩) 1 1) [(y0, y1)]) := by
            have := (Bk.new (wr.alloc (.cells #[.string y0, .string y1] 35)) 35 [.string y0, .string y1]).pr (n := 1) (ps := [(y0, y1)]) rfl (by omega) (fun _ => True) trivial
            have hz : (wr.alloc (.cells #[.string y0, .string y1] 35)).heap.size = wr.heap.size + 1 := by first | rfl | simp
            rw [hz] at this
            exact this
          go_wp2_with (at_builtin; refine wpList_append_pairs rfl _ _ rfl (w.heap.size + 2) _ _ rfl HIXa.out.o (fun _ => True) _ [(y0, y1)] rfl HPa2.out ?q1 ?q2 ?_)
          case q1 => have := HLL.out; simp; omega
          case q2 => have h9 := HI.out.s; have h8 := HIX.out.s; first | omega | (simp; omega)
          intro v2 w2 hO2 hg2
          obtain ⟨a2, n2, c2, e2, -⟩ := hO2.shape'
          subst e2
          have HI2 := hid (HIXa.out.push hO2 hg2)
          clear hO2 hg2
          go_wp2
          go_roundw
          case rel => exact ⟨i + 1, a2, n2, c2, true, _, by omega, rfl, rfl, by go_num, HI2.out, HEQ.out, by have := HLL.out; show _ ≤ _; simp; omega⟩
          case measure => simp [intOf]; omega
        · have HEQ : Hid (l ++ insS (t.ps.drop (i + 1)) (y0, v) true = insS t.ps (y0, v) false) := by
            have := HE.out
            show _ = _
            simpa using this
          clear HE
          go_wp2
          go_roundw
          case rel => exact ⟨i + 1, a, n, c, true, l, by omega, rfl, rfl, by go_num, HIX.out, HEQ.out, by have := HLL.out; show _ ≤ _; omega⟩
          case measure => simp [intOf]; omega
        · have HEQ : Hid ((l ++ [(y0, y1)]) ++ insS (t.ps.drop (i + 1)) (k, v) true = insS t.ps (k, v) false) := by
            have hne : y0 ≠ k := fun e => by rw [e] at h2; exact absurd h2 (by rw [less_irrefl]; simp)
            have := HE.out
            show _ = _
            simpa [hne] using this
          clear HE
          have HIXa := hid (HIX.out.keep (below_new (o := .cells #[.string y0, .string y1] 35) (w := (wr.alloc (.cells #[.string y0, .string y1] 35))) (Below.refl _ _)))
          have HPa2 : Hid (Pr ((wr.alloc (.cells #[.string y0, .string y1] 35)).alloc (.cells #[.string y0, .string y1] 35)) (fun _ => True) (.slice (some ⟨wr.heap.size + 1, 0, none⟩) 1 1) [(y0, y1)]) := by
            have := (Bk.new (wr.alloc (.cells #[.string y0, .string y1] 35)) 35 [.string y0, .string y1]).pr (n := 1) (ps := [(y0, y1)]) rfl (by omega) (fun _ => True) trivial
            have hz : (wr.alloc (.cells #[.string y0, .string y1] 35)).heap.size = wr.heap.size + 1 := by first | rfl | simp
            rw [hz] at this
            exact this
          go_wp2_with (at_builtin; refine wpList_append_pairs rfl _ _ rfl (w.heap.size + 2) _ _ rfl HIXa.out.o (fun _ => True) _ [(y0, y1)] rfl HPa2.out ?q1 ?q2 ?_)
          case q1 => have := HLL.out; simp; omega
          case q2 => have h9 := HI.out.s; have h8 := HIX.out.s; first | omega | (simp; omega)
          intro v2 w2 hO2 hg2
          obtain ⟨a2, n2, c2, e2, -⟩ := hO2.shape'
          subst e2
          have HI2 := hid (HIXa.out.push hO2 hg2)
          clear hO2 hg2
          go_wp2
          go_roundw
          case rel => exact ⟨i + 1, a2, n2, c2, true, _, by omega, rfl, rfl, by go_num, HI2.out, HEQ.out, by have := HLL.out; show _ ≤ _; simp; omega⟩
          case measure => simp [intOf]; omega
    · have hlt' : ¬ (i : Int) < (np : Int) := by omega
      have HD : Hid (t.ps.drop i = []) := List.drop_eq_nil_of_le (by rw [← HNP.out]; omega)
      rw [HD.out] at HE
      have HSP := hid (fun (w3 : World) (a3 : Option Addr) (n3 c3 : Nat) (l3 : List PB) (hI3 : LeafI w w3 k v (.slice a3 n3 c3) l3) => specSplit_any (fun y => w.heap.size ≤ y) true a3 none n3 c3 0 0 (.mk l3 []) w3 (Sub.leafOf (hI3.o.pr (S := fun y => w.heap.size ≤ y) (fun y _ h1 _ => by omega))))
      have HFN : Hid (∀ (w3 w4 : World) (e : Ending) (a3 : Option Addr) (n3 c3 : Nat) (l3 : List PB), LeafI w w3 k v (.slice a3 n3 c3) l3 → SubsPost w3 (fun y => w.heap.size ≤ y) (splT (.mk l3 [])) e w4 → SubsPost w S (splT (.mk l3 [])) e w4) := by
        rintro w3 w4 e a3 n3 c3 l3 hI ⟨v4, rfl, h1, h2⟩
        have hsz := hI.b.size
        exact ⟨v4, rfl, h1.mono (fun y hy _ => hy.elim .inr (fun h => .inr (by omega))), Below.then' hI.b h2 (Nat.le_refl _)⟩
      cases d with
      | true =>
        have HEQ : Hid (insS t.ps (k, v) false = l) := by have := HE.out; show _ = _; simpa [insS] using this.symm
        clear HE HP
        go_wp2_with fail
        refine (HSP.out wr a n c l HI.out).mono ?_
        rintro e w4 hp
        have hp' := HFN.out _ _ _ _ _ _ _ HI.out hp
        obtain ⟨v4, rfl, h1, h2⟩ := hp'
        have HF := hid h1
        have HF2 := hid h2
        clear hp h1 h2
        go_wp2
        go_ret
        refine ⟨_, rfl, ?_, HF2.out⟩
        rw [HEQ.out]; exact HF.out
      | false =>
        have HEQ : Hid (insS t.ps (k, v) false = l ++ [(k, v)]) := by have := HE.out; show _ = _; simpa [insS] using this.symm
        have q0 := HI.out.p.cell (j := 0) rfl
        have q1 := HI.out.p.cell (j := 1) rfl
        clear HE HP
        have HIa := hid (HI.out.keep (below_new (o := .cells #[.string k, .string v] 35) (w := wr) (Below.refl _ _)))
        have HPa2 : Hid (Pr (wr.alloc (.cells #[.string k, .string v] 35)) (fun _ => True) (.slice (some ⟨wr.heap.size, 0, none⟩) 1 1) [(k, v)]) := by
          have := (Bk.new wr 35 [.string k, .string v]).pr (n := 1) (ps := [(k, v)]) rfl (by omega) (fun _ => True) trivial
          have hz : wr.heap.size = wr.heap.size := by first | rfl | simp
          rw [hz] at this
          exact this
        go_wp2_with (at_builtin; refine wpList_append_pairs rfl _ _ rfl (w.heap.size + 2) _ _ rfl HIa.out.o (fun _ => True) _ [(k, v)] rfl HPa2.out ?q1 ?q2 ?_)
        case q1 => have := HLL.out; simp; omega
        case q2 => have h9 := HI.out.s; have h8 := HI.out.s; first | omega | (simp; omega)
        intro v2 w2 hO2 hg2
        obtain ⟨a2, n2, c2, e2, -⟩ := hO2.shape'
        subst e2
        have HI2 := hid (HIa.out.push hO2 hg2)
        clear hO2 hg2
        go_wp2_with fail
        refine (HSP.out _ _ _ _ _ HI2.out).mono ?_
        rintro e w4 hp
        have hp' := HFN.out _ _ _ _ _ _ _ HI2.out hp
        obtain ⟨v4, rfl, h1, h2⟩ := hp'
        have HF := hid h1
        have HF2 := hid h2
        clear hp h1 h2
        go_wp2
        go_ret
        refine ⟨_, rfl, ?_, HF2.out⟩
        rw [HEQ.out]; exact HF.out
end Go.Proofs.Ytkflneeifllpgaa
/-
  l03Put of the specification: it puts as the plain function puts.
-/
namespace Go.Proofs.Ytkflneeifllpgaa
open Go.RowKit
theorem below_dq (w : World) (q : Nat) : Below w.heap.size w (w.drewN q) := ⟨rfl, rfl, rfl, Nat.le_refl _, fun _ _ => rfl⟩
structure SpB (w wr : World) (pv kv : Value) (k v : ByteArray) : Prop where
  s : Bk wr w.heap.size 74 [.bool false, pv, kv]
  p : Bk wr (w.heap.size + 1) 35 [.string k, .string v]
  b : Below w.heap.size w wr
  z : w.heap.size + 2 ≤ wr.heap.size
theorem SpB.keep {w wr w1 : World} {pv kv : Value} {k v : ByteArray} (h : SpB w wr pv kv k v) (hb : Below wr.heap.size wr w1) : SpB w w1 pv kv k v := ⟨h.s.below hb, h.p.below hb, Below.then' h.b hb (Nat.le_refl _), Nat.le_trans h.z hb.size⟩
theorem SpB.grow {w u w2 : World} {pv kv : Value} {k v : ByteArray} {o : Option Nat} (h : SpB w u pv kv k v) (hg : u.grownBy w2 o) (ho : ∀ x, o = some x → w.heap.size + 2 ≤ x) : SpB w w2 pv kv k v := by
  have hon : Only (fun y => o = some y) u w2 := only_of_grown hg (fun _ e => e)
  exact ⟨h.s.to hon (fun e => by have := ho _ e; omega), h.p.to hon (fun e => by have := ho _ e; omega), h.b.trans (hon.below h.b.size (fun b hb e => by have := ho _ e; omega)), Nat.le_trans h.z hg.size⟩
theorem SO.lo {w : World} {base : Nat} {S : Nat → Prop} {v : Value} {ts : List T} (h : SO w base S v ts) : ∀ x, v.ownBlock = some x → base ≤ x ∧ x < w.heap.size := by
  obtain ⟨L, P, K, h1, _⟩ := h
  exact fun x e => World.ownsRow.lt h1 x e
theorem SO.mono {w : World} {base : Nat} {S R : Nat → Prop} {v : Value} {ts : List T} (h : SO w base S v ts) (hS : ∀ y, S y → y < w.heap.size → R y) (hR : ∀ y, R y → v.ownBlock ≠ some y) : SO w base R v ts := by
  obtain ⟨L, P, K, h1, h2, h3⟩ := h
  exact ⟨L, P, K, h1, fun i hi => (h2 i hi).mono hS, hR⟩
theorem putS_len : ∀ (f : Nat) (t : T) (p : PB), (putS f t p).length ≤ 2
  | 0, t, p => by simp [putS]
  | f + 1, t, p => by
    have hs : ∀ t, (splT t).length ≤ 2 := by
      intro t
      unfold splT
      split
      · simp
      · split <;> simp
    rw [putS]
    split <;> exact hs _
theorem putS_ne : ∀ (f : Nat) (t : T) (p : PB), putS f t p ≠ []
  | 0, t, p => by simp [putS]
  | f + 1, t, p => by
    have hs : ∀ t, splT t ≠ [] := by
      intro t
      unfold splT
      split
      · simp
      · split <;> simp
    rw [putS]
    split <;> exact hs _
set_option maxHeartbeats 2000000 in
set_option maxRecDepth 20000 in
theorem specPut_any : ∀ (f : Nat) (r : Bool) (S : Nat → Prop) (lf : Bool) (ap ak : Option Addr) (np cp nk ck : Nat) (t : T) (k v : ByteArray) (w : World), Sub w S lf (.slice ap np cp) (.slice ak nk ck) t → PutIn f r t →
    Calls Try.prog 42 #[.agg #[.bool lf, .slice ap np cp, .slice ak nk ck], .agg #[.string k, .string v]] w fun e w' => SubsPost w S (putS f t (k, v)) e w' := by
  intro f
  induction f with
  | zero => intro r S lf ap ak np cp nk ck t k v w _ g; exact g.ev.elim
  | succ f ih =>
  intro r S lf ap ak np cp nk ck t k v w h g
  obtain ⟨_, _, _, _, _, _, e1, e2, HNP, HNK, b1, b2, hlf, -⟩ := h.shape
  cases e1
  cases e2
  by_cases hk : t.ks = []
  · have hn : nk = 0 := by rw [HNK.out, hk]; rfl
    have hl : lf = true := by rw [hlf, hn]; rfl
    have HF : putS (f + 1) t (k, v) = splT (.mk (insS t.ps (k, v) false) []) := by rw [putS, if_pos hk]
    subst hn hl
    rw [HF]
    exact specPut_leaf S ap ak np cp ck t k v w h (by obtain ⟨ps, ks⟩ := t; cases (show ks = [] from hk); exact g.leaf.2.1)
  · obtain ⟨ps, ks⟩ := t
    simp only [T.ks, T.ps] at hk HNK HNP
    obtain ⟨hp0, hl1, hl2, hf3, he4, ha5⟩ := g.kids hk
    have hn0 : nk ≠ 0 := by rw [HNK.out]; have := List.length_pos_iff.2 hk; omega
    have hl : lf = false := by rw [hlf]; exact decide_eq_false hn0
    subst hl
    obtain ⟨hq, _, _⟩ := kidOf_spec k hk
    have hw := wayOf_eq (k := k) hk hf3 ha5
    have HF : Hid (putS (f + 1) (.mk ps ks) (k, v) = splT (.mk [] (ks.take (wayOf ks k) ++ putS f (tAt ks (wayOf ks k)) (k, v) ++ ks.drop (wayOf ks k + 1)))) := by show _ = _; rw [putS]; simp only [T.ks, hk, if_false]
    have HKG := hid (g.kid hk k)
    rw [← hw] at hq HKG
    have H0 : Hid (Sub w (fun y => S y ∧ y < w.heap.size) false (.slice ap np cp) (.slice ak nk ck) (.mk ps ks)) := h.mono (fun y hy hl => ⟨hy, hl⟩)
    have hcap : nk ≤ ck ∧ ck ≤ 9223372036854775807 := by
      obtain ⟨L, P, K, h1, _⟩ := h.row
      exact h1.len.2
    obtain ⟨hc1, hc2⟩ := hcap
    have hnk : nk ≤ 4 := by rw [HNK.out]; exact hl2
    have HWY := hid (fun (w' : World) (h' : Sub w' (fun y => S y ∧ y < w.heap.size) false (.slice ap np cp) (.slice ak nk ck) (.mk ps ks)) => specWay_any _ false ap ak np cp nk ck (.mk ps ks) k w' h' (by simp only [T.ks]; omega))
    simp only [T.ks] at HWY
    have IH := hid ih
    have hqn : wayOf ks k < nk := by rw [HNK.out]; exact hq
    have HQ := hid hq
    generalize hqq : wayOf ks k = q at *
    clear hqq hw h g ih hlf b1 b2 hp0 hl1 hl2 hf3 he4 ha5 hq
    have HI0 : Hid (SpB w ((w.alloc (.cells #[.bool false, .slice ap np cp, .slice ak nk ck] 74)).alloc (.cells #[.string k, .string v] 35)) (.slice ap np cp) (.slice ak nk ck) k v) := by
      refine ⟨(Bk.new w 74 [.bool false, .slice ap np cp, .slice ak nk ck]).alloc _, ?_, below_new (below_new (Below.refl _ _)), by simp⟩
      have := Bk.new (w.alloc (.cells #[.bool false, .slice ap np cp, .slice ak nk ck] 74)) 35 [.string k, .string v]
      simpa using this
    have s0 := HI0.out.s.cell (j := 0) rfl
    have s1 := HI0.out.s.cell (j := 1) rfl
    have s2 := HI0.out.s.cell (j := 2) rfl
    have p0 := HI0.out.p.cell (j := 0) rfl
    go_enter Try.func42, Try.ntmps42
    go_wp2_with fail
    refine (HWY.out _ (H0.out.kept HI0.out.b)).mono ?_
    generalize (w.alloc (.cells #[.bool false, .slice ap np cp, .slice ak nk ck] 74)).alloc (.cells #[.string k, .string v] 35) = U at *
    rintro e w1 ⟨rfl, hb⟩
    have HI1 := hid (HI0.out.keep hb)
    have HI2 := hid (HI1.out.keep (below_new (o := .cells #[] 74) (w := w1) (Below.refl _ _)))
    have HSN := hid (so_new w1 (w.heap.size + 2) HI1.out.z)
    clear hb s0 s1 s2 p0 HWY HI0
    have hq1 : (q : Int) ≤ (ck : Int) := by omega
    have hq2 : (0 : Int) ≤ (q : Int) := by omega
    have hq3 : (q : Int) + 1 ≤ (nk : Int) := by omega
    have hq4 : (q : Int) < (nk : Int) := by omega
    have hq5 : (q : Int) ≤ 1000 := by omega
    have HS2 := hid ((H0.out.kept HI2.out.b).row)
    simp only [T.ks] at HS2
    have u2 := HI2.out.s.cell (j := 2) rfl
    go_wp2_with (at_builtin; refine wpList_append_subs rfl _ _ rfl (w.heap.size + 2) _ (fun y => S y ∧ y < w.heap.size) (.slice (some ⟨w1.heap.size, 0, none⟩) 0 0) _ [] (ks.take q) rfl HSN.out rfl (HS2.out.take (by omega)) ?q0 ?q1 ?q2 ?_)
    case q0 => intro y hy e; have e' : w1.heap.size = y := by simpa [Value.ownBlock] using e
               have := HI1.out.z; have := hy.2; omega
    case q1 => rw [List.length_take]; simp; omega
    case q2 => have := HI1.out.z; first | omega | (simp; omega)
    intro v3 w3 hO3 hg3 ha3
    obtain ⟨a3, n3, c3, e3, -⟩ := hO3.shape
    subst e3
    have hlo3 := hO3.lo
    have HI3 := hid (HI2.out.grow hg3 (fun x e => by cases e; exact HI1.out.z))
    have HS3 : Hid (SO w3 (w.heap.size + 2) (fun y => S y ∧ y < w.heap.size) (.slice a3 n3 c3) (ks.take q)) := hO3.mono (fun y hy _ => hy.1) (fun y hy e => by have := (hlo3 y e).1; have := hy.2; omega)
    have hsz3 : w1.heap.size + 1 ≤ w3.heap.size := by have := hg3.size; simpa using this
    have HZ3 := hid hsz3
    clear hO3 hg3 ha3 HSN HS2 HI2 u2 hlo3 hsz3
    have HKD := hid (H0.out.kept HI3.out.b)
    obtain ⟨g, off, hak, _, _, hkid⟩ := HKD.out.kids (by omega)
    subst hak
    obtain ⟨l9, ap9, np9, cp9, ak9, nk9, ck9, x0, x1, x2, hs9⟩ := hkid q hqn
    simp only [T.ks] at hs9
    have HS9 := hid hs9
    clear hkid hs9 HKD
    have t2 := HI3.out.s.cell (j := 2) rfl
    have p0 := HI3.out.p.cell (j := 0) rfl
    have p1 := HI3.out.p.cell (j := 1) rfl
    have HPL := hid (putS_len f (tAt ks q) (k, v))
    have HAP : Hid (∀ y, (S y ∧ y < w.heap.size) ∨ w3.drew.heap.size ≤ y → (Value.slice a3 n3 c3).ownBlock ≠ some y) := by
      rintro y (h | h) e
      · have := HS3.out.lo y e; have := h.2; omega
      · have := (HS3.out.lo y e).2
        have h2 : w3.heap.size ≤ y := h
        omega
    have HTL : Hid ((ks.take q).length + (putS f (tAt ks q) (k, v)).length ≤ 1048576) := by have := HPL.out; rw [List.length_take]; show _ ≤ _; omega
    have HST : Hid (∀ (w4 : World), Below w3.drew.heap.size w3.drew w4 → SO w4 (w.heap.size + 2) (fun y => S y ∧ y < w.heap.size) (.slice a3 n3 c3) (ks.take q)) := fun w4 hb => HS3.out.kept (Below.then' (below_drew w3) hb (Nat.le_refl _))
    have HZZ : Hid (∀ (w4 : World), Below w3.drew.heap.size w3.drew w4 → w.heap.size + 2 ≤ w4.heap.size) := fun w4 hb => Nat.le_trans HI3.out.z hb.size
    have HFIN : Hid (∀ (w4 w5 : World) (a5 : Option Addr) (n5 c5 : Nat) (R : Nat → Prop), Below w3.drew.heap.size w3.drew w4 → SO w5 (w.heap.size + 2) R (.slice a5 n5 c5) (ks.take q ++ putS f (tAt ks q) (k, v)) → (∀ y, R y → (S y ∧ y < w.heap.size) ∨ w3.heap.size ≤ y) → w4.grownBy w5 (Value.slice a3 n3 c3).ownBlock →
        SO w5 (w.heap.size + 2) (fun y => (S y ∧ y < w.heap.size) ∨ (w3.heap.size ≤ y ∧ y < w5.heap.size ∧ (Value.slice a5 n5 c5).ownBlock ≠ some y)) (.slice a5 n5 c5) (ks.take q ++ putS f (tAt ks q) (k, v)) ∧ SpB w w5 (.slice ap np cp) (.slice (some ⟨g, off, none⟩) nk ck) k v) := by
      intro w4 w5 a5 n5 c5 R hb hO hR hg
      have hlo := hO.lo
      refine ⟨?_, (HI3.out.keep (Below.then' (below_drew w3) hb (Nat.le_refl _))).grow hg (fun x e => (HS3.out.lo x e).1)⟩
      obtain ⟨L, P, K, h1, h2, h3⟩ := hO
      refine ⟨L, P, K, h1, fun i hi => (h2 i hi).mono (fun y hy hl => ?_), ?_⟩
      · rcases hR y hy with h | h
        · exact .inl h
        · exact .inr ⟨h, hl, h3 y hy⟩
      · rintro y (h | h)
        · intro e; have := (hlo y e).1; have := h.2; omega
        · exact h.2.2
    have HPT := hid (fun (w' : World) (h' : Sub w' (fun y => S y ∧ y < w.heap.size) l9 (.slice ap9 np9 cp9) (.slice ak9 nk9 ck9) (tAt ks q)) => IH.out false _ l9 ap9 ak9 np9 cp9 nk9 ck9 (tAt ks q) k v w' h' HKG.out)
    go_wp2_with fail
    go_cut [10] (fun x v2 => ∃ (a5 : Option Addr) (n5 c5 : Nat), x = .slice a5 n5 c5 ∧ Hid (SO v2 (w.heap.size + 2) (fun y => (S y ∧ y < w.heap.size) ∨ (w3.heap.size ≤ y ∧ y < v2.heap.size ∧ (Value.slice a5 n5 c5).ownBlock ≠ some y)) (.slice a5 n5 c5) (ks.take q ++ putS f (tAt ks q) (k, v))) ∧ Hid (SpB w v2 (.slice ap np cp) (.slice (some ⟨g, off, none⟩) nk ck) k v))
    case first =>
      go_region_law (first
        | (go_simp; go_at_call 42; refine (HPT.out _ (HS9.out.kept (below_drew _))).mono ?_; rintro e w4 ⟨v4, rfl, hR4, hb4⟩)
        | (refine step_append_subs rfl _ _ rfl (w.heap.size + 2) _ _ (.slice a3 n3 c3) _ (ks.take q) (putS f (tAt ks q) (k, v)) rfl (HST.out _ hb4) rfl hR4 HAP.out HTL.out (HZZ.out _ hb4) ?_; intro v5 w5 hO5 hg5 ha5; obtain ⟨a5, n5, c5, e5, -⟩ := hO5.shape; subst e5))
      all_goals (go_wp2_with fail; go_meet)
      all_goals exact ⟨a5, n5, c5, rfl, (HFIN.out _ _ _ _ _ _ hb4 hO5 (fun y hy => by rcases hy.1 with h | h | h; exact .inl h; exact .inl h; exact .inr h) hg5).1, (HFIN.out _ _ _ _ _ _ hb4 hO5 (fun y hy => by rcases hy.1 with h | h | h; exact .inl h; exact .inl h; exact .inr h) hg5).2⟩
    case rest =>
      obtain ⟨a5, n5, c5, rfl, HS5, HI5⟩ := hcut
      clear HFIN HPT HST HZZ HAP x0 x1 x2 t2 p0 p1 HS9 HTL
      have t2 := HI5.out.s.cell (j := 2) rfl
      have HS6 := hid ((H0.out.kept HI5.out.b).row)
      simp only [T.ks] at HS6
      have HDL : Hid ((ks.take q ++ putS f (tAt ks q) (k, v)).length + (ks.drop (q + 1)).length ≤ 1048576) := by
        have := HPL.out
        have := HNK.out
        rw [List.length_append, List.length_take, List.length_drop]; show _ ≤ _; omega
      have HAP : Hid (∀ y, S y ∧ y < w.heap.size → (Value.slice a5 n5 c5).ownBlock ≠ some y) := fun y hy e => by have := (HS5.out.lo y e).1; have := hy.2; omega
      have HSP := hid (fun (w6 : World) (R : Nat → Prop) (a6 : Option Addr) (n6 c6 : Nat) (L : List T) (hL : L ≠ []) (h6 : SubR w6 R (.slice a6 n6 c6) L) => specSplit_any R false none a6 0 0 n6 c6 (.mk [] L) w6 (h6.sub hL))
      have HNE : Hid (ks.take q ++ putS f (tAt ks q) (k, v) ++ ks.drop (q + 1) ≠ []) := by
        intro e
        have h1 := List.append_eq_nil_iff.1 e
        have h2 := List.append_eq_nil_iff.1 h1.1
        exact putS_ne f _ _ h2.2
      have HFN : Hid (∀ (w6 w7 : World) (R : Nat → Prop) (v6 : Value) (e : Ending), SO w6 (w.heap.size + 2) R v6 (ks.take q ++ putS f (tAt ks q) (k, v) ++ ks.drop (q + 1)) → (∀ y, R y → S y ∨ w.heap.size ≤ y) → SpB w w6 (.slice ap np cp) (.slice (some ⟨g, off, none⟩) nk ck) k v → SubsPost w6 (fun y => S y ∨ w.heap.size ≤ y) (splT (.mk [] (ks.take q ++ putS f (tAt ks q) (k, v) ++ ks.drop (q + 1)))) e w7 → SubsPost w S (putS (f + 1) (.mk ps ks) (k, v)) e w7) := by
        rintro w6 w7 R v6 e hO hR hI ⟨v7, rfl, h1, h2⟩
        have hsz := hI.b.size
        refine ⟨v7, rfl, ?_, Below.then' hI.b h2 (Nat.le_refl _)⟩
        rw [HF.out]
        exact h1.mono (fun y hy _ => hy.elim id (fun h => .inr (by omega)))
      have hz3 : w.heap.size ≤ w3.heap.size := by have := HI3.out.z; omega
      have HR5 : Hid (∀ (y z : Nat), ((S y ∧ y < w.heap.size ∨ w3.heap.size ≤ y ∧ y < wc.heap.size ∧ (Value.slice a5 n5 c5).ownBlock ≠ some y) ∨ S y ∧ y < w.heap.size) ∧ y < z → S y ∨ w.heap.size ≤ y) := by
        rintro y z ⟨(h | h) | h, -⟩
        · exact .inl h.1
        · right; omega
        · exact .inl h.1
      have HG6 : Hid (∀ (w6 : World), wc.grownBy w6 (Value.slice a5 n5 c5).ownBlock → SpB w w6 (.slice ap np cp) (.slice (some ⟨g, off, none⟩) nk ck) k v) := fun w6 hg => HI5.out.grow hg (fun x e => (HS5.out.lo x e).1)
      have HLO6 : Hid (∀ (w6 : World) (R : Nat → Prop) (v6 : Value) (L : List T), SO w6 (w.heap.size + 2) R v6 L → (∀ y, R y → S y ∨ w.heap.size ≤ y) → SubR w6 (fun y => S y ∨ w.heap.size ≤ y) v6 L) := fun w6 R v6 L h hR => h.subR (fun y _ h1 _ => .inr (by omega)) (fun y hy _ => hR y hy)
      have hstep : ∀ (src : Value), SubR wc (fun y => S y ∧ y < w.heap.size) src (ks.drop (q + 1)) → True := fun _ _ => trivial
      clear hstep
      by_cases hcap : 0 < ck - (q + 1)
      · have HDR := hid (HS6.out.drop (m := q + 1) (by omega))
        go_wp2_with (at_builtin; refine wpList_append_subs rfl _ _ rfl (w.heap.size + 2) _ (fun y => S y ∧ y < w.heap.size) (.slice a5 n5 c5) _ _ (ks.drop (q + 1)) rfl HS5.out rfl HDR.out HAP.out HDL.out HI5.out.z ?_)
        intro v6 w6 hO6 hg6 ha6
        obtain ⟨a6, n6, c6, e6, -⟩ := hO6.shape
        subst e6
        have HO6 := hid hO6
        rw [← List.append_assoc] at HO6
        have HI6 := hid (HG6.out _ hg6)
        clear hO6 hg6 ha6 HDR
        go_wp2_with fail
        refine (HSP.out _ _ _ _ _ _ HNE.out (HLO6.out _ _ _ _ HO6.out (fun y hy => HR5.out y _ hy))).mono ?_
        rintro e w7 h7
        obtain ⟨v7, rfl, h8, h9⟩ := HFN.out _ _ _ _ _ HO6.out (fun y hy => HR5.out y _ hy) HI6.out h7
        have H8 := hid h8
        have H9 := hid h9
        clear h7 h8 h9
        go_wp2
        go_ret
        exact ⟨_, rfl, H8.out, H9.out⟩
      · have hck : ck = q + 1 := by omega
        have hnk1 : nk = q + 1 := by omega
        have HDR : Hid (SubR wc (fun y => S y ∧ y < w.heap.size) (.slice (some ⟨g, off, none⟩) 0 0) (ks.drop (q + 1))) := by
          rw [List.drop_eq_nil_of_le (by rw [← HNK.out]; omega)]
          exact ⟨fun _ => false, fun _ => .slice none 0 0, fun _ => .slice none 0 0, ⟨_, 0, rfl, Nat.le_refl _, by omega, fun _ => rfl, fun h => (by cases h), fun h => (by simp at h)⟩, fun i hi => (by simp at hi)⟩
        subst hck hnk1
        go_wp2_with (at_builtin; refine wpList_append_subs rfl _ _ rfl (w.heap.size + 2) _ (fun y => S y ∧ y < w.heap.size) (.slice a5 n5 c5) _ _ (ks.drop (q + 1)) rfl HS5.out rfl HDR.out HAP.out HDL.out HI5.out.z ?_)
        intro v6 w6 hO6 hg6 ha6
        obtain ⟨a6, n6, c6, e6, -⟩ := hO6.shape
        subst e6
        have HO6 := hid hO6
        rw [← List.append_assoc] at HO6
        have HI6 := hid (HG6.out _ hg6)
        clear hO6 hg6 ha6 HDR
        go_wp2_with fail
        refine (HSP.out _ _ _ _ _ _ HNE.out (HLO6.out _ _ _ _ HO6.out (fun y hy => HR5.out y _ hy))).mono ?_
        rintro e w7 h7
        obtain ⟨v7, rfl, h8, h9⟩ := HFN.out _ _ _ _ _ HO6.out (fun y hy => HR5.out y _ hy) HI6.out h7
        have H8 := hid h8
        have H9 := hid h9
        clear h7 h8 h9
        go_wp2
        go_ret
        exact ⟨_, rfl, H8.out, H9.out⟩
end Go.Proofs.Ytkflneeifllpgaa
/-
  A list of nodes whose rows are all apart from each other.
-/
namespace Go.Proofs.Ytkflneeifllpgaa
open Go.RowKit
structure NA (w : World) (v : Value) (V : List V3) (ns : List NB) : Prop where
  len : V.length = ns.length
  row : w.ownsRow 0 106 3 v ns.length (ncs V)
  own : ∀ i, i < ns.length → OwN w (vAt V i) (nAt ns i) ∧ ap3 (vAt V i)
  apart : ∀ i j, i < ns.length → j < ns.length → i ≠ j → ∀ y, bl (vAt V i) y → ¬ bl (vAt V j) y
  off : ∀ i, i < ns.length → ∀ y, bl (vAt V i) y → v.ownBlock ≠ some y
theorem NA.to {w w' : World} {R : Nat → Prop} {v : Value} {V : List V3} {ns : List NB} (h : NA w v V ns) (ho : Only R w w') (hv : ∀ y, v.ownBlock = some y → ¬ R y) (hR : ∀ i, i < ns.length → ∀ y, bl (vAt V i) y → ¬ R y) : NA w' v V ns :=
  ⟨h.len, own_kept h.row ho hv, fun i hi => ⟨(h.own i hi).1.to ho (hR i hi), (h.own i hi).2⟩, h.apart, h.off⟩
theorem NA.kept {w w' : World} {v : Value} {V : List V3} {ns : List NB} (h : NA w v V ns) (hb : Below w.heap.size w w') : NA w' v V ns := h.to (only_of_below hb (fun _ => False)) (fun _ _ h => h) (fun _ _ _ _ h => h)
theorem na_nil (w : World) : NA w (.slice none 0 0) [] [] := ⟨rfl, World.ownsRow_nil _ _ _ _, fun i hi => by simp at hi, fun i j hi => by simp at hi, fun i hi => by simp at hi⟩
theorem NA.nr {w : World} {v : Value} {V : List V3} {ns : List NB} (h : NA w v V ns) {S : Nat → Prop} (hS : ∀ y, y < w.heap.size → S y) : Nr w S v ns :=
  ⟨V, h.len, rw_own h.row (fun k _ _ h => hS k h), fun i hi => ⟨rw_own (h.own i hi).1.1 (fun k _ _ h => hS k h), rw_own (h.own i hi).1.2.1 (fun k _ _ h => hS k h), rw_own (h.own i hi).1.2.2 (fun k _ _ h => hS k h)⟩⟩
/-- append(nodes, a node). -/
theorem NA.push {u w2 : World} {v v' : Value} {V : List V3} {ns : List NB} (h : NA u v V ns) (x : NB) (p : V3) (hx : OwN u p x) (hap : ap3 p) (hd : ∀ y, bl p y → v.ownBlock ≠ some y ∧ ∀ i, i < ns.length → ¬ bl (vAt V i) y)
    (ho : w2.ownsRow 0 106 3 v' (ns.length + 1) (ncs V ++ [p.1, p.2.1, p.2.2])) (hg : u.grownBy w2 v.ownBlock) (ha : v'.ownBlock = v.ownBlock ∨ v'.ownBlock = some u.heap.size) :
    NA w2 v' (V ++ [p]) (ns ++ [x]) := by
  have o : Only (fun y => v.ownBlock = some y) u w2 := only_of_grown hg (fun k e => e)
  have hl := h.len
  have hat : ∀ i, i < (ns ++ [x]).length → (i < ns.length ∧ vAt (V ++ [p]) i = vAt V i ∧ nAt (ns ++ [x]) i = nAt ns i) ∨ (i = ns.length ∧ vAt (V ++ [p]) i = p ∧ nAt (ns ++ [x]) i = x) := by
    intro i hi
    simp at hi
    by_cases e : i < ns.length
    · exact .inl ⟨e, vAt_append_left (by omega), nAt_append_left e⟩
    · obtain rfl : i = ns.length := by omega
      exact .inr ⟨rfl, by rw [← hl, vAt_append_at], nAt_append_at _ _ _⟩
  refine ⟨by simp [hl], by rw [ncs_append, List.length_append]; exact ho, fun i hi => ?_, fun i j hi hj hij y hy hz => ?_, fun i hi y hy hv => ?_⟩
  · rcases hat i hi with ⟨e, e1, e2⟩ | ⟨e, e1, e2⟩
    · rw [e1, e2]; exact ⟨(h.own i e).1.to o (h.off i e), (h.own i e).2⟩
    · rw [e1, e2]; exact ⟨hx.to o (fun y hy => (hd y hy).1), hap⟩
  · rcases hat i hi with ⟨e, e1, _⟩ | ⟨e, e1, _⟩
    · rw [e1] at hy
      rcases hat j hj with ⟨d, d1, _⟩ | ⟨d, d1, _⟩
      · rw [d1] at hz; exact h.apart i j e d hij y hy hz
      · rw [d1] at hz; exact (hd y hz).2 i e hy
    · rw [e1] at hy
      rcases hat j hj with ⟨d, d1, _⟩ | ⟨d, d1, _⟩
      · rw [d1] at hz; exact (hd y hy).2 j d hz
      · omega
  · have : y < u.heap.size ∧ v.ownBlock ≠ some y := by
      rcases hat i hi with ⟨e, e1, _⟩ | ⟨e, e1, _⟩
      · rw [e1] at hy; exact ⟨(h.own i e).1.lt hy, h.off i e y hy⟩
      · rw [e1] at hy; exact ⟨hx.lt hy, (hd y hy).1⟩
    rcases ha with ha | ha
    · rw [ha] at hv; exact this.2 hv
    · rw [ha] at hv; cases hv; omega
theorem nAt_other (ms : List NB) (z x : NB) (l : List NB) {i : Nat} (h : i ≠ ms.length) : nAt (ms ++ x :: l) i = nAt (ms ++ z :: l) i := by
  by_cases hi2 : i < ms.length
  · rw [nAt_append_left hi2, nAt_append_left hi2]
  · obtain ⟨j, rfl⟩ : ∃ j, i = ms.length + 1 + j := ⟨i - ms.length - 1, by omega⟩
    simp only [nAt]
    rw [List.getElem?_append_right (by omega), List.getElem?_append_right (by omega), show ms.length + 1 + j - ms.length = j + 1 by omega]
    rfl
/-- One node has turned. -/
theorem NA.upd {u w2 w3 : World} {v : Value} {V : List V3} {ms l : List NB} {z z' : NB} {p' : V3} {g : Nat} (h : NA u v V (ms ++ z :: l)) (hv : v.ownBlock = some g) (ho : Only (bl (vAt V ms.length)) u w2) (hown : OwN w2 p' z') (hap : ap3 p')
    (hbl : ∀ y, bl p' y → bl (vAt V ms.length) y ∨ u.heap.size ≤ y) (o3 : Only (fun y => y = g) w2 w3) (hrow : w3.ownsRow 0 106 3 v (ms ++ z :: l).length (ncs (V.set ms.length p'))) : NA w3 v (V.set ms.length p') (ms ++ z' :: l) := by
  have hl2 : (ms ++ z' :: l).length = (ms ++ z :: l).length := by simp
  have hlt : ms.length < (ms ++ z :: l).length := by simp
  have hl := h.len
  have hg : g < u.heap.size := (World.ownsRow.lt h.row g hv).2
  have hoff : ∀ y, bl p' y → y ≠ g := by
    intro y hy e
    rcases hbl y hy with h1 | h1
    · exact h.off _ hlt y h1 (by rw [hv, e])
    · omega
  have hat : ∀ i, i ≠ ms.length → vAt (V.set ms.length p') i = vAt V i := fun i hi => vAt_other _ _ _ _ hi
  have hat0 : vAt (V.set ms.length p') ms.length = p' := vAt_set _ _ _ (by omega)
  refine ⟨by rw [List.length_set, hl, hl2], by rw [hl2]; exact hrow, fun i hi => ?_, fun i j hi hj hij y hy hz => ?_, fun i hi y hy hv' => ?_⟩
  · rw [hl2] at hi
    by_cases e : i = ms.length
    · subst e
      rw [hat0, nAt_append_at]
      exact ⟨hown.to o3 (fun y hy => hoff y hy), hap⟩
    · rw [hat i e, nAt_other ms z z' l e]
      exact ⟨((h.own i hi).1.to ho (fun y hy hz => h.apart i ms.length hi hlt e y hy hz)).to o3 (fun y hy e2 => h.off i hi y hy (by rw [hv, e2])), (h.own i hi).2⟩
  · rw [hl2] at hi hj
    have key : ∀ i, i < (ms ++ z :: l).length → i ≠ ms.length → ∀ y, bl (vAt V i) y → ¬ bl p' y := by
      intro i hi e y hy hz
      rcases hbl y hz with h1 | h1
      · exact h.apart i ms.length hi hlt e y hy h1
      · have := (h.own i hi).1.lt hy; omega
    by_cases e : i = ms.length
    · rw [e, hat0] at hy
      have hj' : j ≠ ms.length := by omega
      rw [hat j hj'] at hz
      exact key j hj hj' y hz hy
    · rw [hat i e] at hy
      by_cases e2 : j = ms.length
      · rw [e2, hat0] at hz; exact key i hi e y hy hz
      · rw [hat j e2] at hz; exact h.apart i j hi hj hij y hy hz
  · rw [hl2] at hi
    rw [hv] at hv'
    cases hv'
    by_cases e : i = ms.length
    · rw [e, hat0] at hy; exact hoff _ hy rfl
    · rw [hat i e] at hy; exact h.off i hi _ hy hv
theorem row_set {w : World} {E : TypeId} {s g n c m : Nat} {xs : List Value} (h : w.ownsRow 0 E s (.slice (some ⟨g, 0, none⟩) n c) m xs) (j : Nat) (u : Value) : (w.setCell ⟨g, j, none⟩ u).ownsRow 0 E s (.slice (some ⟨g, 0, none⟩) n c) m (xs.set j u) := by
  obtain ⟨k1, k2⟩ := h
  rcases k2 with ⟨k2, _⟩ | ⟨g', cap, cur, e, k3, k4, k5, k6, k7, k8⟩
  · cases k2
  · cases e
    refine ⟨by simpa using k1, .inr ⟨g, c, cur.setIfInBounds j u, rfl, k3, ?_, k5, k6, by simpa using k7, ?_⟩⟩
    · simp [World.setCell, Array.getElem?_modify, k4]
    · rw [← k8]
      simp only [Array.toList_setIfInBounds, List.take_set]
theorem set_same {xs : List Value} {j : Nat} {u : Value} (h : xs[j]? = some u) : xs.set j u = xs := by
  apply List.ext_getElem?
  intro i
  rw [List.getElem?_set]
  split
  · rename_i e; subst e
    split
    · exact h.symm
    · rename_i hl; rw [List.getElem?_eq_none (by omega)]
  · rfl
theorem ncs_set1 (V : List V3) (j : Nat) (x : Value) (h : j < V.length) : ncs (V.set j ((vAt V j).1, x, (vAt V j).2.2)) = (ncs V).set (j * 3 + 1) x := by
  obtain ⟨c0, c1, c2⟩ := ncs_at V j h
  rw [ncs_set _ _ _ h]
  simp only
  rw [set_same c0]
  apply set_same
  rw [List.getElem?_set, if_neg (by omega)]
  exact c2
theorem ncs_set2 (V : List V3) (j : Nat) (x : Value) (h : j < V.length) : ncs (V.set j ((vAt V j).1, (vAt V j).2.1, x)) = (ncs V).set (j * 3 + 2) x := by
  obtain ⟨c0, c1, c2⟩ := ncs_at V j h
  rw [ncs_set _ _ _ h]
  simp only
  rw [set_same c0, set_same c1]
/-- l[at].Keys = append(l[at].Keys, s) -/
theorem NA.addKey {u w2 : World} {g n c : Nat} {V : List V3} {ms l : List NB} {z : NB} {kx' : Value} {s : ByteArray} (h : NA u (.slice (some ⟨g, 0, none⟩) n c) V (ms ++ z :: l)) (hO : w2.ownsRow 0 9 1 kx' (z.keys.length + 1) (z.keys.map Value.string ++ [.string s])) (hg : u.grownBy w2 (vAt V ms.length).2.1.ownBlock)
    (ha : kx'.ownBlock = (vAt V ms.length).2.1.ownBlock ∨ ∃ k, kx'.ownBlock = some k ∧ u.heap.size ≤ k) :
    NA (w2.setCell ⟨g, ms.length * 3 + 1, none⟩ kx') (.slice (some ⟨g, 0, none⟩) n c) (V.set ms.length ((vAt V ms.length).1, kx', (vAt V ms.length).2.2)) (ms ++ ⟨z.ps, z.keys ++ [s], z.kids⟩ :: l) := by
  have hlt : ms.length < (ms ++ z :: l).length := by simp
  obtain ⟨h1, h2⟩ := h.own _ hlt
  rw [nAt_append_at] at h1
  have o : Only (fun y => (vAt V ms.length).2.1.ownBlock = some y) u w2 := only_of_grown hg (fun k e => e)
  have hl := h.len
  have hnew : ∀ y, kx'.ownBlock = some y → (vAt V ms.length).2.1.ownBlock = some y ∨ u.heap.size ≤ y := by
    intro y hy
    rcases ha with e | ⟨k, e, hk⟩
    · exact .inl (e ▸ hy)
    · rw [e] at hy; cases hy; exact .inr hk
  refine h.upd rfl (o.mono (fun y _ e => .inr (.inl e))) ⟨?_, ?_, ?_⟩ ?_ ?_ (only_set (R := fun y => y = g) rfl _) ?_
  · exact own_kept h1.1 o (fun y e e2 => ((h2 y).1 e).1 e2)
  · simpa using hO
  · exact own_kept h1.2.2 o (fun y e e2 => (h2 y).2 e2 e)
  · intro y
    refine ⟨fun e => ⟨fun e2 => ?_, ((h2 y).1 e).2⟩, fun e e2 => ?_⟩
    · rcases hnew y e2 with h3 | h3
      · exact ((h2 y).1 e).1 h3
      · have := h1.lt (.inl e); omega
    · rcases hnew y e with h3 | h3
      · exact (h2 y).2 h3 e2
      · have := h1.lt (.inr (.inr e2)); omega
  · rintro y (e | e | e)
    · exact .inl (.inl e)
    · exact (hnew y e).imp (fun h => .inr (.inl h)) id
    · exact .inl (.inr (.inr e))
  · rw [ncs_set1 _ _ _ (by omega)]
    exact row_set (own_kept h.row o (fun y e e2 => h.off _ hlt y (.inr (.inl e2)) e)) _ _
/-- l[at].Kids = append(l[at].Kids, s) -/
theorem NA.addKid {u w2 : World} {g n c : Nat} {V : List V3} {ms l : List NB} {z : NB} {ki' : Value} {s : Int} (h : NA u (.slice (some ⟨g, 0, none⟩) n c) V (ms ++ z :: l)) (hO : w2.ownsRow 0 3 1 ki' (z.kids.length + 1) (z.kids.map (Value.int .i64) ++ [.int .i64 s])) (hg : u.grownBy w2 (vAt V ms.length).2.2.ownBlock)
    (ha : ki'.ownBlock = (vAt V ms.length).2.2.ownBlock ∨ ∃ k, ki'.ownBlock = some k ∧ u.heap.size ≤ k) :
    NA (w2.setCell ⟨g, ms.length * 3 + 2, none⟩ ki') (.slice (some ⟨g, 0, none⟩) n c) (V.set ms.length ((vAt V ms.length).1, (vAt V ms.length).2.1, ki')) (ms ++ ⟨z.ps, z.keys, z.kids ++ [s]⟩ :: l) := by
  have hlt : ms.length < (ms ++ z :: l).length := by simp
  obtain ⟨h1, h2⟩ := h.own _ hlt
  rw [nAt_append_at] at h1
  have o : Only (fun y => (vAt V ms.length).2.2.ownBlock = some y) u w2 := only_of_grown hg (fun k e => e)
  have hl := h.len
  have hnew : ∀ y, ki'.ownBlock = some y → (vAt V ms.length).2.2.ownBlock = some y ∨ u.heap.size ≤ y := by
    intro y hy
    rcases ha with e | ⟨k, e, hk⟩
    · exact .inl (e ▸ hy)
    · rw [e] at hy; cases hy; exact .inr hk
  refine h.upd rfl (o.mono (fun y _ e => .inr (.inr e))) ⟨?_, ?_, ?_⟩ ?_ ?_ (only_set (R := fun y => y = g) rfl _) ?_
  · exact own_kept h1.1 o (fun y e e2 => ((h2 y).1 e).2 e2)
  · exact own_kept h1.2.1 o (fun y e e2 => (h2 y).2 e e2)
  · simpa using hO
  · intro y
    refine ⟨fun e => ⟨((h2 y).1 e).1, fun e2 => ?_⟩, fun e e2 => ?_⟩
    · rcases hnew y e2 with h3 | h3
      · exact ((h2 y).1 e).2 h3
      · have := h1.lt (.inl e); omega
    · rcases hnew y e2 with h3 | h3
      · exact (h2 y).2 e h3
      · have := h1.lt (.inr (.inl e)); omega
  · rintro y (e | e | e)
    · exact .inl (.inl e)
    · exact .inl (.inr (.inl e))
    · exact (hnew y e).imp (fun h => .inr (.inr h)) id
  · rw [ncs_set2 _ _ _ (by omega)]
    exact row_set (own_kept h.row o (fun y e e2 => h.off _ hlt y (.inr (.inr e2)) e)) _ _
/-- How far nodes has come: L stands there, ns stood there at the start; new rows lie in blocks of P or in new ones. -/
structure NI (w wr : World) (v vv : Value) (V0 V : List V3) (ns L : List NB) (P : Nat → Prop) : Prop where
  na : NA wr vv V L
  old : ∀ i, i < ns.length → vAt V i = vAt V0 i
  new : ∀ i, ns.length ≤ i → i < L.length → ∀ y, bl (vAt V i) y → P y ∨ w.heap.size ≤ y
  only : Only (fun y => v.ownBlock = some y) w wr
  vb : ∀ y, vv.ownBlock = some y → v.ownBlock = some y ∨ w.heap.size ≤ y
theorem NI.keep {w wr w1 : World} {v vv : Value} {V0 V : List V3} {ns L : List NB} {P : Nat → Prop} (h : NI w wr v vv V0 V ns L P) (hb : Below wr.heap.size wr w1) : NI w w1 v vv V0 V ns L P :=
  ⟨h.na.kept hb, h.old, h.new, h.only.trans (only_of_below hb _), h.vb⟩
theorem NI.mono {w wr : World} {v vv : Value} {V0 V : List V3} {ns L : List NB} {P Q : Nat → Prop} (h : NI w wr v vv V0 V ns L P) (hq : ∀ y, P y → Q y) : NI w wr v vv V0 V ns L Q :=
  ⟨h.na, h.old, fun i h1 h2 y hy => (h.new i h1 h2 y hy).imp (hq y) id, h.only, h.vb⟩
/-- Behind a kid's nodes. -/
theorem NI.then {w wr w' : World} {v vv v' : Value} {V0 V V' : List V3} {ns L M : List NB} {P Q : Nat → Prop} (h : NI w wr v vv V0 V ns L P) (hns : ns.length ≤ L.length) (k : NI wr w' vv v' V V' L M Q) : NI w w' v v' V0 V' ns M (fun y => P y ∨ Q y) := by
  have hs := h.only.size
  refine ⟨k.na, fun i hi => (k.old i (by omega)).trans (h.old i hi), fun i h1 h2 y hy => ?_, h.only.then k.only (fun i hi e => ?_), fun y hy => ?_⟩
  · by_cases e : i < L.length
    · rw [k.old i e] at hy
      exact (h.new i h1 e y hy).imp .inl id
    · rcases k.new i (by omega) h2 y hy with h3 | h3
      · exact .inl (.inr h3)
      · right; omega
  · rcases h.vb i e with h3 | h3
    · exact h3
    · omega
  · rcases k.vb y hy with h3 | h3
    · exact h.vb y h3
    · right; omega
theorem NI.addKey {w u w2 : World} {v : Value} {g n c : Nat} {V0 V : List V3} {ns l : List NB} {z : NB} {P : Nat → Prop} {kx' : Value} {s : ByteArray} (h : NI w u v (.slice (some ⟨g, 0, none⟩) n c) V0 V ns (ns ++ z :: l) P) (hO : w2.ownsRow 0 9 1 kx' (z.keys.length + 1) (z.keys.map Value.string ++ [.string s])) (hg : u.grownBy w2 (vAt V ns.length).2.1.ownBlock)
    (ha : kx'.ownBlock = (vAt V ns.length).2.1.ownBlock ∨ ∃ k, kx'.ownBlock = some k ∧ u.heap.size ≤ k) (hfr : ∀ y, (vAt V ns.length).2.1.ownBlock = some y → w.heap.size ≤ y) :
    NI w (w2.setCell ⟨g, ns.length * 3 + 1, none⟩ kx') v (.slice (some ⟨g, 0, none⟩) n c) V0 (V.set ns.length ((vAt V ns.length).1, kx', (vAt V ns.length).2.2)) ns (ns ++ ⟨z.ps, z.keys ++ [s], z.kids⟩ :: l) P := by
  have hs := h.only.size
  have hlt : ns.length < (ns ++ z :: l).length := by simp
  have hl := h.na.len
  refine ⟨h.na.addKey hO hg ha, fun i hi => (vAt_other _ _ _ _ (by omega)).trans (h.old i hi), fun i h1 h2 y hy => ?_, ?_, h.vb⟩
  · have h2' : i < (ns ++ z :: l).length := by simpa using h2
    by_cases e : i = ns.length
    · rw [e, vAt_set _ _ _ (by omega)] at hy
      rcases hy with hy | hy | hy
      · exact h.new _ (Nat.le_refl _) hlt y (.inl hy)
      · rcases ha with e | ⟨k, e, hk⟩
        · exact .inr (hfr y (e ▸ hy))
        · rw [e] at hy; cases hy; right; omega
      · exact h.new _ (Nat.le_refl _) hlt y (.inr (.inr hy))
    · rw [vAt_other _ _ _ _ e] at hy
      exact h.new i h1 h2' y hy
  · refine (h.only.then (only_of_grown hg (R := fun y => (vAt V ns.length).2.1.ownBlock = some y) (fun k e => e)) (fun i hi e => ?_)).then (only_set (R := fun y => y = g) rfl _) (fun i hi e => ?_)
    · have := hfr i e; omega
    · rcases h.vb i (by rw [e]; rfl) with h3 | h3
      · exact h3
      · omega
theorem NI.addKid {w u w2 : World} {v : Value} {g n c : Nat} {V0 V : List V3} {ns l : List NB} {z : NB} {P : Nat → Prop} {kx' : Value} {s : Int} (h : NI w u v (.slice (some ⟨g, 0, none⟩) n c) V0 V ns (ns ++ z :: l) P) (hO : w2.ownsRow 0 3 1 kx' (z.kids.length + 1) (z.kids.map (Value.int .i64) ++ [.int .i64 s])) (hg : u.grownBy w2 (vAt V ns.length).2.2.ownBlock)
    (ha : kx'.ownBlock = (vAt V ns.length).2.2.ownBlock ∨ ∃ k, kx'.ownBlock = some k ∧ u.heap.size ≤ k) (hfr : ∀ y, (vAt V ns.length).2.2.ownBlock = some y → w.heap.size ≤ y) :
    NI w (w2.setCell ⟨g, ns.length * 3 + 2, none⟩ kx') v (.slice (some ⟨g, 0, none⟩) n c) V0 (V.set ns.length ((vAt V ns.length).1, (vAt V ns.length).2.1, kx')) ns (ns ++ ⟨z.ps, z.keys, z.kids ++ [s]⟩ :: l) P := by
  have hs := h.only.size
  have hlt : ns.length < (ns ++ z :: l).length := by simp
  have hl := h.na.len
  refine ⟨h.na.addKid hO hg ha, fun i hi => (vAt_other _ _ _ _ (by omega)).trans (h.old i hi), fun i h1 h2 y hy => ?_, ?_, h.vb⟩
  · have h2' : i < (ns ++ z :: l).length := by simpa using h2
    by_cases e : i = ns.length
    · rw [e, vAt_set _ _ _ (by omega)] at hy
      rcases hy with hy | hy | hy
      · exact h.new _ (Nat.le_refl _) hlt y (.inl hy)
      · exact h.new _ (Nat.le_refl _) hlt y (.inr (.inl hy))
      · rcases ha with e | ⟨k, e, hk⟩
        · exact .inr (hfr y (e ▸ hy))
        · rw [e] at hy; cases hy; right; omega
    · rw [vAt_other _ _ _ _ e] at hy
      exact h.new i h1 h2' y hy
  · refine (h.only.then (only_of_grown hg (R := fun y => (vAt V ns.length).2.2.ownBlock = some y) (fun k e => e)) (fun i hi e => ?_)).then (only_set (R := fun y => y = g) rfl _) (fun i hi e => ?_)
    · have := hfr i e; omega
    · rcases h.vb i (by rw [e]; rfl) with h3 | h3
      · exact h3
      · omega
end Go.Proofs.Ytkflneeifllpgaa
/-
  put: a pair comes in below a limb; what is too much for it comes newly behind it.
-/
namespace Go.Proofs.Ytkflneeifllpgaa
open Go.RowKit
theorem below_dn (w : World) (q : Nat) : Below w.heap.size w (w.drewN q) := ⟨rfl, rfl, rfl, Nat.le_refl _, fun _ _ => rfl⟩
def PutPost (w : World) (S : Nat → Prop) (b : Nat) (x : T × T) (e : Ending) (w' : World) : Prop := ∃ b2, e = .returned (.pointer (some ⟨b2, 0, none⟩)) ∧ TwoL w w' b b2 x.1 x.2 S
theorem limb_bare (w : World) : Limb (w.alloc (.cells #[.slice none 0 0, .slice none 0 0] 112)) (fun x => x = w.heap.size) w.heap.size bareT :=
  .mk _ _ (.slice none 0 0) (.slice none 0 0) [] [] (fun _ => 0) (fun _ _ => False) rfl (Bk.new w 112 [.slice none 0 0, .slice none 0 0]) (World.ownsRow_nil _ _ _ _) (World.ownsRow_nil _ _ _ _) (fun x hx => by cases hx) (fun x hx => by cases hx) (fun i hi => by simp at hi) (fun i j hi => by simp at hi) (fun i hi => by simp at hi)
theorem put_end {w w1 w2 : World} {b : Nat} {t1 : T} {x : T × T} {S S' : Nat → Prop} (h1 : ∀ y, S' y → (S y ∨ w.heap.size ≤ y) ∧ y < w1.heap.size) (hon : Only S w w1)
    (h : TwoL (w1.alloc (.cells #[.slice none 0 0, .slice none 0 0] 112)) w2 b w1.heap.size (shT t1 bareT).1 (shT t1 bareT).2 (fun y => S' y ∨ y = w1.heap.size)) (hx : x = shT t1 bareT) :
    PutPost w S b x (.returned (.pointer (some ⟨w1.heap.size, 0, none⟩))) w2 := by
  subst hx
  obtain ⟨S1, S2, k1, k2, k3, k4, k5⟩ := h
  have hs := hon.size
  refine ⟨_, rfl, S1, S2, k1, k2, k3, fun y hy => ⟨?_, (k4 y hy).2⟩, (hon.trans (only_alloc _ _ _)).then k5 ?_⟩
  · rcases (k4 y hy).1 with (h | h) | h
    · exact (h1 y h).1
    · right; omega
    · right; simp at h; omega
  · rintro i hi (h | h)
    · rcases (h1 i h).1 with h | h
      · exact h
      · omega
    · omega
theorem small_out {h : Nat} {r : Bool} {l : List PB} {x : T × T} (g : PutOut h r l x) : x.2.ps.length + x.2.ks.length ≤ 8 := by
  cases e : x.2.bare with
  | true => rw [bare_iff.1 e]; decide
  | false =>
    have := (g.both e).2
    clear g e
    generalize x.2 = y at *
    obtain ⟨ps, ks⟩ := y
    simp only [T.ps, T.ks]
    by_cases hk : ks = []
    · subst hk; have := full_lf this; simp; omega
    · obtain ⟨_, h2, rfl, _⟩ := full_br this hk; simp; omega
theorem PutIn.small {h : Nat} {r : Bool} {t : T} (g : PutIn h r t) : t.ps.length ≤ 4 ∧ t.ks.length ≤ 4 := by
  obtain ⟨ps, ks⟩ := t
  simp only [T.ps, T.ks]
  rcases g.full with hf | ⟨_, e⟩
  · by_cases hk : ks = []
    · subst hk; exact ⟨(full_lf hf).1, by simp⟩
    · obtain ⟨_, h2, rfl, _⟩ := full_br hf hk; exact ⟨by simp, h2⟩
  · cases e; simp
set_option maxHeartbeats 1000000 in
set_option maxRecDepth 20000 in
theorem put_any : ∀ (f : Nat) (r : Bool) (S : Nat → Prop) (b : Nat) (t : T) (k v : ByteArray) (w : World), Limb w S b t → (∀ x, S x → x < w.heap.size) → PutIn f r t →
    Calls Try.prog 76 #[.pointer (some ⟨b, 0, none⟩), .agg #[.string k, .string v]] w fun e w' => PutPost w S b (putF f t (k, v)) e w' := by
  intro f
  induction f with
  | zero => intro r S b t k v w _ _ g; exact g.ev.elim
  | succ f ih =>
  intro r S b t k v w hL hS g
  have hb := below_new (o := .cells #[.string k, .string v] 35) (w := w) (Below.refl _ _)
  have HB0 := hid hb
  have KP := hid (Bk.new w 35 [.string k, .string v])
  have HL0 := hid (hL.kept hb)
  have HS0 : Hid (∀ x, S x → x < (w.alloc (.cells #[.string k, .string v] 35)).heap.size) := fun x hx => Nat.lt_of_lt_of_le (hS x hx) hb.size
  have HSW := hid hS
  have hlv := g.small
  have HG := hid g
  have IH := hid ih
  clear hb hL hS g ih
  have p0 := KP.out.cell (j := 0) rfl
  have p1 := KP.out.cell (j := 1) rfl
  have HTG := hid (fun (S1 : Nat → Prop) (t1 : T) (w1 : World) (h1 : Limb w1 S1 b t1) (h2 : ∀ x, S1 x → x < w1.heap.size) (h3 : t1.ps.length ≤ 1000) (h4 : t1.ks.length ≤ 1000) => together_any S1 (fun x => x = w1.heap.size) b w1.heap.size t1 bareT (w1.alloc (.cells #[.slice none 0 0, .slice none 0 0] 112)) (h1.kept (below_new (Below.refl _ _))) (limb_bare w1) (fun x hx e => by have := h2 x hx; omega) (fun x hx => by have := h2 x hx; simp; omega) (fun x hx => by simp [hx]) (by show (t1.ps ++ []).length ≤ _; rw [List.append_nil]; omega) (by show (t1.ks ++ []).length ≤ _; rw [List.append_nil]; omega))
  by_cases hk : t.ks = []
  · have hlz : decide (t.ks.length = 0) = true := by simp [hk]
    have HF : Hid (putF (f + 1) t (k, v) = shT (.mk (insP t.ps (k, v)) t.ks) bareT) := by show _ = _; rw [putF, if_pos hk]
    have HA : Hid (Asc t.ps) := by
      obtain ⟨ps, ks⟩ := t
      cases (show ks = [] from hk)
      exact HG.out.leaf.2.2.2
    have HPP := hid (fun (w' : World) h1 h2 => putPair_any S b t k v w' h1 h2 HA.out (by omega))
    have HLF := hid (fun (w' : World) h1 => isLeaf_any S b t w' h1)
    rw [hlz] at HLF
    have HI3 : Hid ((insP t.ps (k, v)).length ≤ 1000) := by have := insP_len t.ps (k, v); show _ ≤ _; omega
    have HI4 : Hid (t.ks.length ≤ 1000) := by show _ ≤ _; omega
    clear hlv hlz
    go_enter Try.func76, Try.ntmps76
    go_wp2_with fail
    refine (HLF.out _ HL0.out).mono ?_
    generalize hU : w.alloc (.cells #[.string k, .string v] 35) = U at *
    clear hU
    rintro e w1 ⟨rfl, rfl⟩
    go_wp2_with fail
    refine (HPP.out _ HL0.out HS0.out).mono ?_
    rintro e w1 ⟨rfl, h1⟩
    obtain ⟨S', k1, k2, k3⟩ := h1.from HB0.out
    have H1 := hid k1
    have H2 := hid k2
    have H3 := hid k3
    clear h1 k1 k2 k3
    go_wp2_with fail
    refine (HTG.out S' _ w1 H1.out (fun x hx => (H2.out x hx).2) HI3.out HI4.out).mono ?_
    rintro e w2 ⟨rfl, h2⟩
    have H4 := hid h2
    clear h2
    go_wp2
    go_ret
    exact put_end H2.out H3.out H4.out HF.out
  · obtain ⟨ps, ks⟩ := t
    simp only [T.ks, T.ps] at hk hlv
    have hlz : decide ((T.mk ps ks).ks.length = 0) = false := decide_eq_false (by simp only [T.ks]; have := List.length_pos_iff.2 hk; omega)
    obtain ⟨hp0, hl1, hl2, hf3, he4, ha5⟩ := HG.out.kids hk
    obtain ⟨hq, _, _⟩ := kidOf_spec k hk
    have HF : Hid (putF (f + 1) (.mk ps ks) (k, v) = shT (.mk ps (insK ks (kidOf ks k) (putF f (tAt ks (kidOf ks k)) (k, v)))) bareT) := by show _ = _; rw [putF]; simp only [T.ks, T.ps, hk, if_false]
    have HOUT := hid (putF_out f false _ (k, v) (HG.out.kid hk k))
    have HKG := hid (HG.out.kid hk k)
    have HKF := hid (fun (w' : World) h1 => kidFor_any S b (.mk ps ks) k w' h1 hf3 (by simp only [T.ks]; omega))
    have HLF := hid (fun (w' : World) h1 => isLeaf_any S b (.mk ps ks) w' h1)
    rw [hlz] at HLF
    simp only [T.ks] at HKF
    have HLEN : Hid (∀ r, (insK ks (kidOf ks k) r).length ≤ 1000) := fun r => by have := insK_len ks (kidOf ks k) r; omega
    have HPL : Hid (ps.length ≤ 1000) := by show _ ≤ _; omega
    have hkl : ks.length ≤ 4 := hl2
    clear hlz hp0 hl1 hl2 hf3 he4 ha5 hlv HG
    go_enter Try.func76, Try.ntmps76
    go_wp2_with fail
    refine (HLF.out _ HL0.out).mono ?_
    generalize hU : w.alloc (.cells #[.string k, .string v] 35) = U at *
    clear hU
    rintro e w1 ⟨rfl, rfl⟩
    go_wp2_with fail
    refine (HKF.out _ HL0.out).mono ?_
    rintro e w9 ⟨rfl, n1, rfl⟩
    have HB1 := hid (Below.then' HB0.out (below_dn w1 n1) (Nat.le_refl _))
    have p0' := (KP.out.below (below_dn w1 n1)).cell (j := 0) rfl
    have p1' := (KP.out.below (below_dn w1 n1)).cell (j := 1) rfl
    have HL1 := hid (HL0.out.kept (below_dn w1 n1))
    have HS1 : Hid (∀ x, S x → x < (w1.drewN n1).heap.size) := HS0.out
    generalize hW : w1.drewN n1 = W at *
    clear hW p0 p1 HB0 HL0 HS0 KP HKF HLF
    obtain ⟨pv, kv, A, SS, lb⟩ := HL1.out.lb
    obtain ⟨ak, ck, e5⟩ := own_shape lb.hK
    subst e5
    have c1 := lb.hB.cell (j := 1) rfl
    generalize hqq : kidOf ks k = q at *
    clear hqq
    obtain ⟨g, off, hak, hSg, hgl, hcell⟩ := (rw_own lb.hK (S := fun _ => True) (fun _ _ _ _ => trivial)).at (by omega)
    subst hak
    have cq := hcell q _ (ptrs_at A _ q hq)
    have HLB := hid lb
    have hq' : (q : Int) < (ks.length : Int) := by omega
    have hq0 : (0 : Int) ≤ (q : Int) := by omega
    have HLK := hid (lb.hk q hq)
    have HSK : Hid (∀ x, SS q x → x < W.heap.size) := fun x hx => HS1.out x (lb.hSS q hq x hx).1
    have HQ := hid hq
    have HKL := hid hkl
    simp only [ptr] at cq
    generalize hbq : A q = bq at *
    have HBQ := hid hbq
    clear hcell hSg hgl lb hbq hkl hq
    generalize hnk : ks.length = nk at *
    have HNK := hid hnk
    clear hnk
    go_wp2_with fail
    have HTW : Hid (∀ (w2 : World) (b2 : Nat), TwoL W.drew w2 bq b2 (putF f (tAt ks q) (k, v)).1 (putF f (tAt ks q) (k, v)).2 (SS q) → TwoL W w2 bq b2 (putF f (tAt ks q) (k, v)).1 (putF f (tAt ks q) (k, v)).2 (SS q)) := by
      rintro w2 b2 ⟨S1, S2, k1, k2, k3, k4, k5⟩
      exact ⟨S1, S2, k1, k2, k3, k4, (only_of_below (below_drew W) _).trans k5⟩
    go_cut [6] (fun x v2 => ∃ b2, x = .pointer (some ⟨b2, 0, none⟩) ∧ Hid (TwoL W v2 bq b2 (putF f (tAt ks q) (k, v)).1 (putF f (tAt ks q) (k, v)).2 (SS q)))
    case first =>
      go_region_with (go_at_call 76; refine (IH.out false (SS q) bq (tAt ks q) k v _ (HLK.out.kept (below_drew _)) HSK.out HKG.out).mono ?_; rintro e w2 ⟨b2, rfl, htwo⟩)
      all_goals (go_wp2_with fail; go_meet)
      all_goals exact ⟨_, rfl, HTW.out _ _ htwo⟩
    case rest =>
      obtain ⟨b2, rfl, HT⟩ := hcut
      clear c1 cq p0' p1' HTW
      obtain ⟨S1, S2, hT1, hT2, hT3, hT4, hT5⟩ := HT.out
      clear HT
      have HBR := hid (HOUT.out)
      have HBA := hid (fun (w' : World) h1 => isBare_any S2 b2 (putF f (tAt ks q) (k, v)).2 w' h1 (Nat.le_trans (small_out HOUT.out) (by omega)))
      generalize hrr : putF f (tAt ks q) (k, v) = rr at *
      clear hrr
      have HK := hid (HLB.out.kid HS1.out (by rw [HNK.out]; exact HQ.out) (by rw [HBQ.out]; exact hT1) (fun x hx => hT4 x (.inl hx)) hT5)
      have HON : Hid (Only S w wc) := (only_of_below HB1.out S).then hT5 (fun x hx h => (HLB.out.hSS q (by rw [HNK.out]; exact HQ.out) x h).1)
      have HSL : Hid (∀ y, S y ∨ S1 y → (S y ∨ w.heap.size ≤ y) ∧ y < wc.heap.size) := by
        have hsz1 := HB1.out.size
        have hsz2 := hT5.size
        rintro y (h | h)
        · have := HSW.out y h; exact ⟨.inl h, by omega⟩
        · refine ⟨?_, (hT4 y (.inl h)).2⟩
          rcases (hT4 y (.inl h)).1 with h2 | h2
          · exact .inl (HLB.out.hSS q (by rw [HNK.out]; exact HQ.out) y h2).1
          · right; omega
      have HF2 : Hid (∀ y, S2 y → (S y ∨ w.heap.size ≤ y) ∧ y < wc.heap.size) := by
        have hsz1 := HB1.out.size
        intro y h
        refine ⟨?_, (hT4 y (.inr h)).2⟩
        rcases (hT4 y (.inr h)).1 with h2 | h2
        · exact .inl (HLB.out.hSS q (by rw [HNK.out]; exact HQ.out) y h2).1
        · right; omega
      have HAP : Hid (∀ y, S2 y → y ≠ b ∧ pv.ownBlock ≠ some y ∧ (Value.slice (some ⟨g, off, none⟩) nk ck).ownBlock ≠ some y) := by
        intro y h
        rcases (hT4 y (.inr h)).1 with h2 | h2
        · exact (HLB.out.hSS q (by rw [HNK.out]; exact HQ.out) y h2).2
        · refine ⟨fun e => ?_, fun e => ?_, fun e => ?_⟩
          · have := HLB.out.hB.lt; omega
          · have := HS1.out y (HLB.out.hPS y e).1; omega
          · have := HS1.out y (HLB.out.hKS y e).1; omega
      have HAK : Hid (∀ i, i < (ks.set q rr.1).length → ∀ y, (if i = q then S1 else SS i) y → ¬ S2 y) := by
        intro i hi y hy h
        rw [List.length_set] at hi
        by_cases e : i = q
        · rw [if_pos e] at hy; exact hT3 y hy h
        · rw [if_neg e] at hy
          rcases (hT4 y (.inr h)).1 with h2 | h2
          · exact HLB.out.hD i q hi (by rw [HNK.out]; exact HQ.out) e y hy h2
          · have := HS1.out y (HLB.out.hSS i hi y hy).1; omega
      have HT2 := hid hT2
      clear hT1 hT2 hT3 hT4 hT5 HLB HS1 HSK HLK HL1 HB1 IH HKG
      go_wp2_with fail
      refine (HBA.out _ HT2.out).mono ?_
      rintro e w9 ⟨rfl, n2, rfl⟩
      have HK2 := hid (HK.out.kept (below_dn wc n2))
      have HT3 := hid (HT2.out.kept (below_dn wc n2))
      have HON2 : Hid (Only S w (wc.drewN n2)) := HON.out.trans (only_of_below (below_dn wc n2) _)
      have HSL2 : Hid (∀ y, S y ∨ S1 y → (S y ∨ w.heap.size ≤ y) ∧ y < (wc.drewN n2).heap.size) := HSL.out
      have HF3 : Hid (∀ y, S2 y → (S y ∨ w.heap.size ≤ y) ∧ y < (wc.drewN n2).heap.size) := HF2.out
      generalize hX : wc.drewN n2 = X at *
      clear hX HK HT2 HON HSL HF2 HBA
      have x1 := HK2.out.hB.cell (j := 1) rfl
      cases hbr : rr.2.bare with
      | true =>
        have HKS : Hid (insK ks q rr = ks.set q rr.1) := by show _ = _; rw [insK, if_pos hbr]
        have HTG2 := hid (HTG.out (fun y => S y ∨ S1 y) (.mk ps (ks.set q rr.1)) X HK2.out.limb (fun x hx => (HSL2.out x hx).2) HPL.out (by have := HLEN.out rr; rw [HKS.out] at this; exact this))
        clear hbr
        go_wp2_with fail
        refine HTG2.out.mono ?_
        rintro e w2 ⟨rfl, h2⟩
        have H4 := hid h2
        clear h2
        go_wp2
        go_ret
        exact put_end HSL2.out HON2.out H4.out (by rw [HF.out, HKS.out])
      | false =>
        have HKS : Hid (insK ks q rr = (ks.set q rr.1).take (q + 1) ++ [rr.2] ++ (ks.set q rr.1).drop (q + 1)) := by show _ = _; rw [insK, if_neg (by rw [hbr]; simp)]
        have hsl : (ks.set q rr.1).length = nk := by rw [List.length_set, HNK.out]
        have HK3 := hid HK2.out.hK
        rw [hsl] at HK3
        have hbn := below_new (o := .cells #[ptr b2] 66) (w := X) (Below.refl _ _)
        have HBN := hid hbn
        have hne1 : (Value.slice (some ⟨g, off, none⟩) nk ck).ownBlock ≠ some b := fun e => (HK2.out.hKS b e).2.1 rfl
        have HNE := hid hne1
        have HIN := hid (insertL_any (.slice (some ⟨g, off, none⟩) nk ck) nk (q + 1) X.heap.size 0 (ptrs A nk) [ptr b2] (X.alloc (.cells #[ptr b2] 66)) (own_kept HK3.out (only_of_below hbn (fun _ => False)) (fun _ _ h => h)) (Nat.zero_le _) (by have := HQ.out; omega) (by have := HKL.out; omega) (Bk.new X 66 [ptr b2]) rfl (ptrs_one A nk) (by intro u hu; simp at hu; subst hu; rfl) (fun e => by have := (World.ownsRow.lt HK3.out _ e).2; omega))
        rw [show ((q + 1 : Nat) : Int) = (q : Int) + 1 by omega] at HIN
        have KB := hid (HK2.out.hB.below hbn)
        have HFIN : Hid (∀ (a3 : Option Addr) (c3 : Nat) (w3 : World), w3.ownsRow 0 66 1 (.slice a3 (nk + 1) c3) (nk + 1) ((ptrs A nk).take (q + 1) ++ [ptr b2] ++ (ptrs A nk).drop (q + 1)) → (X.alloc (.cells #[ptr b2] 66)).grownBy w3 (Value.slice (some ⟨g, off, none⟩) nk ck).ownBlock →
            ((Value.slice a3 (nk + 1) c3).ownBlock = (Value.slice (some ⟨g, off, none⟩) nk ck).ownBlock ∨ ∃ z, (Value.slice a3 (nk + 1) c3).ownBlock = some z ∧ (X.alloc (.cells #[ptr b2] 66)).heap.size ≤ z) → OneL X (w3.setCell ⟨b, 1, none⟩ (.slice a3 (nk + 1) c3)) b (.mk ps (insK ks q rr)) (fun y => (S y ∨ S1 y) ∨ S2 y)) := by
          intro a3 c3 w3 hO3 hg3 hw3
          have hbl := HK2.out.hB.lt
          have hne3 : (Value.slice a3 (nk + 1) c3).ownBlock ≠ some b := by
            rcases hw3 with e | ⟨z, e, hz⟩
            · rw [e]; exact hne1
            · rw [e]; intro h; cases h; simp at hz; omega
          rw [HKS.out]
          refine HK2.out.ins (fun x hx => (HSL2.out x hx).2) (by rw [hsl]; have := HQ.out; omega) HT3.out (fun x hx => ⟨(HAP.out x hx).1, (HAP.out x hx).2.1, (HAP.out x hx).2.2, (HF3.out x hx).2⟩) HAK.out ((bk_grown KB.out hg3 hne1).set 1 _) ?_ ?_ ?_
          · rw [hsl]; exact own_kept hO3 (only_set (R := fun y => y = b) rfl _) (fun z e h => hne3 (h ▸ e))
          · exact ((only_of_below hbn _).trans (only_of_grown hg3 (R := fun y => y = b ∨ (Value.slice (some ⟨g, off, none⟩) nk ck).ownBlock = some y) (fun z e => .inr e))).trans (only_set (R := fun y => y = b ∨ (Value.slice (some ⟨g, off, none⟩) nk ck).ownBlock = some y) (.inl rfl) _)
          · rcases hw3 with e | ⟨z, e, hz⟩
            · exact .inl e
            · exact .inr ⟨z, e, Nat.le_trans hbn.size hz⟩
        simp only [ptr] at HIN HFIN KB
        clear hbn hne1 hsl HK3 hbr
        have hq9 : (q : Int) ≤ 1000 := by have := HKL.out; omega
        go_wp2_with fail
        refine HIN.out.mono ?_
        rintro e w3 ⟨a3, c3, rfl, hO3, hg3, hw3⟩
        have e0 := (bk_grown KB.out hg3 HNE.out).cell (j := 1) rfl
        have e1 := (bk_grown KB.out hg3 HNE.out).free 1
        obtain ⟨S', k1, k2, k3⟩ := HFIN.out a3 c3 w3 hO3 hg3 hw3
        have HE1 := hid k1
        have HE2 : Hid (∀ y, S' y → (S y ∨ w.heap.size ≤ y) ∧ y < (w3.setCell ⟨b, 1, none⟩ (.slice a3 (nk + 1) c3)).heap.size) := by
          have hsz := HON2.out.size
          intro y hy
          refine ⟨?_, (k2 y hy).2⟩
          rcases (k2 y hy).1 with (h | h) | h
          · exact (HSL2.out y h).1
          · exact (HF3.out y h).1
          · right; omega
        have HE3 : Hid (Only S w (w3.setCell ⟨b, 1, none⟩ (.slice a3 (nk + 1) c3))) := by
          refine HON2.out.then k3 ?_
          rintro y hy (h | h)
          · rcases (HSL2.out y h).1 with h | h
            · exact h
            · omega
          · rcases (HF3.out y h).1 with h | h
            · exact h
            · omega
        have HTG2 := hid (HTG.out S' _ _ k1 (fun x hx => (k2 x hx).2) HPL.out (HLEN.out rr))
        have HZ : Hid ((w3.setCell ⟨b, 1, none⟩ (.slice a3 (nk + 1) c3)).heap.size = w3.heap.size) := by show _ = _; simp [World.setCell]
        rw [HZ.out] at HTG2
        clear k1 k2 k3 hO3 hg3 hw3 HFIN HIN
        go_wp2_with fail
        refine HTG2.out.mono ?_
        rintro e w2 ⟨rfl, h2⟩
        have H4 := hid h2
        clear h2
        go_wp2
        go_ret
        have H5 := put_end HE2.out HE3.out (by rw [HZ.out]; exact H4.out) HF.out
        rw [HZ.out] at H5
        exact H5
end Go.Proofs.Ytkflneeifllpgaa
/-
  nodes: a limb's nodes in the walk's order, behind others; all rows are apart.
-/
namespace Go.Proofs.Ytkflneeifllpgaa
open Go.RowKit
theorem NA.shape {w : World} {v : Value} {V : List V3} {ns : List NB} (h : NA w v V ns) : ∃ a n c, v = .slice a n c ∧ Hid (n = ns.length) := by
  obtain ⟨a, c, e⟩ := own_shape h.row
  exact ⟨a, _, c, e, rfl⟩
theorem wpList_append_node {w : World} {ops : Array Oper} {rest : List Oper} {o : Oper} {a : Act} {Q : Exit → Act → World → Prop} (hgd : o.guard = none) (s x : Operand)
    (ho : o.op = .call { callee := .builtin .append, args := #[s, x], argTypes := #[23, 23] }) (v : Value) (V : List V3) (ns : List NB) (hs : a.eval s = v) (hown : NA w v V ns) (pv : Value) (ps : List PB) (hP : w.ownsRow 0 35 2 pv ps.length (pcs ps)) (hd : ∀ y, pv.ownBlock = some y → v.ownBlock ≠ some y ∧ ∀ i, i < ns.length → ¬ bl (vAt V i) y)
    (g : Nat) (hx : a.eval x = .slice (some ⟨g, 0, none⟩) 1 1) (hB : Bk w g 106 [pv, .slice none 0 0, .slice none 0 0]) (hb : ns.length ≤ 1048576)
    (h : ∀ g' n' c' w', NA w' (.slice (some ⟨g', 0, none⟩) n' c') (V ++ [(pv, .slice none 0 0, .slice none 0 0)]) (ns ++ [⟨ps, [], []⟩]) → Hid (n' = ns.length + 1) → w.grownBy w' v.ownBlock → ((Value.slice (some ⟨g', 0, none⟩) n' c').ownBlock = v.ownBlock ∨ (Value.slice (some ⟨g', 0, none⟩) n' c').ownBlock = some w.heap.size) → wpList Try.prog ops Q rest (a.put o.dst (.slice (some ⟨g', 0, none⟩) n' c')) w') : wpList Try.prog ops Q (o :: rest) a w := by
  obtain ⟨i, hi, hz, hsz, hby⟩ := info_of infoNodeI
  obtain ⟨ap, cp, hpv⟩ := own_shape hP
  refine wpList_append_row_at hgd s x 23 ho 0 106 i _ 3 72 Try.underlying23 hi hz hsz hby rfl (by decide) v ns.length (ncs V) hs hown.row (fun _ => True) _ 1 [pv, .slice none 0 0, .slice none 0 0] hx (hB.rw (Nat.le_refl _) (by omega) (fun h => by omega) _ trivial) rfl
    (by intro u hu; simp at hu; rcases hu with rfl | rfl <;> first | (rw [hpv]; rfl) | rfl) (by unfold maxLen; omega) (by omega) (Nat.zero_le _) ?_
  intro v' w' k1 k2 k3
  rcases k1.2 with ⟨_, e⟩ | ⟨g', cap, cur, e, _⟩
  · omega
  · subst e
    refine h g' _ cap w' ?_ rfl k2 k3
    exact hown.push ⟨ps, [], []⟩ (pv, .slice none 0 0, .slice none 0 0) ⟨hP, World.ownsRow_nil _ _ _ _, World.ownsRow_nil _ _ _ _⟩ (fun y => ⟨fun _ => ⟨by simp [Value.ownBlock], by simp [Value.ownBlock]⟩, by simp [Value.ownBlock]⟩) (by rintro y (e | e | e) <;> first | exact hd y e | (simp [Value.ownBlock] at e)) k1 k2 k3
/-- The keys and kids of the node at n lie in new blocks. -/
def KF (w : World) (V : List V3) (n : Nat) : Prop := ∀ y, (vAt V n).2.1.ownBlock = some y ∨ (vAt V n).2.2.ownBlock = some y → w.heap.size ≤ y
def NodesPost (w : World) (v : Value) (V0 : List V3) (ns L : List NB) (S : Nat → Prop) (e : Ending) (w' : World) : Prop := ∃ v' V, e = .returned v' ∧ NI w w' v v' V0 V ns L S
theorem NA.rowAt {w : World} {a : Option Addr} {n c : Nat} {V : List V3} {ns : List NB} (h : NA w (.slice a n c) V ns) (hp : 0 < ns.length) : ∃ g, a = some ⟨g, 0, none⟩ ∧ Hid (n = ns.length) := by
  rcases h.row.2 with ⟨e, e2⟩ | ⟨g, cap, cur, e, _⟩
  · omega
  · cases e
    exact ⟨g, rfl, rfl⟩
theorem NA.cells {w : World} {g n c : Nat} {V : List V3} {ns : List NB} (h : NA w (.slice (some ⟨g, 0, none⟩) n c) V ns) (i : Nat) (hi : i < ns.length) : w.cell? ⟨g, i * 3, none⟩ = some (vAt V i).1 ∧ w.cell? ⟨g, i * 3 + 1, none⟩ = some (vAt V i).2.1 ∧ w.cell? ⟨g, i * 3 + 2, none⟩ = some (vAt V i).2.2 ∧ ∀ o, w.frozen? ⟨g, o, none⟩ = false := by
  have hc := World.ownsRow.cells h.row (g := g) rfl
  have hl := h.len
  obtain ⟨c0, c1, c2⟩ := ncs_at V i (by omega)
  have d0 := hc _ _ c0
  have d1 := hc _ _ c1
  have d2 := hc _ _ c2
  rw [Addr.add_lit, Nat.zero_add] at d0 d1 d2
  refine ⟨d0, d1, d2, fun o => ?_⟩
  rcases h.row.2 with ⟨e, _⟩ | ⟨g', cap, cur, e, _, k4, _⟩
  · cases e
  · cases e
    simp [World.frozen?, k4]
set_option maxHeartbeats 8000000 in
set_option maxRecDepth 20000 in
theorem nodes_any (t : T) : ∀ (S : Nat → Prop) (b : Nat) (w : World) (v : Value) (V0 : List V3) (ns : List NB) (r : Bool), Limb w S b t → t.full r = true → NA w v V0 ns → (∀ y, S y → y < w.heap.size ∧ v.ownBlock ≠ some y ∧ ∀ i, i < ns.length → ¬ bl (vAt V0 i) y) → ns.length + t.size ≤ 1048576 →
    Calls Try.prog 78 #[.pointer (some ⟨b, 0, none⟩), v] w fun e w' => NodesPost w v V0 ns (ns ++ lay ns.length t) S e w' := by
  induction t using T.ind
  rename_i ps ks ih
  intro S b w v V0 ns r hL hfu hN hS hsz
  obtain ⟨av, nv, cv, e3, HNV⟩ := hN.shape
  subst e3
  obtain ⟨pv, kv, A, SS, lb⟩ := hL.lb
  obtain ⟨ap, cp, e4⟩ := own_shape lb.hP
  obtain ⟨ak, ck, e5⟩ := own_shape lb.hK
  generalize hnk : ks.length = nk at e5
  generalize hnp : ps.length = np at e4
  have HNK := hid hnk
  have HNP := hid hnp
  subst e4 e5
  have HLB := hid lb
  have HIH := hid ih
  have HS := hid hS
  have HN := hid hN
  have HSZ := hid hsz
  have HFU := hid hfu
  have c0 := lb.hB.cell (j := 0) rfl
  have c1 := lb.hB.cell (j := 1) rfl
  have hnl : nv ≤ 1048576 := by have := HNV.out; have := HSZ.out; omega
  have HPW := hid (lb.hP)
  clear hL hfu hN hS hsz lb ih hnk hnp
  have HB0 := hid (below_new (o := .cells #[.slice ap np cp, .slice none 0 0, .slice none 0 0] 106) (w := w) (Below.refl _ _))
  have KZ := hid (Bk.new w 106 [.slice ap np cp, .slice none 0 0, .slice none 0 0])
  have HN0 := hid (HN.out.kept HB0.out)
  have HP0 := hid (own_kept HPW.out (only_of_below HB0.out (fun _ => False)) (fun _ _ h => h))
  have HD0 : Hid (∀ y, (Value.slice ap np cp).ownBlock = some y → (Value.slice av nv cv).ownBlock ≠ some y ∧ ∀ i, i < ns.length → ¬ bl (vAt V0 i) y) := fun y hy => (HS.out y (HLB.out.hPS y hy).1).2
  go_enter Try.func78, Try.ntmps78
  go_wp2_with (at_builtin; refine wpList_append_node rfl _ _ rfl _ V0 ns rfl HN0.out (.slice ap np cp) ps HP0.out HD0.out w.heap.size rfl KZ.out ?q1 ?_)
  case q1 => have := HSZ.out; omega
  intro g1 n1 c1' w1 hN1 HN1L hg1 ha1
  have hsz1 := hg1.size
  have HO1 : Hid (Only (fun y => (Value.slice av nv cv).ownBlock = some y) w w1) := (only_of_below HB0.out _).trans (only_of_grown hg1 (fun k e => e))
  have HI1 : Hid (NI w w1 (.slice av nv cv) (.slice (some ⟨g1, 0, none⟩) n1 c1') V0 (V0 ++ [(.slice ap np cp, .slice none 0 0, .slice none 0 0)]) ns (ns ++ ⟨ps, (ks.take 0).tail.map T.least, places (ns.length + 1) (ks.take 0)⟩ :: layL (ns.length + 1) (ks.take 0)) (fun y => (Value.slice ap np cp).ownBlock = some y ∨ ∃ i, i < 0 ∧ SS i y)) := by
    refine ⟨by simpa [layL, places] using hN1, fun i hi => vAt_append_left (by rw [HN.out.len]; exact hi), fun i h1 h2 y hy => ?_, HO1.out, fun y hy => ?_⟩
    · simp [layL] at h2
      obtain rfl : i = ns.length := by omega
      rw [← HN.out.len, vAt_append_at] at hy
      rcases hy with e | e | e
      · exact .inl (.inl e)
      · simp [Value.ownBlock] at e
      · simp [Value.ownBlock] at e
    · rcases ha1 with e | e
      · exact .inl (e ▸ hy)
      · rw [e] at hy; cases hy; right; simp
  have HKF1 : Hid (KF w (V0 ++ [(.slice ap np cp, .slice none 0 0, .slice none 0 0)]) ns.length) := by
    intro y hy
    rw [← HN.out.len, vAt_append_at] at hy
    simp [Value.ownBlock] at hy
  have d1 := (HLB.out.hB.to HO1.out (fun e => (HS.out b HLB.out.hb).2.1 e)).cell (j := 1) rfl
  clear hN1 hg1 ha1 HN0 HP0 KZ HB0 c0 c1 hsz1
  go_wp2_with fail
  go_loopw [1, 23] (fun x i wr => ∃ (k g' n' c' : Nat) (V : List V3), k ≤ nk ∧ i = .int .i64 k ∧ x = .slice (some ⟨g', 0, none⟩) n' c' ∧ Hid (NI w wr (.slice av nv cv) (.slice (some ⟨g', 0, none⟩) n' c') V0 V ns (ns ++ ⟨ps, (ks.take k).tail.map T.least, places (ns.length + 1) (ks.take k)⟩ :: layL (ns.length + 1) (ks.take k)) (fun y => (Value.slice ap np cp).ownBlock = some y ∨ ∃ i, i < k ∧ SS i y)) ∧ Hid (KF w V ns.length)) (fun _ i _ => nk - (intOf i).toNat)
  case atStart => exact ⟨0, g1, n1, c1', _, Nat.zero_le _, rfl, rfl, HI1.out, HKF1.out⟩
  case round =>
    obtain ⟨k, g', n', c', V, hkn, rfl, rfl, HL, HKF⟩ := hrel
    by_cases hlt : k < nk
    · have hlt' : (k : Int) < (nk : Int) := by omega
      have hks : k < ks.length := by rw [HNK.out]; exact hlt
      have HK4 : Hid (ks.length ≤ 4) := by
        obtain ⟨_, h, _, _⟩ := full_br HFU.out (by rintro rfl; simp at hks)
        exact h
      have HBR : Hid (∀ {i : Nat}, i < ks.length → (tAt ks i).full false = true) := by
        obtain ⟨_, _, _, h⟩ := full_br HFU.out (by rintro rfl; simp at hks)
        exact fun hi => h _ (tAt_mem hi)
      have HSZK : Hid (ns.length + 1 + szL ks ≤ 1048576) := by have := HSZ.out; simp only [T.size] at this; show _ ≤ _; omega
      have HLN : Hid (n' = ns.length + 1 + szL (ks.take k)) := by
        show _ = _
        obtain ⟨_, _, _, e, h⟩ := HL.out.na.shape
        cases e
        rw [h.out]; simp [layL_length]; omega
      obtain ⟨gk, ofk, hak, hgS, hgl, hcell⟩ := (rw_own HLB.out.hK (S := S) (fun y e _ _ => (HLB.out.hKS y e).1)).at (by omega)
      subst hak
      have hck := (rw_own HLB.out.hK (S := S) (fun y e _ _ => (HLB.out.hKS y e).1)).to HL.out.only (fun y hy _ e => (HS.out y hy).2.1 e)
      obtain ⟨gk2, ofk2, hak2, _, _, hcell2⟩ := hck.at (by omega)
      cases hak2
      have cq := hcell2 k _ (ptrs_at A _ k hks)
      simp only [ptr] at cq
      clear hck hcell hcell2 hgS hgl
      have hk0 : (0 : Int) ≤ (k : Int) := by omega
      cases k with
      | zero =>
        have HLX : Hid (NI w wr (.slice av nv cv) (.slice (some ⟨g', 0, none⟩) n' c') V0 V ns (ns ++ ⟨ps, (ks.take (0 + 1)).tail.map T.least, places (ns.length + 1) (ks.take 0)⟩ :: layL (ns.length + 1) (ks.take 0)) (fun y => (Value.slice ap np cp).ownBlock = some y ∨ ∃ i, i < 0 ∧ SS i y)) := by
          have e : (ks.take (0 + 1)).tail.map T.least = (ks.take 0).tail.map T.least := by cases ks <;> simp
          show NI _ _ _ _ _ _ _ _ _
          rw [e]
          exact HL.out
        have HKX := HKF
        simp only [Nat.add_zero] at cq
        clear HL HKF
        generalize hVX : V = VX at *
        clear hVX

        have HL2X := HLX
        obtain ⟨-, -, m2, mf⟩ := HLX.out.na.cells ns.length (by simp)
        have hrow := (HLX.out.na.own ns.length (by simp)).1.2.2
        rw [nAt_append_at] at hrow
        simp only at hrow
        obtain ⟨aki, cki, hki⟩ := own_shape hrow
        have HNKI : Hid ((places (ns.length + 1) (ks.take 0)).length = 0) := by show _ = _; rw [places_length, List.length_take]; omega
        rw [HNKI.out] at hki hrow
        have HBLK := hid hki
        rw [hki] at m2 hrow
        rw [← HNV.out] at m2
        have mf2 := mf (nv * 3 + 2)
        have HLu := hid (HLX.out.keep (below_new (o := .cells #[.int .i64 (n' : Int)] 3) (Below.refl _ _)))
        have HRI : Hid (World.ownsRow (wr.alloc (.cells #[.int .i64 (n' : Int)] 3)) 0 3 1 (.slice aki (0) cki) (0) ((places (ns.length + 1) (ks.take 0)).map (Value.int .i64))) := own_kept hrow (only_of_below (below_new (Below.refl _ _)) (fun _ => False)) (fun _ _ h => h)
        have hnv : (nv : Int) < (n' : Int) := by have h1 := HLN.out; have h2 := HNV.out; omega
        have hnv0 : (0 : Int) ≤ (nv : Int) := by omega
        have m2a : (wr.alloc (.cells #[.int .i64 (n' : Int)] 3)).cell? ⟨g', nv * 3 + 2, none⟩ = some (.slice aki (0) cki) := by
          have := (HLu.out.na.cells ns.length (by simp)).2.2.1
          rw [HBLK.out, ← HNV.out] at this
          exact this
        have hkk : 0 ≤ 1048576 := by have := HK4.out; omega
        clear hrow mf hki
        go_wp2_with (at_builtin; refine wpList_append_int1 rfl _ _ rfl _ (0) _ rfl HRI.out wr.heap.size (n' : Int) rfl (Bk.new wr 3 [.int .i64 (n' : Int)]) hkk ?_)
        intro ai2 ni2 ci2 w2 hO2 hg2 ha2
        have HL2 : Hid (NI w (w2.setCell ⟨g', nv * 3 + 2, none⟩ (.slice ai2 ni2 ci2)) (.slice av nv cv) (.slice (some ⟨g', 0, none⟩) n' c') V0 (VX.set ns.length ((vAt VX ns.length).1, (vAt VX ns.length).2.1, .slice ai2 ni2 ci2)) ns (ns ++ ⟨ps, (ks.take (0 + 1)).tail.map T.least, places (ns.length + 1) (ks.take (0 + 1))⟩ :: layL (ns.length + 1) (ks.take 0)) (fun y => (Value.slice ap np cp).ownBlock = some y ∨ ∃ i, i < 0 ∧ SS i y)) := by
          have h2 : places (ns.length + 1) (ks.take (0 + 1)) = places (ns.length + 1) (ks.take 0) ++ [(n' : Int)] := by rw [places_take ks _ _ hks, HLN.out]
          have h1 := HLu.out.addKid (s := (n' : Int)) (kx' := .slice ai2 ni2 ci2) (by simp only; rw [HNKI.out]; exact hO2) (by rw [HBLK.out]; exact hg2) (by rw [HBLK.out]; exact ha2.imp id (fun e => ⟨_, e, by simp⟩)) (fun y hy => HKX.out y (.inr hy))
          show NI _ _ _ _ _ _ _ _ _
          have e3 : (⟨g', ns.length * 3 + 2, none⟩ : Addr) = ⟨g', nv * 3 + 2, none⟩ := by rw [HNV.out]
          rw [e3] at h1
          rw [h2]
          exact h1
        have HK2 : Hid (KF w (VX.set ns.length ((vAt VX ns.length).1, (vAt VX ns.length).2.1, .slice ai2 ni2 ci2)) ns.length) := by
          intro y hy
          rw [vAt_set _ _ _ (by rw [HLX.out.na.len]; simp)] at hy
          rcases hy with hy | hy
          · exact HKX.out y (.inl hy)
          · rcases ha2 with e | e
            · exact HKX.out y (.inr (by rw [HBLK.out, ← e]; exact hy))
            · rw [e] at hy; cases hy
              have := HLX.out.only.size
              simp; omega
        have hz2 := World.cell?_of_block (w := wr.alloc (.cells #[.int .i64 (n' : Int)] 3)) (w' := w2) (a := ⟨g', nv * 3 + 2, none⟩) (hg2.block g' (block_lt m2a) (fun e => HLu.out.na.off ns.length (by simp) g' (.inr (.inr (by rw [HBLK.out]; exact e.symm))) rfl))
        have z2 := hz2.trans m2a
        have zf : w2.frozen? ⟨g', nv * 3 + 2, none⟩ = false := (World.frozen?_of_block (w := wr.alloc (.cells #[.int .i64 (n' : Int)] 3)) (w' := w2) (a := ⟨g', nv * 3 + 2, none⟩) (hg2.block g' (block_lt m2a) (fun e => HLu.out.na.off ns.length (by simp) g' (.inr (.inr (by rw [HBLK.out]; exact e.symm))) rfl))).trans ((HLu.out.na.cells ns.length (by simp)).2.2.2 _)
        clear hO2 hg2 ha2 HRI HLu hz2 m2a m2 mf2 HL2X
        have HLEN : Hid ((ns ++ ⟨ps, (ks.take (0 + 1)).tail.map T.least, places (ns.length + 1) (ks.take (0 + 1))⟩ :: layL (ns.length + 1) (ks.take 0)).length = ns.length + 1 + szL (ks.take 0)) := by show _ = _; simp [layL_length]; omega
        have HEQ : Hid ((ns ++ ⟨ps, (ks.take (0 + 1)).tail.map T.least, places (ns.length + 1) (ks.take (0 + 1))⟩ :: layL (ns.length + 1) (ks.take 0)) ++ lay (ns ++ ⟨ps, (ks.take (0 + 1)).tail.map T.least, places (ns.length + 1) (ks.take (0 + 1))⟩ :: layL (ns.length + 1) (ks.take 0)).length (tAt ks (0)) = ns ++ ⟨ps, (ks.take (0 + 1)).tail.map T.least, places (ns.length + 1) (ks.take (0 + 1))⟩ :: layL (ns.length + 1) (ks.take (0 + 1))) := by
          show _ = _
          rw [HLEN.out, layL_take ks (0) (ns.length + 1) hks]
          simp
        have HBND : Hid ((ns ++ ⟨ps, (ks.take (0 + 1)).tail.map T.least, places (ns.length + 1) (ks.take (0 + 1))⟩ :: layL (ns.length + 1) (ks.take 0)).length + (tAt ks (0)).size ≤ 1048576) := by
          show _ ≤ _
          have h1 := szL_take_le ks (0 + 1)
          rw [szL_take ks (0) hks] at h1
          have h2 := HSZK.out
          rw [HLEN.out]
          omega
        have HKID : Hid (Limb (w2.setCell ⟨g', nv * 3 + 2, none⟩ (.slice ai2 ni2 ci2)) (SS (0)) (A (0)) (tAt ks (0))) := (HLB.out.hk (0) hks).to HL2.out.only (fun x hx e => (HS.out x (HLB.out.hSS (0) hks x hx).1).2.1 e)
        have HCOND : Hid (∀ y, SS (0) y → y < (w2.setCell ⟨g', nv * 3 + 2, none⟩ (.slice ai2 ni2 ci2)).heap.size ∧ (Value.slice (some ⟨g', 0, none⟩) n' c').ownBlock ≠ some y ∧ ∀ i, i < (ns ++ ⟨ps, (ks.take (0 + 1)).tail.map T.least, places (ns.length + 1) (ks.take (0 + 1))⟩ :: layL (ns.length + 1) (ks.take 0)).length → ¬ bl (vAt (VX.set ns.length ((vAt VX ns.length).1, (vAt VX ns.length).2.1, .slice ai2 ni2 ci2)) i) y) := by
          intro y hy
          have hs := HLB.out.hSS (0) hks y hy
          have hS1 := HS.out y hs.1
          have hsz := HL2.out.only.size
          refine ⟨by omega, fun e => ?_, fun i hi hb => ?_⟩
          · rcases HL2.out.vb y e with h | h
            · exact hS1.2.1 h
            · omega
          · by_cases hin : i < ns.length
            · rw [HL2.out.old i hin] at hb
              exact hS1.2.2 i hin hb
            · rcases HL2.out.new i (by omega) hi y hb with (h | ⟨z, hz, h⟩) | h
              · exact hs.2.2.1 h
              · exact HLB.out.hD z (0) (by omega) hks (by omega) y h hy
              · omega
        go_wp2_with fail
        refine (HIH.out (tAt ks (0)) (tAt_mem hks) (SS (0)) (A (0)) _ (.slice (some ⟨g', 0, none⟩) n' c') _ _ false HKID.out (HBR.out hks) HL2.out.na HCOND.out HBND.out).mono ?_
        rintro e w9 ⟨v9, V9, rfl, hI9⟩
        rw [HEQ.out] at hI9
        have HL9 : Hid (NI w w9 (.slice av nv cv) v9 V0 V9 ns (ns ++ ⟨ps, (ks.take (0 + 1)).tail.map T.least, places (ns.length + 1) (ks.take (0 + 1))⟩ :: layL (ns.length + 1) (ks.take (0 + 1))) (fun y => (Value.slice ap np cp).ownBlock = some y ∨ ∃ i, i < 0 + 1 ∧ SS i y)) := by
          refine (HL2.out.then (by simp) hI9).mono ?_
          rintro y ((h | ⟨i, hi, h⟩) | h)
          · exact .inl h
          · exact .inr ⟨i, by omega, h⟩
          · exact .inr ⟨0, by omega, h⟩
        have HK9 : Hid (KF w V9 ns.length) := by
          intro y hy
          rw [hI9.old ns.length (by simp)] at hy
          exact HK2.out y hy
        obtain ⟨a9, n9, c9, e9, -⟩ := HL9.out.na.shape
        subst e9
        obtain ⟨g9, e9, -⟩ := HL9.out.na.rowAt (by rw [List.length_append, List.length_cons]; omega)
        subst e9
        clear hI9 HL2 HK2 HCOND HKID z2 zf
        go_wp2
        go_roundw
        case rel => exact ⟨0 + 1, g9, n9, c9, V9, by omega, by go_num, rfl, HL9.out, HK9.out⟩
        case measure => simp [intOf]; omega

      | succ k' =>
        have hk1 : (0 : Int) < (k' : Int) + 1 := by omega
        have hk2 : (k' : Int) + 1 < (nk : Int) := by omega
        obtain ⟨-, m1, -, mf⟩ := HL.out.na.cells ns.length (by simp)
        have hrow := (HL.out.na.own ns.length (by simp)).1.2.1
        rw [nAt_append_at] at hrow
        simp only at hrow
        obtain ⟨akx, ckx, hkx⟩ := own_shape hrow
        have HNKX : Hid (((ks.take (k' + 1)).tail.map T.least).length = k') := by show _ = _; simp; omega
        rw [HNKX.out] at hkx hrow
        have HBKX := hid hkx
        rw [hkx] at m1 hrow
        rw [← HNV.out] at m1
        have mf1 := mf (nv * 3 + 1)
        have hnv : (nv : Int) < (n' : Int) := by have h1 := HLN.out; have h2 := HNV.out; omega
        have hnv0 : (0 : Int) ≤ (nv : Int) := by omega
        have hkk : k' ≤ 1048576 := by have := HK4.out; omega
        have HNE := hid (full_ne _ _ (HBR.out hks))
        have HLS : Hid (∀ (u : World), Below wr.heap.size wr u → Calls Try.prog 121 #[.pointer (some ⟨A (k' + 1), 0, none⟩)] u fun e w' => e = .returned (.string (tAt ks (k' + 1)).least) ∧ ∃ q, w' = u.drewN q) :=
          fun u hu => least_any (SS (k' + 1)) (A (k' + 1)) (tAt ks (k' + 1)) u (((HLB.out.hk (k' + 1) hks).to HL.out.only (fun x hx e => (HS.out x (HLB.out.hSS (k' + 1) hks x hx).1).2.1 e)).kept hu) HNE.out
        have HKEY : Hid ((ks.take (k' + 1 + 1)).tail.map T.least = (ks.take (k' + 1)).tail.map T.least ++ [(tAt ks (k' + 1)).least]) := keys_take ks k' hks
        generalize hz : (tAt ks (k' + 1)).least = z at *
        clear hz
        have HBW : Hid (∀ q1, Below wr.heap.size wr ((wr.drewN q1).alloc (.cells #[.string z] 9))) := fun q1 => Below.then' (below_dn wr q1) (below_new (Below.refl _ _)) (Nat.le_refl _)
        have HM : Hid (∀ q1, ((wr.drewN q1).alloc (.cells #[.string z] 9)).cell? ⟨g', nv * 3 + 1, none⟩ = some (.slice akx k' ckx) ∧ ((wr.drewN q1).alloc (.cells #[.string z] 9)).frozen? ⟨g', nv * 3 + 1, none⟩ = false ∧ ((wr.drewN q1).alloc (.cells #[.string z] 9)).ownsRow 0 9 1 (.slice akx k' ckx) k' (((ks.take (k' + 1)).tail.map T.least).map Value.string)) := by
          intro q1
          obtain ⟨-, h1, -, h2⟩ := (HL.out.na.kept (HBW.out q1)).cells ns.length (by simp)
          rw [HBKX.out, ← HNV.out] at h1
          exact ⟨h1, h2 _, own_kept hrow (only_of_below (HBW.out q1) (fun _ => False)) (fun _ _ h => h)⟩
        have HZC : Hid (∀ q1, ((wr.drewN q1).alloc (.cells #[.string z] 9)).cell? ⟨wr.heap.size, 0, none⟩ = some (.string z)) := fun q1 => (Bk.new (wr.drewN q1) 9 [.string z]).cell (j := 0) rfl
        have HNB : Hid ((Value.slice akx k' ckx).ownBlock ≠ some g') := fun e => HL.out.na.off ns.length (by simp) g' (.inr (.inl (by rw [HBKX.out]; exact e))) rfl
        have HFIN : Hid (∀ q1 (a5 : Option Addr) (n5 c5 : Nat) (w5 : World), w5.ownsRow 0 9 1 (.slice a5 n5 c5) (k' + 1) (((ks.take (k' + 1)).tail.map T.least).map Value.string ++ [.string z]) → ((wr.drewN q1).alloc (.cells #[.string z] 9)).grownBy w5 (Value.slice akx k' ckx).ownBlock →
            ((Value.slice a5 n5 c5).ownBlock = (Value.slice akx k' ckx).ownBlock ∨ (Value.slice a5 n5 c5).ownBlock = some ((wr.drewN q1).alloc (.cells #[.string z] 9)).heap.size) →
            ∃ VX, NI w (w5.setCell ⟨g', nv * 3 + 1, none⟩ (.slice a5 n5 c5)) (.slice av nv cv) (.slice (some ⟨g', 0, none⟩) n' c') V0 VX ns (ns ++ ⟨ps, (ks.take (k' + 1 + 1)).tail.map T.least, places (ns.length + 1) (ks.take (k' + 1))⟩ :: layL (ns.length + 1) (ks.take (k' + 1))) (fun y => (Value.slice ap np cp).ownBlock = some y ∨ ∃ i, i < k' + 1 ∧ SS i y) ∧ KF w VX ns.length) := by
          intro q1 a5 n5 c5 w5 hO5 hg5 ha5
          have h1 := (HL.out.keep (HBW.out q1)).addKey (s := z) (kx' := .slice a5 n5 c5) (by simp only; rw [HNKX.out]; exact hO5) (by rw [HBKX.out]; exact hg5) (by rw [HBKX.out]; exact ha5.imp id (fun e => ⟨_, e, Nat.le_refl _⟩)) (fun y hy => HKF.out y (.inl hy))
          have e3 : (⟨g', ns.length * 3 + 1, none⟩ : Addr) = ⟨g', nv * 3 + 1, none⟩ := by rw [HNV.out]
          rw [e3] at h1
          refine ⟨_, by rw [HKEY.out]; exact h1, ?_⟩
          intro y hy
          rw [vAt_set _ _ _ (by rw [HL.out.na.len]; simp)] at hy
          rcases hy with hy | hy
          · rcases ha5 with e | e
            · exact HKF.out y (.inl (by rw [HBKX.out, ← e]; exact hy))
            · rw [e] at hy; cases hy
              have h3 := HL.out.only.size
              have h4 := (HBW.out q1).size
              omega
          · exact HKF.out y (.inr hy)
        have cq0 := cq
        clear hrow hkx mf HNKX HKF HNE
        go_wp2_with fail
        go_cut [1] (fun x v2 => x = .slice (some ⟨g', 0, none⟩) n' c' ∧ Hid (∃ VX, NI w v2 (.slice av nv cv) (.slice (some ⟨g', 0, none⟩) n' c') V0 VX ns (ns ++ ⟨ps, (ks.take (k' + 1 + 1)).tail.map T.least, places (ns.length + 1) (ks.take (k' + 1))⟩ :: layL (ns.length + 1) (ks.take (k' + 1))) (fun y => (Value.slice ap np cp).ownBlock = some y ∨ ∃ i, i < k' + 1 ∧ SS i y) ∧ KF w VX ns.length))
        case first =>
          go_region_law (first
            | (go_simp; go_at_call 121; refine (HLS.out _ (below_drew _)).mono ?_; rintro e w4 ⟨rfl, q1, rfl⟩; have f1 := (HM.out (1 + q1)).1)
            | (refine step_append_str1 rfl _ _ rfl _ k' _ rfl (HM.out _).2.2 wr.heap.size z rfl (HZC.out _) hkk g' (nv * 3 + 1) _ (HM.out _).1 (HM.out _).2.1 HNB.out ?_; intro a5 n5 c5 w5 hO5 hg5 ha5 hc5 hf5))
          all_goals (go_wp2_with fail; go_meet)
          all_goals exact ⟨rfl, HFIN.out _ _ _ _ _ hO5 hg5 ha5⟩
        case rest =>
          obtain ⟨rfl, HV⟩ := hcut
          obtain ⟨VX, hlx, hkx⟩ := HV.out
          have HLX := hid hlx
          have HKX := hid hkx
          clear HV hlx hkx HL HM HZC HNB HFIN HLS HBW HKEY m1 mf1 cq cq0 HBKX

          have HL2X := HLX
          obtain ⟨-, -, m2, mf⟩ := HLX.out.na.cells ns.length (by simp)
          have hrow := (HLX.out.na.own ns.length (by simp)).1.2.2
          rw [nAt_append_at] at hrow
          simp only at hrow
          obtain ⟨aki, cki, hki⟩ := own_shape hrow
          have HNKI : Hid ((places (ns.length + 1) (ks.take (k' + 1))).length = (k' + 1)) := by show _ = _; rw [places_length, List.length_take]; omega
          rw [HNKI.out] at hki hrow
          have HBLK := hid hki
          rw [hki] at m2 hrow
          rw [← HNV.out] at m2
          have mf2 := mf (nv * 3 + 2)
          have HLu := hid (HLX.out.keep (below_new (o := .cells #[.int .i64 (n' : Int)] 3) (Below.refl _ _)))
          have HRI : Hid (World.ownsRow (wc.alloc (.cells #[.int .i64 (n' : Int)] 3)) 0 3 1 (.slice aki ((k' + 1)) cki) ((k' + 1)) ((places (ns.length + 1) (ks.take (k' + 1))).map (Value.int .i64))) := own_kept hrow (only_of_below (below_new (Below.refl _ _)) (fun _ => False)) (fun _ _ h => h)
          have hnv : (nv : Int) < (n' : Int) := by have h1 := HLN.out; have h2 := HNV.out; omega
          have hnv0 : (0 : Int) ≤ (nv : Int) := by omega
          have m2a : (wc.alloc (.cells #[.int .i64 (n' : Int)] 3)).cell? ⟨g', nv * 3 + 2, none⟩ = some (.slice aki ((k' + 1)) cki) := by
            have := (HLu.out.na.cells ns.length (by simp)).2.2.1
            rw [HBLK.out, ← HNV.out] at this
            exact this
          have hkk : (k' + 1) ≤ 1048576 := by have := HK4.out; omega
          clear hrow mf hki
          go_wp2_with (at_builtin; refine wpList_append_int1 rfl _ _ rfl _ ((k' + 1)) _ rfl HRI.out wc.heap.size (n' : Int) rfl (Bk.new wc 3 [.int .i64 (n' : Int)]) hkk ?_)
          intro ai2 ni2 ci2 w2 hO2 hg2 ha2
          have HL2 : Hid (NI w (w2.setCell ⟨g', nv * 3 + 2, none⟩ (.slice ai2 ni2 ci2)) (.slice av nv cv) (.slice (some ⟨g', 0, none⟩) n' c') V0 (VX.set ns.length ((vAt VX ns.length).1, (vAt VX ns.length).2.1, .slice ai2 ni2 ci2)) ns (ns ++ ⟨ps, (ks.take ((k' + 1) + 1)).tail.map T.least, places (ns.length + 1) (ks.take ((k' + 1) + 1))⟩ :: layL (ns.length + 1) (ks.take (k' + 1))) (fun y => (Value.slice ap np cp).ownBlock = some y ∨ ∃ i, i < (k' + 1) ∧ SS i y)) := by
            have h2 : places (ns.length + 1) (ks.take ((k' + 1) + 1)) = places (ns.length + 1) (ks.take (k' + 1)) ++ [(n' : Int)] := by rw [places_take ks _ _ hks, HLN.out]
            have h1 := HLu.out.addKid (s := (n' : Int)) (kx' := .slice ai2 ni2 ci2) (by simp only; rw [HNKI.out]; exact hO2) (by rw [HBLK.out]; exact hg2) (by rw [HBLK.out]; exact ha2.imp id (fun e => ⟨_, e, by simp⟩)) (fun y hy => HKX.out y (.inr hy))
            show NI _ _ _ _ _ _ _ _ _
            have e3 : (⟨g', ns.length * 3 + 2, none⟩ : Addr) = ⟨g', nv * 3 + 2, none⟩ := by rw [HNV.out]
            rw [e3] at h1
            rw [h2]
            exact h1
          have HK2 : Hid (KF w (VX.set ns.length ((vAt VX ns.length).1, (vAt VX ns.length).2.1, .slice ai2 ni2 ci2)) ns.length) := by
            intro y hy
            rw [vAt_set _ _ _ (by rw [HLX.out.na.len]; simp)] at hy
            rcases hy with hy | hy
            · exact HKX.out y (.inl hy)
            · rcases ha2 with e | e
              · exact HKX.out y (.inr (by rw [HBLK.out, ← e]; exact hy))
              · rw [e] at hy; cases hy
                have := HLX.out.only.size
                simp; omega
          have hz2 := World.cell?_of_block (w := wc.alloc (.cells #[.int .i64 (n' : Int)] 3)) (w' := w2) (a := ⟨g', nv * 3 + 2, none⟩) (hg2.block g' (block_lt m2a) (fun e => HLu.out.na.off ns.length (by simp) g' (.inr (.inr (by rw [HBLK.out]; exact e.symm))) rfl))
          have z2 := hz2.trans m2a
          have zf : w2.frozen? ⟨g', nv * 3 + 2, none⟩ = false := (World.frozen?_of_block (w := wc.alloc (.cells #[.int .i64 (n' : Int)] 3)) (w' := w2) (a := ⟨g', nv * 3 + 2, none⟩) (hg2.block g' (block_lt m2a) (fun e => HLu.out.na.off ns.length (by simp) g' (.inr (.inr (by rw [HBLK.out]; exact e.symm))) rfl))).trans ((HLu.out.na.cells ns.length (by simp)).2.2.2 _)
          clear hO2 hg2 ha2 HRI HLu hz2 m2a m2 mf2 HL2X
          have HLEN : Hid ((ns ++ ⟨ps, (ks.take ((k' + 1) + 1)).tail.map T.least, places (ns.length + 1) (ks.take ((k' + 1) + 1))⟩ :: layL (ns.length + 1) (ks.take (k' + 1))).length = ns.length + 1 + szL (ks.take (k' + 1))) := by show _ = _; simp [layL_length]; omega
          have HEQ : Hid ((ns ++ ⟨ps, (ks.take ((k' + 1) + 1)).tail.map T.least, places (ns.length + 1) (ks.take ((k' + 1) + 1))⟩ :: layL (ns.length + 1) (ks.take (k' + 1))) ++ lay (ns ++ ⟨ps, (ks.take ((k' + 1) + 1)).tail.map T.least, places (ns.length + 1) (ks.take ((k' + 1) + 1))⟩ :: layL (ns.length + 1) (ks.take (k' + 1))).length (tAt ks ((k' + 1))) = ns ++ ⟨ps, (ks.take ((k' + 1) + 1)).tail.map T.least, places (ns.length + 1) (ks.take ((k' + 1) + 1))⟩ :: layL (ns.length + 1) (ks.take ((k' + 1) + 1))) := by
            show _ = _
            rw [HLEN.out, layL_take ks ((k' + 1)) (ns.length + 1) hks]
            simp
          have HBND : Hid ((ns ++ ⟨ps, (ks.take ((k' + 1) + 1)).tail.map T.least, places (ns.length + 1) (ks.take ((k' + 1) + 1))⟩ :: layL (ns.length + 1) (ks.take (k' + 1))).length + (tAt ks ((k' + 1))).size ≤ 1048576) := by
            show _ ≤ _
            have h1 := szL_take_le ks ((k' + 1) + 1)
            rw [szL_take ks ((k' + 1)) hks] at h1
            have h2 := HSZK.out
            rw [HLEN.out]
            omega
          have HKID : Hid (Limb (w2.setCell ⟨g', nv * 3 + 2, none⟩ (.slice ai2 ni2 ci2)) (SS ((k' + 1))) (A ((k' + 1))) (tAt ks ((k' + 1)))) := (HLB.out.hk ((k' + 1)) hks).to HL2.out.only (fun x hx e => (HS.out x (HLB.out.hSS ((k' + 1)) hks x hx).1).2.1 e)
          have HCOND : Hid (∀ y, SS ((k' + 1)) y → y < (w2.setCell ⟨g', nv * 3 + 2, none⟩ (.slice ai2 ni2 ci2)).heap.size ∧ (Value.slice (some ⟨g', 0, none⟩) n' c').ownBlock ≠ some y ∧ ∀ i, i < (ns ++ ⟨ps, (ks.take ((k' + 1) + 1)).tail.map T.least, places (ns.length + 1) (ks.take ((k' + 1) + 1))⟩ :: layL (ns.length + 1) (ks.take (k' + 1))).length → ¬ bl (vAt (VX.set ns.length ((vAt VX ns.length).1, (vAt VX ns.length).2.1, .slice ai2 ni2 ci2)) i) y) := by
            intro y hy
            have hs := HLB.out.hSS ((k' + 1)) hks y hy
            have hS1 := HS.out y hs.1
            have hsz := HL2.out.only.size
            refine ⟨by omega, fun e => ?_, fun i hi hb => ?_⟩
            · rcases HL2.out.vb y e with h | h
              · exact hS1.2.1 h
              · omega
            · by_cases hin : i < ns.length
              · rw [HL2.out.old i hin] at hb
                exact hS1.2.2 i hin hb
              · rcases HL2.out.new i (by omega) hi y hb with (h | ⟨z, hz, h⟩) | h
                · exact hs.2.2.1 h
                · exact HLB.out.hD z ((k' + 1)) (by omega) hks (by omega) y h hy
                · omega
          go_wp2_with fail
          refine (HIH.out (tAt ks ((k' + 1))) (tAt_mem hks) (SS ((k' + 1))) (A ((k' + 1))) _ (.slice (some ⟨g', 0, none⟩) n' c') _ _ false HKID.out (HBR.out hks) HL2.out.na HCOND.out HBND.out).mono ?_
          rintro e w9 ⟨v9, V9, rfl, hI9⟩
          rw [HEQ.out] at hI9
          have HL9 : Hid (NI w w9 (.slice av nv cv) v9 V0 V9 ns (ns ++ ⟨ps, (ks.take ((k' + 1) + 1)).tail.map T.least, places (ns.length + 1) (ks.take ((k' + 1) + 1))⟩ :: layL (ns.length + 1) (ks.take ((k' + 1) + 1))) (fun y => (Value.slice ap np cp).ownBlock = some y ∨ ∃ i, i < (k' + 1) + 1 ∧ SS i y)) := by
            refine (HL2.out.then (by simp) hI9).mono ?_
            rintro y ((h | ⟨i, hi, h⟩) | h)
            · exact .inl h
            · exact .inr ⟨i, by omega, h⟩
            · exact .inr ⟨(k' + 1), by omega, h⟩
          have HK9 : Hid (KF w V9 ns.length) := by
            intro y hy
            rw [hI9.old ns.length (by simp)] at hy
            exact HK2.out y hy
          obtain ⟨a9, n9, c9, e9, -⟩ := HL9.out.na.shape
          subst e9
          obtain ⟨g9, e9, -⟩ := HL9.out.na.rowAt (by rw [List.length_append, List.length_cons]; omega)
          subst e9
          clear hI9 HL2 HK2 HCOND HKID z2 zf
          go_wp2
          go_roundw
          case rel => exact ⟨(k' + 1) + 1, g9, n9, c9, V9, by omega, by go_num, rfl, HL9.out, HK9.out⟩
          case measure => simp [intOf]; omega

    · have hk' : k = nk := by omega
      have HTK : Hid (ks.take k = ks) := by show _ = _; rw [hk', ← HNK.out, List.take_length]
      rw [HTK.out] at HL
      have hnlt : ¬ (k : Int) < (nk : Int) := by omega
      have HLY : Hid (ns ++ lay ns.length (T.mk ps ks) = ns ++ ⟨ps, ks.tail.map T.least, places (ns.length + 1) ks⟩ :: layL (ns.length + 1) ks) := by
        show _ = _
        by_cases hk : ks = []
        · subst hk; simp [lay, layL, places]
        · obtain ⟨_, _, hp, _⟩ := full_br HFU.out hk; simp [lay, hk, hp]
      have HFIN : Hid (NI w wr (.slice av nv cv) (.slice (some ⟨g', 0, none⟩) n' c') V0 V ns (ns ++ lay ns.length (T.mk ps ks)) S) := by
        show NI _ _ _ _ _ _ _ _ _
        rw [HLY.out]
        refine HL.out.mono ?_
        rintro y (h | ⟨i, hi, h⟩)
        · exact (HLB.out.hPS y h).1
        · exact (HLB.out.hSS i (by rw [HNK.out]; omega) y h).1
      clear HL HTK hk' HLY
      go_wp2
      go_ret
      exact ⟨_, V, rfl, HFIN.out⟩
end Go.Proofs.Ytkflneeifllpgaa
/-
  rootPut: the root behind the put.
-/
namespace Go.Proofs.Ytkflneeifllpgaa
open Go.RowKit
def OnePost (w : World) (S : Nat → Prop) (t : T) (e : Ending) (w' : World) : Prop := ∃ b, e = .returned (.pointer (some ⟨b, 0, none⟩)) ∧ OneL w w' b t S
theorem root_new {w X : World} {S S1 S2 : Nat → Prop} {b b2 : Nat} {t1 t2 : T} (h1 : Limb X S1 b t1) (h2 : Limb X S2 b2 t2) (hd : ∀ x, S1 x → ¬ S2 x) (hS : ∀ x, S1 x ∨ S2 x → (S x ∨ w.heap.size ≤ x) ∧ x < X.heap.size) (hon : Only S w X) :
    OneL w ((X.alloc (.cells #[.pointer (some ⟨b, 0, none⟩), .pointer (some ⟨b2, 0, none⟩)] 66)).alloc (.cells #[.slice none 0 0, .slice (some ⟨X.heap.size, 0, none⟩) 2 2] 112)) (X.heap.size + 1) (.mk [] [t1, t2]) S := by
  have hbn : Below X.heap.size X ((X.alloc (.cells #[.pointer (some ⟨b, 0, none⟩), .pointer (some ⟨b2, 0, none⟩)] 66)).alloc (.cells #[.slice none 0 0, .slice (some ⟨X.heap.size, 0, none⟩) 2 2] 112)) := below_new (below_new (Below.refl _ _))
  have k1 : Bk ((X.alloc (.cells #[.pointer (some ⟨b, 0, none⟩), .pointer (some ⟨b2, 0, none⟩)] 66)).alloc (.cells #[.slice none 0 0, .slice (some ⟨X.heap.size, 0, none⟩) 2 2] 112)) X.heap.size 66 [.pointer (some ⟨b, 0, none⟩), .pointer (some ⟨b2, 0, none⟩)] := (Bk.new X 66 [.pointer (some ⟨b, 0, none⟩), .pointer (some ⟨b2, 0, none⟩)]).alloc _
  have k2 : Bk ((X.alloc (.cells #[.pointer (some ⟨b, 0, none⟩), .pointer (some ⟨b2, 0, none⟩)] 66)).alloc (.cells #[.slice none 0 0, .slice (some ⟨X.heap.size, 0, none⟩) 2 2] 112)) (X.heap.size + 1) 112 [.slice none 0 0, .slice (some ⟨X.heap.size, 0, none⟩) 2 2] := by
    have := Bk.new (X.alloc (.cells #[.pointer (some ⟨b, 0, none⟩), .pointer (some ⟨b2, 0, none⟩)] 66)) 112 [.slice none 0 0, .slice (some ⟨X.heap.size, 0, none⟩) 2 2]
    simpa using this
  have hsz : ((X.alloc (.cells #[.pointer (some ⟨b, 0, none⟩), .pointer (some ⟨b2, 0, none⟩)] 66)).alloc (.cells #[.slice none 0 0, .slice (some ⟨X.heap.size, 0, none⟩) 2 2] 112)).heap.size = X.heap.size + 2 := by simp
  have hs := hon.size
  refine ⟨fun x => (S1 x ∨ S2 x) ∨ x = X.heap.size ∨ x = X.heap.size + 1, .mk _ _ (.slice none 0 0) (.slice (some ⟨X.heap.size, 0, none⟩) 2 2) [] [t1, t2] (fun i => if i = 0 then b else b2) (fun i => if i = 0 then S1 else S2) (.inr (.inr rfl)) k2 (World.ownsRow_nil _ _ _ _) ⟨by simp [ptrs], .inr ⟨X.heap.size, 2, #[.pointer (some ⟨b, 0, none⟩), .pointer (some ⟨b2, 0, none⟩)], rfl, Nat.zero_le _, k1, Nat.le_refl _, by unfold maxLen; omega, rfl, rfl⟩⟩ (fun x hx => by cases hx) (fun x hx => ?_) (fun i hi x hx => ?_) (fun i j hi hj hij x hx hy => ?_) (fun i hi => ?_), fun x hx => ?_, hon.trans (only_of_below hbn _)⟩
  · cases hx
    exact ⟨.inr (.inl rfl), (show X.heap.size ≠ X.heap.size + 1 by omega), by simp [Value.ownBlock]⟩
  · have hx' : S1 x ∨ S2 x := by
      by_cases e : i = 0
      · simp only [e, if_true] at hx; exact .inl hx
      · simp only [e, if_false] at hx; exact .inr hx
    have := (hS x hx').2
    exact ⟨.inl hx', by omega, by simp [Value.ownBlock], by simp [Value.ownBlock]; omega⟩
  · simp at hi hj
    by_cases e : i = 0
    · have e' : j ≠ 0 := by omega
      simp only [e, if_true] at hx
      simp only [e', if_false] at hy
      exact hd x hx hy
    · have e' : j = 0 := by omega
      simp only [e, if_false] at hx
      simp only [e', if_true] at hy
      exact hd x hy hx
  · simp at hi
    by_cases e : i = 0
    · subst e; exact h1.kept hbn
    · obtain rfl : i = 1 := by omega
      exact h2.kept hbn
  · rw [hsz]
    rcases hx with h | h | h
    · exact ⟨(hS x h).1, by have := (hS x h).2; omega⟩
    · exact ⟨.inr (by omega), by omega⟩
    · exact ⟨.inr (by omega), by omega⟩
set_option maxHeartbeats 1000000 in
theorem rootPut_any (f : Nat) (S : Nat → Prop) (b : Nat) (t : T) (k v : ByteArray) (w : World) (hL : Limb w S b t) (hS : ∀ x, S x → x < w.heap.size) (g : PutIn f true t) :
    Calls Try.prog 35 #[.pointer (some ⟨b, 0, none⟩), .agg #[.string k, .string v]] w fun e w' => OnePost w S (rootT (putF f t (k, v))) e w' := by
  have hb := below_new (o := .cells #[.string k, .string v] 35) (w := w) (Below.refl _ _)
  have HB0 := hid hb
  have KP := hid (Bk.new w 35 [.string k, .string v])
  have p0 := KP.out.cell (j := 0) rfl
  have p1 := KP.out.cell (j := 1) rfl
  have HPT := hid (put_any f true S b t k v _ (hL.kept hb) (fun x hx => Nat.lt_of_lt_of_le (hS x hx) hb.size) g)
  have HOUT := hid (putF_out f true t (k, v) g)
  clear hb hL hS g
  go_enter Try.func35, Try.ntmps35
  go_wp2_with fail
  refine HPT.out.mono ?_
  rintro e w1 ⟨b2, rfl, S1, S2, k1, k2, k3, k4, k5⟩
  have HBA := hid (fun (w' : World) h1 => isBare_any S2 b2 (putF f t (k, v)).2 w' h1 (Nat.le_trans (small_out HOUT.out) (by omega)))
  have H1 := hid k1
  have H2 := hid k2
  have H3 := hid k3
  have H4 : Hid (∀ x, S1 x ∨ S2 x → (S x ∨ w.heap.size ≤ x) ∧ x < w1.heap.size) := fun x hx => ⟨(k4 x hx).1.imp id (fun h => Nat.le_trans HB0.out.size h), (k4 x hx).2⟩
  have H5 := hid ((only_of_below HB0.out S).trans k5)
  clear k1 k2 k3 k4 k5 HPT
  generalize hrr : putF f t (k, v) = rr at *
  have HRR := hid hrr
  clear hrr
  go_wp2_with fail
  refine (HBA.out _ H2.out).mono ?_
  rintro e w9 ⟨rfl, n2, rfl⟩
  have J1 := hid (H1.out.kept (below_dn w1 n2))
  have J2 := hid (H2.out.kept (below_dn w1 n2))
  have J4 : Hid (∀ x, S1 x ∨ S2 x → (S x ∨ w.heap.size ≤ x) ∧ x < (w1.drewN n2).heap.size) := H4.out
  have J5 := hid (H5.out.trans (only_of_below (below_dn w1 n2) S))
  generalize w1.drewN n2 = X at *
  clear H1 H2 H4 H5 HBA
  cases hbr : rr.2.bare with
  | true =>
    have HR : Hid (rootT rr = rr.1) := by show _ = _; rw [rootT, if_pos hbr]
    clear hbr
    go_wp2
    go_ret
    refine ⟨b, rfl, ?_⟩
    rw [HRR.out, HR.out]
    exact ⟨S1, J1.out, fun x hx => J4.out x (.inl hx), J5.out⟩
  | false =>
    have HR : Hid (rootT rr = .mk [] [rr.1, rr.2]) := by show _ = _; rw [rootT, if_neg (by rw [hbr]; simp)]
    have HN := hid (root_new J1.out J2.out H3.out J4.out J5.out)
    clear hbr
    go_wp2
    go_ret
    refine ⟨_, rfl, ?_⟩
    rw [HRR.out, HR.out]
    exact HN.out
end Go.Proofs.Ytkflneeifllpgaa
/-
  readBranch, given read.
-/
namespace Go.Proofs.Ytkflneeifllpgaa
open Go.RowKit
/-- How far readBranch has come: the kids ts have been read. -/
structure BrI (w wr : World) (wb : Nat) (nv q0 q1 q2 : Value) (ts : List T) (nx : Nat) (kv : Value) (A : Nat → Nat) (SS : Nat → Nat → Prop) : Prop where
  wlt : wb < w.heap.size
  walk : Bk wr wb 114 [nv, .int .i64 nx]
  par : Bk wr w.heap.size 106 [q0, q1, q2]
  only : Only (fun b => b = wb) w wr
  br : Bk wr (w.heap.size + 1) 112 [.slice none 0 0, kv]
  row : Ok wr (w.heap.size + 2) kv ts.length A
  sub : ∀ i, i < ts.length → ∀ x, SS i x → w.heap.size + 2 ≤ x ∧ x < wr.heap.size ∧ kv.ownBlock ≠ some x
  dis : ∀ i j, i < ts.length → j < ts.length → i ≠ j → ∀ x, SS i x → ¬ SS j x
  kid : ∀ i, i < ts.length → Limb wr (SS i) (A i) (tAt ts i)
  rdy : ∀ i, i < ts.length → Rdy (tAt ts i)
theorem BrI.read {w wr w1 : World} {wb : Nat} {nv q0 q1 q2 : Value} {ts : List T} {nx n1 : Nat} {kv : Value} {A : Nat → Nat} {SS : Nat → Nat → Prop} (h : BrI w wr wb nv q0 q1 q2 ts nx kv A SS)
    (ho : Only (fun b => b = wb) wr w1) (hb : Bk w1 wb 114 [nv, .int .i64 n1]) : BrI w w1 wb nv q0 q1 q2 ts n1 kv A SS := by
  have hw := h.wlt
  refine ⟨h.wlt, hb, h.par.to ho (by omega), h.only.trans ho, h.br.to ho (by omega), h.row.to ho (fun k e => ?_), fun i hi x hx => ?_, h.dis, fun i hi => (h.kid i hi).to ho (fun x hx => ?_), h.rdy⟩
  · have := (World.ownsRow.lt h.row k e).1; omega
  · have := h.sub i hi x hx; have := ho.size; exact ⟨by omega, by omega, (h.sub i hi x hx).2.2⟩
  · have := h.sub i hi x hx; omega
theorem BrI.keep {w wr w1 : World} {wb : Nat} {nv q0 q1 q2 : Value} {ts : List T} {nx : Nat} {kv : Value} {A : Nat → Nat} {SS : Nat → Nat → Prop} (h : BrI w wr wb nv q0 q1 q2 ts nx kv A SS)
    (hb : Below wr.heap.size wr w1) : BrI w w1 wb nv q0 q1 q2 ts nx kv A SS := h.read (only_of_below hb _) (h.walk.below hb)
theorem BrI.push {w u w2 : World} {wb : Nat} {nv q0 q1 q2 : Value} {ts : List T} {nx : Nat} {kv v' : Value} {A : Nat → Nat} {SS : Nat → Nat → Prop} (h : BrI w u wb nv q0 q1 q2 ts nx kv A SS)
    {P : Nat → Prop} {b : Nat} {t : T} (hl : Limb u P b t) (hP : ∀ x, P x → w.heap.size + 2 ≤ x ∧ x < u.heap.size ∧ kv.ownBlock ≠ some x ∧ ∀ i, i < ts.length → ¬ SS i x) (ht : Rdy t)
    (ho : Ok w2 (w.heap.size + 2) v' (ts.length + 1) (fun i => if i = ts.length then b else A i)) (hg : u.grownBy w2 kv.ownBlock) (ha : v'.ownBlock = kv.ownBlock ∨ v'.ownBlock = some u.heap.size) :
    BrI w (w2.setCell ⟨w.heap.size + 1, 1, none⟩ v') wb nv q0 q1 q2 (ts ++ [t]) nx v' (fun i => if i = ts.length then b else A i) (fun i => if i = ts.length then P else SS i) := by
  have hw := h.wlt
  have hkv := fun k e => (World.ownsRow.lt h.row k e).1
  have hsz : u.heap.size ≤ w2.heap.size := hg.size
  have hbr := h.br.lt
  have hav : ∀ x, v'.ownBlock = some x → w.heap.size + 2 ≤ x := fun x e => (World.ownsRow.lt ho x e).1
  have o1 : Only (fun b => some b = kv.ownBlock) u w2 := only_of_grown hg (fun k e => e.symm)
  have o2 : Only (fun b => b = w.heap.size + 1) w2 (w2.setCell ⟨w.heap.size + 1, 1, none⟩ v') := only_set (R := fun b => b = w.heap.size + 1) rfl _
  have o3 : Only (fun b => some b = kv.ownBlock ∨ b = w.heap.size + 1) u (w2.setCell ⟨w.heap.size + 1, 1, none⟩ v') := (o1.mono (fun _ _ e => .inl e)).then o2 (fun _ _ e => .inr e)
  refine ⟨h.wlt, h.walk.to o3 ?_, h.par.to o3 ?_, ?_, ?_, ?_, ?_, ?_, ?_, ?_⟩
  · rintro (e | e)
    · have := hkv wb e.symm; omega
    · omega
  · rintro (e | e)
    · have := hkv w.heap.size e.symm; omega
    · omega
  · refine h.only.then o3 (fun i hi e => ?_)
    rcases e with e | e
    · have := hkv i e.symm; omega
    · omega
  · have k1 := h.br.to o1 (fun e => by have := hkv _ e.symm; omega)
    exact k1.set 1 v'
  · rw [List.length_append]
    exact ho.to o2 (fun k e => by have := hav k e; omega)
  · intro i hi x hx
    have hz : (w2.setCell ⟨w.heap.size + 1, 1, none⟩ v').heap.size = w2.heap.size := by simp [World.setCell]
    rw [hz]
    by_cases e : i = ts.length
    · subst e
      simp only [if_true] at hx
      obtain ⟨p1, p2, p3, p4⟩ := hP x hx
      refine ⟨p1, by omega, ?_⟩
      rcases ha with ha | ha
      · rw [ha]; exact p3
      · rw [ha]; intro e; cases e; omega
    · simp only [e, if_false] at hx
      simp at hi
      obtain ⟨p1, p2, p3⟩ := h.sub i (by omega) x hx
      refine ⟨p1, by omega, ?_⟩
      rcases ha with ha | ha
      · rw [ha]; exact p3
      · rw [ha]; intro e; cases e; omega
  · intro i j hi hj hij x hx hy
    simp at hi hj
    by_cases e : i = ts.length
    · subst e
      simp only [if_true] at hx
      rw [if_neg (by omega)] at hy
      exact (hP x hx).2.2.2 j (by omega) hy
    · rw [if_neg e] at hx
      by_cases e' : j = ts.length
      · subst e'
        simp only [if_true] at hy
        exact (hP x hy).2.2.2 i (by omega) hx
      · rw [if_neg e'] at hy
        exact h.dis i j (by omega) (by omega) hij x hx hy
  · intro i hi
    rw [tAt_snoc _ _ _ hi]
    by_cases e : i = ts.length
    · subst e
      simp only [if_true]
      exact hl.to o3 (fun x hx => by
        rintro (e | e)
        · exact (hP x hx).2.2.1 e.symm
        · have := (hP x hx).1; omega)
    · simp only [e, if_false]
      simp at hi
      exact (h.kid i (by omega)).to o3 (fun x hx => by
        have := h.sub i (by omega) x hx
        rintro (e | e)
        · exact this.2.2 e.symm
        · omega)
  · intro i hi
    rw [tAt_snoc _ _ _ hi]
    by_cases e : i = ts.length
    · rw [if_pos e]; exact ht
    · rw [if_neg e]; simp at hi; exact h.rdy i (by omega)
theorem BrI.limb {w wr : World} {wb : Nat} {nv q0 q1 q2 : Value} {ts : List T} {nx : Nat} {kv : Value} {A : Nat → Nat} {SS : Nat → Nat → Prop} (h : BrI w wr wb nv q0 q1 q2 ts nx kv A SS) :
    Limb wr (fun y => w.heap.size ≤ y ∧ y < wr.heap.size) (w.heap.size + 1) (.mk [] ts) := by
  have hbr := h.br.lt
  refine .mk _ _ (.slice none 0 0) kv [] ts A SS ⟨by omega, hbr⟩ h.br (World.ownsRow_nil _ _ _ _) (own_mono h.row (Nat.zero_le _)) (fun x hx => by cases hx) (fun x hx => ?_) (fun i hi x hx => ?_) h.dis h.kid
  · have := World.ownsRow.lt h.row x hx
    exact ⟨⟨by omega, this.2⟩, by omega, by simp [Value.ownBlock]⟩
  · have := h.sub i hi x hx
    exact ⟨⟨by omega, this.2.1⟩, by omega, by simp [Value.ownBlock], this.2.2⟩
theorem BrI.first {w : World} {wb : Nat} {nv q0 q1 q2 : Value} {nx : Nat} (hw : Bk w wb 114 [nv, .int .i64 nx]) :
    BrI w ((w.alloc (.cells #[q0, q1, q2] 106)).alloc (.cells #[.slice none 0 0, .slice none 0 0] 112)) wb nv q0 q1 q2 [] nx (.slice none 0 0) (fun _ => 0) (fun _ _ => False) := by
  refine ⟨hw.lt, (hw.alloc _).alloc _, (Bk.new w 106 [q0, q1, q2]).alloc _, only_of_below (below_new (below_new (Below.refl _ _))) _, ?_, World.ownsRow_nil _ _ _ _, fun i hi => by simp at hi, fun i j hi => by simp at hi, fun i hi => by simp at hi, fun i hi => by simp at hi⟩
  have := Bk.new (w.alloc (.cells #[q0, q1, q2] 106)) 112 [.slice none 0 0, .slice none 0 0]
  simpa using this
set_option maxHeartbeats 8000000 in
theorem readBranch_any (ns : List NB) (f : Nat) (ih : ReadC ns f) (S : Nat → Prop) (wb : Nat) (an : Option Addr) (nn cn : Nat) (ap ax ai : Option Addr) (np cp nk cx ni ci : Nat) (x : NB) (nx : Nat) (w : World)
    (hW : Bk w wb 114 [.slice an nn cn, .int .i64 nx]) (hN : Nr w S (.slice an nn cn) ns) (hwb : ¬ S wb) (hlen : ns.length < 400) (hnx : nx ≤ ns.length) (hf : ns.length ≤ nx + f)
    (hP : Pr w S (.slice ap np cp) x.ps) (hS : Sr w S (.slice ax nk cx) x.keys) (hI : Ir w S (.slice ai ni ci) x.kids) :
    Calls Try.prog 117 #[.pointer (some ⟨wb, 0, none⟩), .agg #[.slice ap np cp, .slice ax nk cx, .slice ai ni ci]] w fun e w' => ReadPost (brT ns f x nx) w wb (.slice an nn cn) e w' ∧ Only (fun b => b = wb) w w' := by
  have HIH := hid ih
  have HW := hid hW
  have HN := hid hN
  have HWB := hid hwb
  have HLEN := hid hlen
  have HNX := hid hnx
  have HF := hid hf
  have HS := hid hS
  have HI := hid hI
  have lp := hid (Rw.len hP).1
  have lk := hid (Rw.len hS).1
  have li := hid (Rw.len hI).1
  have b1 := (Rw.len hP).2.1
  have b2 := (Rw.len hP).2.2
  have b3 := (Rw.len hS).2.1
  have b4 := (Rw.len hS).2.2
  have b5 := (Rw.len hI).2.1
  have b6 := (Rw.len hI).2.2
  clear ih hW hN hwb hlen hnx hf hP hS hI
  have HB0 := hid (below_new (o := .cells #[.slice ap np cp, .slice ax nk cx, .slice ai ni ci] 106) (w := w) (Below.refl _ _))
  have KP := hid (Bk.new w 106 [.slice ap np cp, .slice ax nk cx, .slice ai ni ci])
  have LB : Hid (brOk x = !(decide (ni < 2) || decide (4 < ni) || !decide ((nk : Int) = (ni : Int) - 1) || !decide (np = 0))) := by
    show _ = _
    rw [lp.out, lk.out, li.out]; rfl
  by_cases a1 : ni < 2
  · have HR : Hid (brT ns f x nx = none) := by show _ = _; rw [brT, if_neg]; rw [LB.out]; simp [a1]
    have e1 : (ni : Int) < 2 := by omega
    clear LB a1
    go_enter Try.func117, Try.ntmps117
    go_wp2
    go_ret
    exact ⟨by rw [HR.out]; rfl, only_of_below HB0.out _⟩
  · have e1 : ¬ (ni : Int) < 2 := by omega
    by_cases a2 : 4 < ni
    · have HR : Hid (brT ns f x nx = none) := by show _ = _; rw [brT, if_neg]; rw [LB.out]; simp [a2]
      have e2 : (4 : Int) < (ni : Int) := by omega
      clear LB a1 a2
      go_enter Try.func117, Try.ntmps117
      go_wp2
      go_ret
      exact ⟨by rw [HR.out]; rfl, only_of_below HB0.out _⟩
    · have e2 : ¬ (4 : Int) < (ni : Int) := by omega
      by_cases a3 : (nk : Int) = (ni : Int) - 1
      · have e3 : ((nk : Int) != (ni : Int) - 1) = false := by simp [a3]
        by_cases a4 : np = 0
        · have e4 : ((np : Int) != 0) = false := by simp [a4]
          have HOK : Hid (brOk x = true) := by show _ = _; rw [LB.out]; simp [a1, a2, a3, a4]
          have HNK := hid a3
          have HIN : Hid (ni ≤ 4) := by show _ ≤ _; omega
          clear LB a3 a4
          go_enter Try.func117, Try.ntmps117
          have HI0 := hid (BrI.first (q0 := .slice ap np cp) (q1 := .slice ax nk cx) (q2 := .slice ai ni ci) HW.out)
          go_wp2_with fail
          go_loopw [38] (fun i wr => ∃ (ts : List T) (nx' : Nat) (kv : Value) (A : Nat → Nat) (SS : Nat → Nat → Prop), i = .int .i64 (ts.length : Int) ∧ Hid (ts.length ≤ ni) ∧ Hid (BrI w wr wb (.slice an nn cn) (.slice ap np cp) (.slice ax nk cx) (.slice ai ni ci) ts nx' kv A SS) ∧ Hid (nx ≤ nx' ∧ nx' ≤ ns.length) ∧ Hid (rdIL (rdI ns f) x.keys ts (x.kids.drop ts.length) nx' = rdIL (rdI ns f) x.keys [] x.kids nx)) (fun i _ => ni - (intOf i).toNat)
          case atStart => exact ⟨[], nx, _, _, _, rfl, Nat.zero_le _, HI0.out, ⟨Nat.le_refl _, HNX.out⟩, rfl⟩
          case round =>
            obtain ⟨ts, nx', kv, A, SS, rfl, HTL, HBI, HNB, HRD⟩ := hrel
            generalize hk : ts.length = k at *
            have HKL := hid hk
            clear hk
            have HNr := hid (HN.out.to HBI.out.only (fun b hb _ e => HWB.out (e ▸ hb)))
            have HIr := hid (HI.out.to HBI.out.only (fun b hb _ e => HWB.out (e ▸ hb)))
            have HSr := hid (HS.out.to HBI.out.only (fun b hb _ e => HWB.out (e ▸ hb)))
            have p1 := HBI.out.par.cell (j := 1) rfl
            by_cases hlt : k < ni
            · have hlt' : (k : Int) < (ni : Int) := by omega
              obtain ⟨bi, offi, rfl, _, _, hci⟩ := HIr.out.at (by omega)
              have hck := hci k hlt
              have HKD : Hid (x.kids.drop k = iAt x.kids k :: x.kids.drop (k + 1)) := by
                show _ = _
                have hl : k < x.kids.length := by rw [← li.out]; exact hlt
                rw [List.drop_eq_getElem_cons hl]
                simp [iAt, hl]
              clear hci
              generalize hpl : iAt x.kids k = pl at hck HKD
              clear hpl
              go_wp2_with fail
              refine (HIH.out S wb an nn cn pl nx' wr HBI.out.walk HNr.out HWB.out HLEN.out HNB.out.2 (by have := HF.out; have := HNB.out.1; omega)).mono ?_
              rintro e w1 ⟨hpost, ho1⟩
              cases hr : rdI ns f pl nx' with
              | none =>
                rw [hr] at hpost
                have he : e = .returned (.pointer none) := hpost
                subst he
                have HR : Hid (brT ns f x nx = none) := by
                  show _ = _
                  have h1 := HRD.out
                  rw [HKD.out, rdIL, hr] at h1
                  rw [brT, if_pos HOK.out, ← h1]
                have HO1 := hid (HBI.out.only.trans ho1)
                clear hpost ho1 hr
                go_wp2
                go_ret
                exact ⟨by rw [HR.out]; rfl, HO1.out⟩
              | some tn =>
                obtain ⟨t, n1⟩ := tn
                rw [hr] at hpost
                obtain ⟨b, he, hL, hB⟩ := hpost
                subst he
                have HRI := hid (rdI_rdy hr (by have := HLEN.out; omega))
                have HB1 := hid (HBI.out.read ho1 hB)
                have HL := hid hL
                have HPP : Hid (∀ y, (wr.heap.size ≤ y ∧ y < w1.heap.size) → w.heap.size + 2 ≤ y ∧ y < w1.heap.size ∧ kv.ownBlock ≠ some y ∧ ∀ i, i < ts.length → ¬ SS i y) := by
                  rintro y ⟨h1, h2⟩
                  have h3 := HBI.out.br.lt
                  refine ⟨by omega, h2, fun e => ?_, fun i hi hs => ?_⟩
                  · have := (World.ownsRow.lt HBI.out.row y e).2; omega
                  · have := (HBI.out.sub i hi y hs).2.1; omega
                have HRD1 : Hid (rdIL (rdI ns f) x.keys [] x.kids nx = if 0 < ts.length ∧ (t.least ≠ sAt x.keys (ts.length - 1) ∨ t.lv ≠ (tAt ts 0).lv) then none else rdIL (rdI ns f) x.keys (ts ++ [t]) (x.kids.drop (k + 1)) n1) := by
                  show _ = _
                  have h1 := HRD.out
                  rw [HKD.out, rdIL, hr] at h1
                  rw [← h1]
                  rfl
                have p1' := HB1.out.par.cell (j := 1) rfl
                have HSr1 := hid (HS.out.to HB1.out.only (fun b hb _ e => HWB.out (e ▸ hb)))
                clear hL hB hr ho1 HBI HRD HKD p1
                obtain ⟨ak, ck, hkv⟩ := HB1.out.row.shape
                rw [HKL.out] at hkv
                subst hkv
                cases k with
                | zero =>
                  have HTS : Hid (ts = []) := List.eq_nil_of_length_eq_zero HKL.out
                  have HRD2 : Hid (rdIL (rdI ns f) x.keys (ts ++ [t]) (x.kids.drop (0 + 1)) n1 = rdIL (rdI ns f) x.keys [] x.kids nx) := by
                    show _ = _
                    rw [HRD1.out, if_neg]
                    rw [HKL.out]; omega
                  clear HRD1
                  have c1 := HB1.out.br.cell (j := 1) rfl
                  have f1 := HB1.out.br.free 1
                  go_wp2_with fail
                  go_quiet (fail)
                  have HB2 := hid (HB1.out.keep (Below.drewN' (Below.refl _ _) nq))
                  have HL2 := hid (HL.out.kept (Below.drewN' (Below.refl _ _) nq))
                  have HOK2 : Hid (Ok (w1.drewN nq) (w.heap.size + 2) (.slice ak (0) ck) (0) A) := by have := HB2.out.row; rw [HKL.out] at this; exact this
                  have HB3 := hid (HB2.out.keep (below_new (o := .cells #[.pointer (some ⟨b, 0, none⟩)] 66) (Below.refl _ _)))
                  have HL3 := hid (HL2.out.kept (below_new (o := .cells #[.pointer (some ⟨b, 0, none⟩)] 66) (Below.refl _ _)))
                  have HSZ : Hid (w.heap.size + 2 ≤ w1.heap.size) := by have := HB1.out.br.lt; show _ ≤ _; omega
                  go_wp2_with (at_builtin; refine wpList_append_ptr rfl _ _ rfl (w.heap.size + 2) _ (0) A rfl (HOK2.out.kept (below_new (o := .cells #[.pointer (some ⟨b, 0, none⟩)] 66) (Below.refl _ _))) w1.heap.size b rfl ?qc ?qb ?qd ?_)
                  case qc => exact (Bk.new (w1.drewN nq) 66 [.pointer (some ⟨b, 0, none⟩)]).cell (j := 0) rfl
                  case qb => have := HIN.out; omega
                  case qd => have := HSZ.out; simp; omega
                  intro v2 w2 hO2 hg2 ha2
                  obtain ⟨a2, cc2, hv2⟩ := hO2.shape
                  subst hv2
                  have HB4 := hid (HB3.out.push (P := fun y => wr.heap.size ≤ y ∧ y < w1.heap.size) HL3.out (fun y hy => ⟨(HPP.out y hy).1, by have := (HPP.out y hy).2.1; simp; omega, (HPP.out y hy).2.2⟩) HRI.out.1 (by rw [HKL.out]; exact hO2) hg2 (by simpa using ha2))
                  have K2 := HB3.out.br.to (only_of_grown (R := fun y => w.heap.size + 2 ≤ y) hg2 (fun y e => (World.ownsRow.lt HB3.out.row y e).1)) (by omega)
                  have c2 := K2.cell (j := 1) rfl
                  have f2 := K2.free 1
                  have HRD3 : Hid (rdIL (rdI ns f) x.keys (ts ++ [t]) (x.kids.drop (ts ++ [t]).length) n1 = rdIL (rdI ns f) x.keys [] x.kids nx) := by
                    show _ = _
                    rw [List.length_append, HKL.out]
                    exact HRD2.out
                  have HTL2 : Hid ((ts ++ [t]).length = 0 + 1) := by show _ = _; rw [List.length_append, HKL.out]; rfl
                  clear K2 hO2 hg2 ha2 HB3 HL3 HOK2 HRD2
                  go_wp2
                  go_roundw
                  case rel => exact ⟨ts ++ [t], n1, _, _, _, by rw [HTL2.out]; go_num, by show _ ≤ _; rw [HTL2.out]; omega, HB4.out, ⟨by have := HNB.out.1; have := HRI.out.2.2; omega, HRI.out.2.1⟩, HRD3.out⟩
                  case measure => simp [intOf]; omega
                | succ k' =>
                  have hk1 : (0 : Int) < (k' : Int) + 1 := by omega
                  obtain ⟨bs, offs, hax, _, _, hcs⟩ := HSr1.out.at (by have := HNK.out; omega)
                  subst hax
                  have hks := hcs k' (by have := HNK.out; omega)
                  have hkk : (k' : Int) < (nk : Int) := by have := HNK.out; omega
                  clear hcs
                  obtain ⟨g0, og, hag, _, _, hcg⟩ := Rw.at (rw_own (S := fun _ => True) (by have := HB1.out.row; rw [HKL.out] at this; exact this) (fun _ _ _ _ => trivial)) (by omega)
                  subst hag
                  have hg0 := hcg 0 _ (ptrs_at A _ 0 (by omega))
                  simp only [ptr, Nat.add_zero] at hg0
                  clear hcg
                  have HT0 := hid (HB1.out.rdy 0 (by rw [HKL.out]; omega))
                  have HL0 := hid (HB1.out.kid 0 (by rw [HKL.out]; omega))
                  have CL : ∀ n, Calls Try.prog 121 #[.pointer (some ⟨b, 0, none⟩)] (w1.drewN n) fun e w' => e = .returned (.string t.least) ∧ ∃ m, w' = (w1.drewN n).drewN m := fun n => least_any _ b t _ (HL.out.kept (Below.drewN' (Below.refl _ _) n)) HRI.out.1.ne
                  have CD : ∀ n, Calls Try.prog 142 #[.pointer (some ⟨b, 0, none⟩)] (w1.drewN n) fun e w' => e = .returned (.int .i64 (t.dpt : Int)) ∧ ∃ m, w' = (w1.drewN n).drewN m := fun n => depth_any _ b t _ (HL.out.kept (Below.drewN' (Below.refl _ _) n)) HRI.out.1.few HRI.out.1.lv
                  have CD0 : ∀ n, Calls Try.prog 142 #[.pointer (some ⟨A 0, 0, none⟩)] (w1.drewN n) fun e w' => e = .returned (.int .i64 ((tAt ts 0).dpt : Int)) ∧ ∃ m, w' = (w1.drewN n).drewN m := fun n => depth_any _ (A 0) (tAt ts 0) _ (HL0.out.kept (Below.drewN' (Below.refl _ _) n)) HT0.out.few HT0.out.lv
                  have HDD : Hid (t.dpt = t.lv ∧ (tAt ts 0).dpt = (tAt ts 0).lv) := ⟨by rw [T.dpt, HRI.out.1.bare]; rfl, by rw [T.dpt, HT0.out.bare]; rfl⟩
                  by_cases hle : t.least = sAt x.keys k'
                  · by_cases hd : t.dpt = (tAt ts 0).dpt
                    · have HRD2 : Hid (rdIL (rdI ns f) x.keys (ts ++ [t]) (x.kids.drop (k' + 1 + 1)) n1 = rdIL (rdI ns f) x.keys [] x.kids nx) := by
                        show _ = _
                        rw [HRD1.out, if_neg]
                        rw [HKL.out]
                        rintro ⟨_, h | h⟩
                        · exact h hle
                        · have := HDD.out; omega
                      rw [hle] at CL
                      rw [hd] at CD
                      have hdd : (((tAt ts 0).dpt : Int) != ((tAt ts 0).dpt : Int)) = false := by simp
                      clear HRD1 hle hd
                      generalize sAt x.keys k' = ky at *
                      generalize (tAt ts 0).dpt = dd at *
                      have c1 := HB1.out.br.cell (j := 1) rfl
                      have f1 := HB1.out.br.free 1
                      go_wp2_with fail
                      go_quiet (first | (go_at_call 121; exact Calls.quiet_of (CL _)) | (go_at_call_of 142 (Value.pointer (some ⟨A 0, 0, none⟩)); exact Calls.quiet_of (CD0 _)) | (go_at_call_of 142 (Value.pointer (some ⟨b, 0, none⟩)); exact Calls.quiet_of (CD _)) | fail)
                      have HB2 := hid (HB1.out.keep (Below.drewN' (Below.refl _ _) nq))
                      have HL2 := hid (HL.out.kept (Below.drewN' (Below.refl _ _) nq))
                      have HOK2 : Hid (Ok (w1.drewN nq) (w.heap.size + 2) (.slice (some ⟨g0, og, none⟩) (k' + 1) ck) (k' + 1) A) := by have := HB2.out.row; rw [HKL.out] at this; exact this
                      have HB3 := hid (HB2.out.keep (below_new (o := .cells #[.pointer (some ⟨b, 0, none⟩)] 66) (Below.refl _ _)))
                      have HL3 := hid (HL2.out.kept (below_new (o := .cells #[.pointer (some ⟨b, 0, none⟩)] 66) (Below.refl _ _)))
                      have HSZ : Hid (w.heap.size + 2 ≤ w1.heap.size) := by have := HB1.out.br.lt; show _ ≤ _; omega
                      go_wp2_with (at_builtin; refine wpList_append_ptr rfl _ _ rfl (w.heap.size + 2) _ (k' + 1) A rfl (HOK2.out.kept (below_new (o := .cells #[.pointer (some ⟨b, 0, none⟩)] 66) (Below.refl _ _))) w1.heap.size b rfl ?qc ?qb ?qd ?_)
                      case qc => exact (Bk.new (w1.drewN nq) 66 [.pointer (some ⟨b, 0, none⟩)]).cell (j := 0) rfl
                      case qb => have := HIN.out; omega
                      case qd => have := HSZ.out; simp; omega
                      intro v2 w2 hO2 hg2 ha2
                      obtain ⟨a2, cc2, hv2⟩ := hO2.shape
                      subst hv2
                      have HB4 := hid (HB3.out.push (P := fun y => wr.heap.size ≤ y ∧ y < w1.heap.size) HL3.out (fun y hy => ⟨(HPP.out y hy).1, by have := (HPP.out y hy).2.1; simp; omega, (HPP.out y hy).2.2⟩) HRI.out.1 (by rw [HKL.out]; exact hO2) hg2 (by simpa using ha2))
                      have K2 := HB3.out.br.to (only_of_grown (R := fun y => w.heap.size + 2 ≤ y) hg2 (fun y e => (World.ownsRow.lt HB3.out.row y e).1)) (by omega)
                      have c2 := K2.cell (j := 1) rfl
                      have f2 := K2.free 1
                      have HRD3 : Hid (rdIL (rdI ns f) x.keys (ts ++ [t]) (x.kids.drop (ts ++ [t]).length) n1 = rdIL (rdI ns f) x.keys [] x.kids nx) := by
                        show _ = _
                        rw [List.length_append, HKL.out]
                        exact HRD2.out
                      have HTL2 : Hid ((ts ++ [t]).length = k' + 1 + 1) := by show _ = _; rw [List.length_append, HKL.out]; rfl
                      clear K2 hO2 hg2 ha2 HB3 HL3 HOK2 HRD2
                      go_wp2
                      go_roundw
                      case rel => exact ⟨ts ++ [t], n1, _, _, _, by rw [HTL2.out]; go_num, by show _ ≤ _; rw [HTL2.out]; omega, HB4.out, ⟨by have := HNB.out.1; have := HRI.out.2.2; omega, HRI.out.2.1⟩, HRD3.out⟩
                      case measure => simp [intOf]; omega
                    · have HR : Hid (brT ns f x nx = none) := by
                        show _ = _
                        rw [brT, if_pos HOK.out, HRD1.out, if_pos]
                        exact ⟨by rw [HKL.out]; omega, .inr (by have := HDD.out; omega)⟩
                      rw [hle] at CL
                      have hdd : ((t.dpt : Int) != ((tAt ts 0).dpt : Int)) = true := by simp; omega
                      clear HRD1 hle hd HDD
                      generalize sAt x.keys k' = ky at *
                      generalize (tAt ts 0).dpt = dd at *
                      generalize t.dpt = dt at *
                      have c1 := HB1.out.br.cell (j := 1) rfl
                      have HO1 := hid HB1.out.only
                      go_wp2_with fail
                      go_quiet (first | (go_at_call 121; exact Calls.quiet_of (CL _)) | (go_at_call_of 142 (Value.pointer (some ⟨A 0, 0, none⟩)); exact Calls.quiet_of (CD0 _)) | (go_at_call_of 142 (Value.pointer (some ⟨b, 0, none⟩)); exact Calls.quiet_of (CD _)) | fail)
                      go_wp2
                      go_ret
                      exact ⟨by rw [HR.out]; rfl, HO1.out.trans (only_drew _ _ _)⟩
                  · have HR : Hid (brT ns f x nx = none) := by
                      show _ = _
                      rw [brT, if_pos HOK.out, HRD1.out, if_pos]
                      exact ⟨by rw [HKL.out]; omega, .inl (by rw [HKL.out]; exact hle)⟩
                    have hbe := str_beq hle
                    clear HRD1 hle HDD CD CD0
                    generalize sAt x.keys k' = ky at *
                    generalize t.least = tl at *
                    have c1 := HB1.out.br.cell (j := 1) rfl
                    have HO1 := hid HB1.out.only
                    go_wp2_with fail
                    go_quiet (first | (go_at_call 121; exact Calls.quiet_of (CL _)) | fail)
                    go_wp2
                    go_ret
                    exact ⟨by rw [HR.out]; rfl, HO1.out.trans (only_drew _ _ _)⟩
            · have hk' : k = ni := by have := HTL.out; omega
              have HR : Hid (brT ns f x nx = some (.mk [] ts, nx')) := by
                show _ = _
                have h1 := HRD.out
                rw [hk', li.out, List.drop_length, rdIL] at h1
                rw [brT, if_pos HOK.out, ← h1]
              have HFIN := hid HBI.out.limb
              have HO1 := hid HBI.out.only
              have HWK := hid HBI.out.walk
              clear hk' HBI
              go_wp2
              go_ret
              exact ⟨by rw [HR.out]; exact ⟨_, rfl, HFIN.out, HWK.out⟩, HO1.out⟩
        · have HR : Hid (brT ns f x nx = none) := by show _ = _; rw [brT, if_neg]; rw [LB.out]; simp [a4]
          have e4 : ((np : Int) != 0) = true := by simp; omega
          clear LB a3 a4
          go_enter Try.func117, Try.ntmps117
          go_wp2
          go_ret
          exact ⟨by rw [HR.out]; rfl, only_of_below HB0.out _⟩
      · have HR : Hid (brT ns f x nx = none) := by show _ = _; rw [brT, if_neg]; rw [LB.out]; simp [a3]
        have e3 : ((nk : Int) != (ni : Int) - 1) = true := by simp [a3]
        clear LB a3
        go_enter Try.func117, Try.ntmps117
        go_wp2
        go_ret
        exact ⟨by rw [HR.out]; rfl, only_of_below HB0.out _⟩
end Go.Proofs.Ytkflneeifllpgaa
/-
  read: it reads what the plain function reads. rootOf.
-/
namespace Go.Proofs.Ytkflneeifllpgaa
open Go.RowKit
theorem ReadPost.mono {o : Option (T × Nat)} {w u : World} {wb : Nat} {nv : Value} {e : Ending} {w' : World} (h : ReadPost o u wb nv e w') (hs : w.heap.size ≤ u.heap.size) : ReadPost o w wb nv e w' := by
  cases o with
  | none => exact h
  | some tn =>
    obtain ⟨t, n⟩ := tn
    obtain ⟨b, h1, h2, h3⟩ := h
    exact ⟨b, h1, h2.mono (fun y hy => ⟨Nat.le_trans hs hy.1, hy.2⟩), h3⟩
theorem LimbOr.ret {o : Option T} {w : World} {e : Ending} {w' : World} (h : LimbOr o w e w') : ∃ p, e = .returned (.pointer p) := by
  cases o with
  | none => exact ⟨none, h⟩
  | some t => obtain ⟨b, h1, _⟩ := h; exact ⟨_, h1⟩
theorem ReadPost.ret {o : Option (T × Nat)} {w : World} {wb : Nat} {nv : Value} {e : Ending} {w' : World} (h : ReadPost o w wb nv e w') : ∃ p, e = .returned (.pointer p) := by
  cases o with
  | none => exact ⟨none, h⟩
  | some tn => obtain ⟨t, n⟩ := tn; obtain ⟨b, h1, _⟩ := h; exact ⟨_, h1⟩
theorem rdI_no {ns : List NB} {f : Nat} {pl : Int} {nx : Nat} (h : pl ≠ (nx : Int) ∨ (ns.length : Int) ≤ pl) : rdI ns f pl nx = none := by
  cases f with
  | zero => rfl
  | succ f => rw [rdI, if_pos h]
theorem rdI_leaf {ns : List NB} {f nx : Nat} (h : nx < ns.length) (hk : (nAt ns nx).kids.length = 0) : rdI ns (f + 1) nx nx = (leafT (nAt ns nx) (decide ((nx : Int) = 0))).map (fun t => (t, nx + 1)) := by
  rw [rdI, if_neg (by omega), if_pos hk, leafT]
  split <;> rfl
theorem rdI_br {ns : List NB} {f nx : Nat} (h : nx < ns.length) (hk : (nAt ns nx).kids.length ≠ 0) : rdI ns (f + 1) nx nx = brT ns f (nAt ns nx) (nx + 1) := by
  rw [rdI, if_neg (by omega), if_neg hk]
  rfl
theorem read_post_leaf {w u w' : World} {x : NB} {r : Bool} {wb nx : Nat} {nv : Value} {e : Ending} (h : LimbOr (leafT x r) u e w') (hs : w.heap.size ≤ u.heap.size) (hb : Bk w' wb 114 [nv, .int .i64 (nx + 1 : Nat)]) :
    ReadPost ((leafT x r).map (fun t => (t, nx + 1))) w wb nv e w' := by
  cases ho : leafT x r with
  | none => rw [ho] at h; exact h
  | some t =>
    rw [ho] at h
    obtain ⟨b, h1, h2⟩ := h
    exact ⟨b, h1, h2.mono (fun y hy => ⟨Nat.le_trans hs hy.1, hy.2⟩), hb⟩
set_option maxHeartbeats 8000000 in
theorem read_any (ns : List NB) : ∀ f, ReadC ns f := by
  intro f
  induction f with
  | zero =>
    intro S wb an nn cn pl nx w hW hN hwb hlen hnx hf
    have HR : Hid (rdI ns 0 pl nx = none) := rfl
    have hnn := hN.len.1
    have c0 := hW.cell (j := 0) rfl
    have c1 := hW.cell (j := 1) rfl
    by_cases hp : pl = (nx : Int)
    · have e1 : (pl != (nx : Int)) = false := by simp [hp]
      have e2 : (nn : Int) ≤ pl := by omega
      clear hW hN hnn hp
      go_enter Try.func74, Try.ntmps74
      go_wp2
      go_ret
      exact ⟨by rw [HR.out]; rfl, Only.refl _ _⟩
    · have e1 : (pl != (nx : Int)) = true := by simp [hp]
      clear hW hN hnn hp
      go_enter Try.func74, Try.ntmps74
      go_wp2
      go_ret
      exact ⟨by rw [HR.out]; rfl, Only.refl _ _⟩
  | succ f ih =>
    intro S wb an nn cn pl nx w hW hN hwb hlen hnx hf
    have hnn := hid hN.len.1
    have c0 := hW.cell (j := 0) rfl
    have c1 := hW.cell (j := 1) rfl
    by_cases hp : pl = (nx : Int)
    · subst hp
      have e1 : ((nx : Int) != (nx : Int)) = false := by simp
      by_cases hl : nn ≤ nx
      · have HR : Hid (rdI ns (f + 1) nx nx = none) := rdI_no (.inr (by rw [← hnn.out]; omega))
        have e2 : (nn : Int) ≤ (nx : Int) := by omega
        clear hW hN hl
        go_enter Try.func74, Try.ntmps74
        go_wp2
        go_ret
        exact ⟨by rw [HR.out]; rfl, Only.refl _ _⟩
      · have e2 : ¬ (nn : Int) ≤ (nx : Int) := by omega
        have HL : Hid (nx < ns.length) := by show _ < _; rw [← hnn.out]; omega
        have HIH := hid ih
        have HW := hid hW
        have HN := hid hN
        have HWB := hid hwb
        have HLEN := hid hlen
        have HF := hid hf
        have hlt' : (nx : Int) < (nn : Int) := by omega
        have hnx3 : nx < 400 := by have := HL.out; omega
        clear ih hN hwb hf hlen hnx
        obtain ⟨b, off, han, hSb, hbw, hcell⟩ := HN.out.at (by omega)
        subst han
        obtain ⟨ap, np, cp, ax, nk, cx, ai, ni, ci, d0, d1, d2, hp, hx, hi⟩ := hcell nx (by omega)
        have li := hid (Rw.len hi).1
        have HP := hid hp
        have HX := hid hx
        have HI := hid hi
        have hbne : b ≠ wb := by rintro rfl; exact HWB.out hSb
        have f1 := hW.free 1
        have b5 := (Rw.len hi).2.1
        have b6 := (Rw.len hi).2.2
        clear hcell hp hx hi hSb
        have HO1 : Hid (Only (fun b => b = wb) w ((w.setCell ⟨wb, 1, none⟩ (.int .i64 ((nx : Int) + 1))).alloc (.cells #[.slice ap np cp, .slice ax nk cx, .slice ai ni ci] 106))) := (only_set (R := fun b => b = wb) rfl _).trans (only_alloc _ _ _)
        have HWK : Hid (Bk ((w.setCell ⟨wb, 1, none⟩ (.int .i64 ((nx : Int) + 1))).alloc (.cells #[.slice ap np cp, .slice ax nk cx, .slice ai ni ci] 106)) wb 114 [.slice (some ⟨b, off, none⟩) nn cn, .int .i64 ((nx + 1 : Nat) : Int)]) := by
          show Bk _ _ _ _
          exact (HW.out.set 1 (.int .i64 ((nx : Int) + 1))).alloc _
        have HN1 := hid (HN.out.to HO1.out (fun y hy _ e => HWB.out (e ▸ hy)))
        have HP1 := hid (HP.out.to HO1.out (fun y hy _ e => HWB.out (e ▸ hy)))
        have HX1 := hid (HX.out.to HO1.out (fun y hy _ e => HWB.out (e ▸ hy)))
        have HI1 := hid (HI.out.to HO1.out (fun y hy _ e => HWB.out (e ▸ hy)))
        go_enter Try.func74, Try.ntmps74
        by_cases hk : ni = 0
        · have HR : Hid (rdI ns (f + 1) nx nx = (leafT (nAt ns nx) (decide ((nx : Int) = 0))).map (fun t => (t, nx + 1))) := rdI_leaf HL.out (by rw [← li.out]; exact hk)
          have HD : Hid (∀ r : Bool, r = decide ((nx : Int) = 0) → leafT (nAt ns nx) r = leafT (nAt ns nx) (decide ((nx : Int) = 0))) := by rintro _ rfl; rfl
          clear li
          subst hk
          go_wp2_with fail
          refine (readLeaf_any S ap ax ai np cp nk cx 0 ci (nAt ns nx) _ _ HP1.out HX1.out).mono ?_
          rintro e w2 ⟨hpost, hb2⟩
          obtain ⟨p, he⟩ := hpost.ret
          subst he
          have HPOST : Hid (ReadPost ((leafT (nAt ns nx) (decide ((nx : Int) = 0))).map (fun t => (t, nx + 1))) w wb (.slice (some ⟨b, off, none⟩) nn cn) (.returned (.pointer p)) w2) := by
            refine read_post_leaf (w := w) ?_ HO1.out.size (HWK.out.below hb2)
            rw [HD.out _ ?_] at hpost
            · exact hpost
            · by_cases h0 : nx = 0
              · subst h0; rfl
              · simp [h0]
          have HO2 := hid (HO1.out.trans (only_of_below hb2 _))
          clear hpost hb2 HD
          go_wp2
          go_ret
          exact ⟨by rw [HR.out]; exact HPOST.out, HO2.out⟩
        · have HR : Hid (rdI ns (f + 1) nx nx = brT ns f (nAt ns nx) (nx + 1)) := rdI_br HL.out (by rw [← li.out]; exact hk)
          have hk' : ((ni : Int) == 0) = false := by simp; omega
          clear hk
          go_wp2_with fail
          refine (readBranch_any ns f HIH.out S wb (some ⟨b, off, none⟩) nn cn ap ax ai np cp nk cx ni ci (nAt ns nx) (nx + 1) _ HWK.out HN1.out HWB.out HLEN.out HL.out (by have := HF.out; omega) HP1.out HX1.out HI1.out).mono ?_
          rintro e w2 ⟨hpost, ho2⟩
          obtain ⟨p, he⟩ := hpost.ret
          subst he
          have HPOST := hid (hpost.mono (w := w) HO1.out.size)
          have HO2 := hid (HO1.out.trans ho2)
          clear hpost ho2
          go_wp2
          go_ret
          exact ⟨by rw [HR.out]; exact HPOST.out, HO2.out⟩
    · have e1 : (pl != (nx : Int)) = true := by simp [hp]
      have HR : Hid (rdI ns (f + 1) pl nx = none) := rdI_no (.inl hp)
      clear hW hN hp
      go_enter Try.func74, Try.ntmps74
      go_wp2
      go_ret
      exact ⟨by rw [HR.out]; rfl, Only.refl _ _⟩
end Go.Proofs.Ytkflneeifllpgaa
/-
  rootOf: the right tree, or nil.
-/
namespace Go.Proofs.Ytkflneeifllpgaa
open Go.RowKit
mutual
theorem full_all_le : ∀ (t : T) (r : Bool), t.full r = true → t.all.length ≤ 4 * t.size
  | .mk ps ks, r, h => by
    by_cases hk : ks = []
    · subst hk
      have := full_lf h
      simp [T.size, szL, T.all, allL]
      omega
    · obtain ⟨h1, h2, rfl, h3⟩ := full_br h hk
      have := fullL_all_le ks h3
      simp [T.size, T.all]
      omega
theorem fullL_all_le : ∀ (ks : List T), (∀ k ∈ ks, k.full false = true) → (allL ks).length ≤ 4 * szL ks
  | [], _ => by simp [szL, allL]
  | k :: ks, h => by
    have h1 := full_all_le k false (h k (by simp))
    have h2 := fullL_all_le ks (fun x hx => h x (by simp [hx]))
    simp [szL, allL]
    omega
end
set_option maxHeartbeats 8000000 in
theorem rootOf_any (S : Nat → Prop) (an : Option Addr) (nn cn : Nat) (ns : List NB) (w : World) (hN : Nr w S (.slice an nn cn) ns) :
    Calls Try.prog 32 #[.agg #[.slice an nn cn]] w fun e w' => LimbOr (okT ns) w e w' ∧ Below w.heap.size w w' := by
  have hnn := hid hN.len.1
  have h1 := hN.len.2.1
  have h2 := hN.len.2.2
  have HN : Hid (Nr w (fun y => y < w.heap.size) (.slice an nn cn) ns) := hN.mono (fun b _ h => h)
  clear hN
  have HB0 := hid (below_new (o := .cells #[.slice an nn cn] 25) (w := w) (Below.refl _ _))
  by_cases a1 : nn = 0
  · have HR : Hid (okT ns = some (.mk [] [])) := by show _ = _; rw [okT, if_pos]; rw [← hnn.out]; exact a1
    have HL : Hid (Limb ((w.alloc (.cells #[.slice an nn cn] 25)).alloc (.cells #[.slice none 0 0, .slice none 0 0] 112)) (fun y => w.heap.size ≤ y ∧ y < ((w.alloc (.cells #[.slice an nn cn] 25)).alloc (.cells #[.slice none 0 0, .slice none 0 0] 112)).heap.size) (w.heap.size + 1) (.mk [] [])) := by
      have hk := Bk.new (w.alloc (.cells #[.slice an nn cn] 25)) 112 [.slice none 0 0, .slice none 0 0]
      refine limb_leaf (lo := w.heap.size) (by simpa using hk) (by omega) (ow_nil _ _) (by simp [Value.ownBlock]) _ (fun y h1 h2 => ⟨h1, h2⟩)
    clear hnn HN
    subst a1
    go_enter Try.func32, Try.ntmps32
    go_wp2
    go_ret
    refine ⟨?_, below_new (below_new (Below.refl _ _))⟩
    rw [HR.out]
    exact ⟨_, rfl, HL.out⟩
  · have e1 : ((nn : Int) == 0) = false := by simp; omega
    by_cases a2 : 400 ≤ nn
    · have e2 : (400 : Int) ≤ (nn : Int) := by omega
      have HR : Hid (okT ns = none) := by show _ = _; rw [okT, if_neg, if_pos] <;> rw [← hnn.out] <;> omega
      clear a1 a2
      go_enter Try.func32, Try.ntmps32
      go_wp2
      go_ret
      refine ⟨?_, HB0.out⟩
      rw [HR.out]
      rfl
    · have e2 : ¬ (400 : Int) ≤ (nn : Int) := by omega
      have HLEN : Hid (ns.length < 400) := by show _ < _; rw [← hnn.out]; omega
      have HB1 : Hid (Below w.heap.size w ((w.alloc (.cells #[.slice an nn cn] 25)).alloc (.cells #[.slice an nn cn, .int .i64 0] 114))) := below_new (below_new (Below.refl _ _))
      have KW : Hid (Bk ((w.alloc (.cells #[.slice an nn cn] 25)).alloc (.cells #[.slice an nn cn, .int .i64 0] 114)) (w.heap.size + 1) 114 [.slice an nn cn, .int .i64 (0 : Nat)]) := by
        have hk := Bk.new (w.alloc (.cells #[.slice an nn cn] 25)) 114 [.slice an nn cn, .int .i64 0]
        show Bk _ _ _ _
        simpa using hk
      have KT : Hid (Bk ((w.alloc (.cells #[.slice an nn cn] 25)).alloc (.cells #[.slice an nn cn, .int .i64 0] 114)) w.heap.size 25 [.slice an nn cn]) := (Bk.new w 25 [.slice an nn cn]).alloc _
      have HZ : Hid (((w.alloc (.cells #[.slice an nn cn] 25)).alloc (.cells #[.slice an nn cn, .int .i64 0] 114)).heap.size = w.heap.size + 2) := by show _ = _; simp
      clear a2
      go_enter Try.func32, Try.ntmps32
      go_wp2_with fail
      refine (read_any ns ns.length (fun y => y < w.heap.size) (w.heap.size + 1) an nn cn 0 0 _ KW.out (HN.out.below HB1.out) (by omega) HLEN.out (Nat.zero_le _) (by omega)).mono ?_
      generalize (w.alloc (.cells #[.slice an nn cn] 25)).alloc (.cells #[.slice an nn cn, .int .i64 0] 114) = W at *
      rintro e w1 ⟨hpost, ho1⟩
      cases hr : rdI ns ns.length 0 0 with
      | none =>
        rw [hr] at hpost
        have he : e = .returned (.pointer none) := hpost
        subst he
        have HR : Hid (okT ns = none) := by
          show _ = _
          rw [okT, if_neg (by rw [← hnn.out]; exact a1), if_neg (by have := HLEN.out; omega), hr]
        have KT1 := hid (KT.out.to ho1 (by omega))
        have HB2 : Hid (Below w.heap.size w w1) := HB1.out.trans (ho1.below (by have := HZ.out; omega) (fun b hb e => by omega))
        clear hpost ho1
        go_wp2
        go_ret
        exact ⟨by rw [HR.out]; rfl, HB2.out⟩
      | some tn =>
        obtain ⟨t, n1⟩ := tn
        rw [hr] at hpost
        obtain ⟨b, he, hL, hW⟩ := hpost
        subst he
        have KT1 := hid (KT.out.to ho1 (by omega))
        have HB2 : Hid (Below w.heap.size w w1) := HB1.out.trans (ho1.below (by have := HZ.out; omega) (fun b hb e => by omega))
        have HL := hid hL
        have KW1 := hid hW
        have HRI := hid (rdI_rdy hr (by have := HLEN.out; omega))
        have HAL : Hid (t.all.length ≤ 1048576) := by
          show _ ≤ _
          obtain ⟨_, _, g3, _, g5, rfl⟩ := rdI_sound ns _ _ _ _ _ hr
          have g6 := full_all_le t _ g3
          have g7 := HRI.out.2.1
          have := HLEN.out
          omega
        have HOT : Hid (okT ns = if n1 = ns.length ∧ pOk t.all = true then some t else none) := by
          show _ = _
          rw [okT, if_neg (by rw [← hnn.out]; exact a1), if_neg (by have := HLEN.out; omega), hr]
        have c0 := KT1.out.cell (j := 0) rfl
        have c1 := KW1.out.cell (j := 1) rfl
        clear hL hW ho1 hr
        by_cases hn1 : n1 = nn
        · have e3 : ((n1 : Int) != (nn : Int)) = false := by simp [hn1]
          have HN1 := hid hn1
          clear hn1
          go_wp2_with fail
          refine (all_any t (fun y => W.heap.size ≤ y ∧ y < w1.heap.size) b w1 w1.heap.size (.slice none 0 0) [] HL.out (fun y hy => hy.2) (Nat.le_refl _) (ow_nil _ _) (by have := HAL.out; simp; omega)).mono ?_
          rintro e w2 ⟨v2, rfl, hO2, hb2⟩
          rw [List.nil_append] at hO2
          have HO2 := hid hO2
          have HB3 : Hid (Below w.heap.size w w2) := HB2.out.trans (hb2.mono HB2.out.size)
          have HL2 := hid (HL.out.kept hb2)
          have HSZ2 := hid hb2.size
          obtain ⟨a2, n2, cc2, hv2, HN2⟩ := hO2.shape'
          subst hv2
          clear hO2 hb2
          go_wp2_with fail
          refine (implPairsOk_any (fun _ => True) _ t.all w2 (HO2.out.pr (fun _ _ _ _ => trivial))).mono ?_
          rintro e w3 ⟨rfl, hb3⟩
          have HB4 : Hid (Below w.heap.size w w3) := HB3.out.trans (hb3.mono HB3.out.size)
          have HL3 : Hid (Limb w3 (fun y => w.heap.size ≤ y ∧ y < w3.heap.size) b t) := by
            refine (HL2.out.kept hb3).mono (fun y hy => ⟨?_, ?_⟩)
            · have := HZ.out; have := hy.1; omega
            · have := HSZ2.out; have := hb3.size; have := hy.2; omega
          clear hb3
          cases hpk : pOk t.all
          · have HR : Hid (okT ns = none) := by show _ = _; rw [HOT.out, if_neg]; rw [hpk]; simp
            clear HOT hpk
            go_wp2
            go_ret
            exact ⟨by rw [HR.out]; rfl, HB4.out⟩
          · have HR : Hid (okT ns = some t) := by show _ = _; rw [HOT.out, if_pos]; exact ⟨by rw [HN1.out, hnn.out], hpk⟩
            clear HOT hpk
            go_wp2
            go_ret
            exact ⟨by rw [HR.out]; exact ⟨_, rfl, HL3.out⟩, HB4.out⟩
        · have e3 : ((n1 : Int) != (nn : Int)) = true := by simp; omega
          have HR : Hid (okT ns = none) := by show _ = _; rw [HOT.out, if_neg]; rintro ⟨h, _⟩; exact hn1 (by rw [h, hnn.out])
          clear hn1 HOT
          go_wp2
          go_ret
          exact ⟨by rw [HR.out]; rfl, HB2.out⟩
end Go.Proofs.Ytkflneeifllpgaa
/-
  l03Read of the specification: it reads what the plain function reads.
-/
namespace Go.Proofs.Ytkflneeifllpgaa
open Go.RowKit
set_option maxHeartbeats 8000000 in
theorem specRead_any (ns : List NB) (hlen : ns.length ≤ 1048576) (hsm : smallN ns) : ∀ f : Nat, f ≤ 13 → ∀ (S : Nat → Prop) (an : Option Addr) (nn cn : Nat) (a d : Int) (w : World), Nr w S (.slice an nn cn) ns → d = 13 - (f : Int) →
    Calls Try.prog 84 #[.agg #[.slice an nn cn], .int .i64 a, .int .i64 d] w fun e w' => SubPost (rdS ns f a) w e w' ∧ Below w.heap.size w w' := by
  intro f
  induction f with
  | zero =>
    intro _ S an nn cn a d w hN hd
    have hd' : d = 13 := by omega
    have HR : Hid (rdS ns 0 a = none) := rfl
    clear hN hd
    subst hd'
    by_cases h1 : a < 0
    · go_enter Try.func84, Try.ntmps84
      go_wp2
      try simp only [Exit.inBlock, Exit.then]
      refine bodyPost_ret (v := .tuple #[.agg #[.bool false, .slice none 0 0, .slice none 0 0], .int .i64 0, .bool false]) ?_ rfl ?_
      · refine results_sub3 rfl _ _ _ rfl rfl rfl ?_ ?_ ?_
        · go_simp
        · go_simp
        · go_simp
      · exact ⟨by rw [HR.out]; rfl, below_new (below_new (Below.refl _ _))⟩
    · by_cases h2 : (nn : Int) ≤ a
      · go_enter Try.func84, Try.ntmps84
        go_wp2
        try simp only [Exit.inBlock, Exit.then]
        refine bodyPost_ret (v := .tuple #[.agg #[.bool false, .slice none 0 0, .slice none 0 0], .int .i64 0, .bool false]) ?_ rfl ?_
        · refine results_sub3 rfl _ _ _ rfl rfl rfl ?_ ?_ ?_
          · go_simp
          · go_simp
          · go_simp
        · exact ⟨by rw [HR.out]; rfl, below_new (below_new (Below.refl _ _))⟩
      · go_enter Try.func84, Try.ntmps84
        go_wp2
        try simp only [Exit.inBlock, Exit.then]
        refine bodyPost_ret (v := .tuple #[.agg #[.bool false, .slice none 0 0, .slice none 0 0], .int .i64 0, .bool false]) ?_ rfl ?_
        · refine results_sub3 rfl _ _ _ rfl rfl rfl ?_ ?_ ?_
          · go_simp
          · go_simp
          · go_simp
        · exact ⟨by rw [HR.out]; rfl, below_new (below_new (Below.refl _ _))⟩
  | succ f ih =>
    intro hf13 S an nn cn a d w hN hd
    have hnn := hid hN.len.1
    have hnn2 := hN.len.2.1
    have hnn3 := hN.len.2.2
    by_cases h1 : a < 0
    · have HR : Hid (rdS ns (f + 1) a = none) := by show _ = _; rw [rdS, if_pos (.inl h1)]
      clear hN hd
      go_enter Try.func84, Try.ntmps84
      go_wp2
      try simp only [Exit.inBlock, Exit.then]
      refine bodyPost_ret (v := .tuple #[.agg #[.bool false, .slice none 0 0, .slice none 0 0], .int .i64 0, .bool false]) ?_ rfl ?_
      · refine results_sub3 rfl _ _ _ rfl rfl rfl ?_ ?_ ?_
        · go_simp
        · go_simp
        · go_simp
      · exact ⟨by rw [HR.out]; rfl, below_new (below_new (Below.refl _ _))⟩
    · by_cases h2 : (nn : Int) ≤ a
      · have HR : Hid (rdS ns (f + 1) a = none) := by show _ = _; rw [rdS, if_pos (.inr (by rw [← hnn.out]; exact h2))]
        clear hN hd
        go_enter Try.func84, Try.ntmps84
        go_wp2
        try simp only [Exit.inBlock, Exit.then]
        refine bodyPost_ret (v := .tuple #[.agg #[.bool false, .slice none 0 0, .slice none 0 0], .int .i64 0, .bool false]) ?_ rfl ?_
        · refine results_sub3 rfl _ _ _ rfl rfl rfl ?_ ?_ ?_
          · go_simp
          · go_simp
          · go_simp
        · exact ⟨by rw [HR.out]; rfl, below_new (below_new (Below.refl _ _))⟩
      · obtain ⟨p, hp⟩ : ∃ p : Nat, a = p := ⟨a.toNat, by omega⟩
        subst hp
        have hd12 : d ≤ 12 := by omega
        have hd0 : 0 ≤ d := by omega
        have HD := hid hd
        have hpn : p < nn := by omega
        have hpn' : (p : Int) < (nn : Int) := by omega
        have HN := hid hN
        have HIH := hid ih
        have hlen2 : nn ≤ 1048576 := by rw [hnn.out]; exact hlen
        clear hN hd ih
        obtain ⟨b, off, han, hSb, hbw, hcell⟩ := HN.out.at (by omega)
        subst han
        obtain ⟨ap, np, cp, ax, nk, cx, ai, ni, ci, d0, d1, d2, hp, hx, hi⟩ := hcell p hpn
        have lp := hid (Rw.len hp).1
        have li := hid (Rw.len hi).1
        have HP := hid hp
        have HI := hid hi
        have b5 := (Rw.len hi).2.1
        have b6 := (Rw.len hi).2.2
        obtain ⟨s1, _, _⟩ := hsm p (by rw [← hnn.out]; exact hpn)
        have hnp : np ≤ 1048576 := by rw [lp.out]; exact s1
        have hni : ni ≤ 1048576 := by rw [li.out]; exact (hsm p (by rw [← hnn.out]; exact hpn)).2.2
        have HR0 : Hid (rdS ns (f + 1) (p : Int) = match rdSL (rdS ns f) (nAt ns p).kids (p + 1) with
            | none => none
            | some (ts, n) => some (.mk (nAt ns p).ps ts, n)) := by
          show _ = _
          rw [rdS, if_neg (by rw [← hnn.out]; omega)]
          rfl
        clear hcell hp hx hi s1
        generalize hX : nAt ns p = x at *
        clear hX
        have HBU : Hid (Below w.heap.size w (((w.alloc (.cells #[.slice (some ⟨b, off, none⟩) nn cn] 25)).alloc (.cells #[.bool false, .slice none 0 0, .slice none 0 0] 74)).alloc (.cells #[.slice ap np cp, .slice ax nk cx, .slice ai ni ci] 106))) := below_new (below_new (below_new (Below.refl _ _)))
        have KT : Hid (Bk (((w.alloc (.cells #[.slice (some ⟨b, off, none⟩) nn cn] 25)).alloc (.cells #[.bool false, .slice none 0 0, .slice none 0 0] 74)).alloc (.cells #[.slice ap np cp, .slice ax nk cx, .slice ai ni ci] 106)) w.heap.size 25 [.slice (some ⟨b, off, none⟩) nn cn]) := ((Bk.new w 25 [.slice (some ⟨b, off, none⟩) nn cn]).alloc _).alloc _
        have KR : Hid (Bk (((w.alloc (.cells #[.slice (some ⟨b, off, none⟩) nn cn] 25)).alloc (.cells #[.bool false, .slice none 0 0, .slice none 0 0] 74)).alloc (.cells #[.slice ap np cp, .slice ax nk cx, .slice ai ni ci] 106)) (w.heap.size + 1) 74 [.bool false, .slice none 0 0, .slice none 0 0]) := by
          have := (Bk.new (w.alloc (.cells #[.slice (some ⟨b, off, none⟩) nn cn] 25)) 74 [.bool false, .slice none 0 0, .slice none 0 0]).alloc (.cells #[.slice ap np cp, .slice ax nk cx, .slice ai ni ci] 106)
          show Bk _ _ _ _
          simpa using this
        have KN : Hid (Bk (((w.alloc (.cells #[.slice (some ⟨b, off, none⟩) nn cn] 25)).alloc (.cells #[.bool false, .slice none 0 0, .slice none 0 0] 74)).alloc (.cells #[.slice ap np cp, .slice ax nk cx, .slice ai ni ci] 106)) (w.heap.size + 1 + 1) 106 [.slice ap np cp, .slice ax nk cx, .slice ai ni ci]) := by
          have := Bk.new ((w.alloc (.cells #[.slice (some ⟨b, off, none⟩) nn cn] 25)).alloc (.cells #[.bool false, .slice none 0 0, .slice none 0 0] 74)) 106 [.slice ap np cp, .slice ax nk cx, .slice ai ni ci]
          show Bk _ _ _ _
          simpa using this
        have HZ : Hid ((((w.alloc (.cells #[.slice (some ⟨b, off, none⟩) nn cn] 25)).alloc (.cells #[.bool false, .slice none 0 0, .slice none 0 0] 74)).alloc (.cells #[.slice ap np cp, .slice ax nk cx, .slice ai ni ci] 106)).heap.size = w.heap.size + 3) := by show _ = _; simp
        go_enter Try.func84, Try.ntmps84
        have c0 := KN.out.cell (j := 0) rfl
        have c2 := KN.out.cell (j := 2) rfl
        have T0 := hid (kc0_2 c0 c2)
        have HXL : Hid (x.ps.length ≤ 1048576) := by show _ ≤ _; rw [← lp.out]; exact hnp
        have HSRC : Hid (∀ v, KC (((w.alloc (.cells #[.slice (some ⟨b, off, none⟩) nn cn] 25)).alloc (.cells #[.bool false, .slice none 0 0, .slice none 0 0] 74)).alloc (.cells #[.slice ap np cp, .slice ax nk cx, .slice ai ni ci] 106)) v [(⟨w.heap.size + 1 + 1, 0, none⟩, .slice ap np cp), (⟨w.heap.size + 1 + 1, 2, none⟩, .slice ai ni ci)] → Pr v S (.slice ap np cp) x.ps) := fun v hv => (HP.out.below HBU.out).below hv.bel
        have hlf : ((ni : Int) == 0) = decide (ni = 0) := by
          by_cases h : ni = 0
          · subst h; rfl
          · simp [h]
        generalize hLF : decide (ni = 0) = lf at *
        go_wp2_with fail
        generalize (((w.alloc (.cells #[.slice (some ⟨b, off, none⟩) nn cn] 25)).alloc (.cells #[.bool false, .slice none 0 0, .slice none 0 0] 74)).alloc (.cells #[.slice ap np cp, .slice ax nk cx, .slice ai ni ci] 106)) = U at *
        have k1 : (U.alloc (.cells #[] 35)).drew.heap[U.heap.size]? = some (.cells #[] 35 (0, 0)) := heap_alloc_new U _
        have k2 : ((U.alloc (.cells #[.bool false, .slice none 0 0, .slice none 0 0] 74)).alloc (.cells #[] 35)).drew.heap[U.heap.size + 1]? = some (.cells #[] 35 (0, 0)) := by
          have := heap_alloc_new (U.alloc (.cells #[.bool false, .slice none 0 0, .slice none 0 0] 74)) (.cells #[] 35)
          have e : (U.alloc (.cells #[.bool false, .slice none 0 0, .slice none 0 0] 74)).heap.size = U.heap.size + 1 := by simp
          rw [e] at this
          exact this
        have k3 : ((U.alloc (.cells #[] 35)).alloc (.cells #[.bool false, .slice none 0 0, .slice none 0 0] 74)).drew.heap[U.heap.size]? = some (.cells #[] 35 (0, 0)) := (Below.heap_alloc _ _ _ (by simp)).trans (heap_alloc_new U _)
        have k4 : Hid (((U.alloc (.cells #[] 35)).alloc (.cells #[.bool false, .slice none 0 0, .slice none 0 0] 74)).drew.heap[U.heap.size + 1]? = some (.cells #[.bool false, .slice none 0 0, .slice none 0 0] 74 (0, 0))) := by
          have := heap_alloc_new (U.alloc (.cells #[] 35)) (.cells #[.bool false, .slice none 0 0, .slice none 0 0] 74)
          have e : (U.alloc (.cells #[] 35)).heap.size = U.heap.size + 1 := by simp
          rw [e] at this
          exact this
        have k5 : Hid (((U.alloc (.cells #[.bool false, .slice none 0 0, .slice none 0 0] 74)).alloc (.cells #[] 35)).drew.heap[U.heap.size]? = some (.cells #[.bool false, .slice none 0 0, .slice none 0 0] 74 (0, 0))) := (Below.heap_alloc _ _ _ (by simp)).trans (heap_alloc_new U _)
        go_cut [10] (fun q v => ∃ (sb bs : Nat) (pv : Value), q = .pointer (some ⟨sb, 0, none⟩) ∧ Below U.heap.size U v ∧ U.heap.size ≤ sb ∧ sb < bs ∧ bs ≤ v.heap.size ∧ Bk v sb 74 [.bool lf, pv, .slice none 0 0] ∧ Pr v (fun y => U.heap.size ≤ y ∧ y < bs ∧ y ≠ sb) pv x.ps)
        case first =>
          go_region_held3 (fun v => v.cell? ⟨w.heap.size + 1 + 1, 0, none⟩ = some (.slice ap np cp) ∧ v.cell? ⟨w.heap.size + 1 + 1, 2, none⟩ = some (.slice ai ni ci) ∧ KC U v [(⟨w.heap.size + 1 + 1, 0, none⟩, .slice ap np cp), (⟨w.heap.size + 1 + 1, 2, none⟩, .slice ai ni ci)])
            (first | assumption | exact kc2 (T0.out.call (below_drew _)) | exact kc2c (below_new (Below.refl _ _)) (by assumption) | exact kc2g hg2 (by intro k e; cases e; simp) (by assumption) | exact kc2w (Nat.le_trans (by simp) hg2.size) (by assumption) | exact kc2s (by simp) (by assumption))
            (first
              | (refine step_clone rfl _ _ rfl U.heap.size _ rfl (by assumption) (by simp) S _ x.ps rfl (HSRC.out _ (And.right (And.right (by assumption)))) (Nat.le_trans HXL.out (by decide)) ?_; intro a2 n2 c2 w2 hO2 hg2 hat2 hc2 hf2))
          all_goals (go_wp2_with fail; go_meet; first
            | exact ⟨_, _, _, rfl, meet_new (W := (U.alloc (.cells #[] 35)).drew) ((below_new (Below.refl _ _)).drew) (by simp) hO2 hg2 (Nat.le_refl _)⟩
            | exact ⟨_, _, _, rfl, meet_set (W := ((U.alloc (.cells #[] 35)).alloc (.cells #[.bool false, .slice none 0 0, .slice none 0 0] 74)).drew) ((below_new (below_new (Below.refl _ _))).drew) (by simp; omega) hO2 hg2 (by simpa using hat2) k4.out (by omega) (by omega) (Nat.le_refl _)⟩
            | exact ⟨_, _, _, rfl, meet_set (W := ((U.alloc (.cells #[.bool false, .slice none 0 0, .slice none 0 0] 74)).alloc (.cells #[] 35)).drew) ((below_new (below_new (Below.refl _ _))).drew) (by simp; omega) hO2 hg2 (by simpa using hat2) k5.out (by omega) (Nat.le_refl _) (by omega)⟩)
        case rest =>
          rename_i q
          obtain ⟨sb, bs, pv, hq, hbel, hsb, hsb2, hbs, hBK, hPR⟩ := hcut
          subst hq
          obtain ⟨a3, c3, hpv, _⟩ := hPR.shape
          generalize hl3 : x.ps.length = n3 at hpv
          have HL3 := hid hl3
          clear hl3
          subst hpv
          have HZ' := HZ.out
          have HS0 : Hid (SpI w wc sb bs lf (.slice (some ⟨b, off, none⟩) nn cn) (.slice a3 n3 c3) x.ps [] (.slice none 0 0) (fun _ => false) (fun _ => .slice none 0 0) (fun _ => .slice none 0 0)) :=
            ⟨⟨by omega, hsb2⟩, hbs, KT.out.below hbel, KR.out.below hbel, hBK, Rw.mono hPR (fun y hy _ => ⟨by omega, hy.2⟩), World.ownsRow_nil _ _ _ _, fun i hi => by (simp at hi), HBU.out.trans (hbel.mono HBU.out.size)⟩
          have HNB := hid (KN.out.below hbel)
          have c2' := HNB.out.cell (j := 2) rfl
          clear hbel hsb hsb2 hbs hBK hPR c0 c2 T0 HSRC k1 k2 k3 k4 k5 KT KR KN HZ' hlf
          go_wp2_with fail
          go_loopw [11, 50] (fun y i wr => ∃ (ts : List T) (nx : Nat) (kv : Value) (L : Nat → Bool) (P K : Nat → Value), i = .int .i64 (ts.length : Int) ∧ y = .int .i64 (nx : Int) ∧ Hid (ts.length ≤ ni) ∧ Hid (SpI w wr sb bs lf (.slice (some ⟨b, off, none⟩) nn cn) (.slice a3 n3 c3) x.ps ts kv L P K) ∧ Hid (rdJ (rdS ns f) ts (x.kids.drop ts.length) nx = rdSL (rdS ns f) x.kids (p + 1))) (fun _ i _ => ni - (intOf i).toNat)
          case atStart => exact ⟨[], p + 1, _, _, _, _, rfl, by go_num, Nat.zero_le _, HS0.out, by show _ = _; rw [rdJ_nil]; rfl⟩
          case round =>
            obtain ⟨ts, nx, kv, L, P, K, rfl, rfl, HTL, HSP, HRD⟩ := hrel
            generalize hk : ts.length = k at *
            have HKL := hid hk
            clear hk
            have HBL := hid HSP.out.bel
            have r0 := HSP.out.res.cell (j := 0) rfl
            have r1 := HSP.out.res.cell (j := 1) rfl
            have r2 := HSP.out.res.cell (j := 2) rfl
            have q0 := HSP.out.res.free 0
            have q1 := HSP.out.res.free 1
            have q2 := HSP.out.res.free 2
            by_cases hlt : k < ni
            · have hlt' : (k : Int) < (ni : Int) := by omega
              obtain ⟨bi, offi, hai, _, _, hci⟩ := (HI.out.below HBL.out).at (by omega)
              subst hai
              have hck := hci k hlt
              have HKD : Hid (x.kids.drop k = iAt x.kids k :: x.kids.drop (k + 1)) := by
                show _ = _
                have hl : k < x.kids.length := by rw [← li.out]; exact hlt
                rw [List.drop_eq_getElem_cons hl]
                simp [iAt, hl]
              clear hci
              generalize hkd : iAt x.kids k = kd at hck HKD
              clear hkd
              by_cases hne : kd = (nx : Int)
              · have e1 : (kd != (nx : Int)) = false := by simp [hne]
                have HEQ := hid hne
                clear hne
                have t0 := HSP.out.tre.cell (j := 0) rfl
                have HNr := hid (HN.out.below HBL.out)
                have hw1 : IntKind.i64.wrap (d + 1) = d + 1 := by rw [IntKind.wrap_i64]; omega
                go_wp2_with fail
                refine (HIH.out (by omega) S (some ⟨b, off, none⟩) nn cn kd (d + 1) wr HNr.out (by have := HD.out; omega)).mono ?_
                rintro e w1 ⟨hpost, hb1⟩
                have HSP1 := hid (HSP.out.keep hb1)
                cases hr : rdS ns f kd with
                | none =>
                  rw [hr] at hpost
                  have he : e = .returned (.tuple #[.agg #[.bool false, .slice none 0 0, .slice none 0 0], .int .i64 0, .bool false]) := hpost
                  subst he
                  have HR : Hid (rdS ns (f + 1) (p : Int) = none) := by
                    show _ = _
                    have h1 := HRD.out
                    rw [HKD.out, rdJ_no _ _ _ _ _ (.inr hr)] at h1
                    rw [HR0.out, ← h1]
                  have HSP2 := hid (HSP1.out.keep (below_new (o := .cells #[.bool false, .slice none 0 0, .slice none 0 0] 74) (Below.refl _ _)))
                  clear hpost hb1 hr r0 r1 r2 q0 q1 q2 t0 HSP HSP1 HBL
                  have HBL := hid HSP2.out.bel
                  have r0 := HSP2.out.res.cell (j := 0) rfl
                  have r1 := HSP2.out.res.cell (j := 1) rfl
                  have r2 := HSP2.out.res.cell (j := 2) rfl
                  have q0 := HSP2.out.res.free 0
                  have q1 := HSP2.out.res.free 1
                  have q2 := HSP2.out.res.free 2
                  have HR' := HR
                  go_wp2
                  try simp only [Exit.inBlock, Exit.then]
                  refine bodyPost_ret (v := .tuple #[.agg #[.bool false, .slice none 0 0, .slice none 0 0], .int .i64 0, .bool false]) ?_ rfl ?_
                  · refine results_sub3 rfl _ _ _ rfl rfl rfl ?_ ?_ ?_
                    · go_simp
                    · go_simp
                    · go_simp
                  · exact ⟨by rw [HR.out]; rfl, ((HBL.out.setCell (by show w.heap.size ≤ w.heap.size + 1; omega) _).setCell (by show w.heap.size ≤ w.heap.size + 1; omega) _).setCell (by show w.heap.size ≤ w.heap.size + 1; omega) _⟩
                | some tn =>
                  obtain ⟨t, n1⟩ := tn
                  rw [hr] at hpost
                  obtain ⟨l1, ap1, np1, cp1, ak1, nk1, ck1, he, hsub⟩ := hpost
                  subst he
                  have HSP2 := hid (HSP1.out.keep (below_new (o := .cells #[.bool l1, .slice ap1 np1 cp1, .slice ak1 nk1 ck1] 74) (Below.refl _ _)))
                  have HSP3 := hid (HSP2.out.keep (below_new (o := .cells #[.bool l1, .slice ap1 np1 cp1, .slice ak1 nk1 ck1] 74) (Below.refl _ _)))
                  have HSB : Hid (Sub ((w1.alloc (.cells #[.bool l1, .slice ap1 np1 cp1, .slice ak1 nk1 ck1] 74)).alloc (.cells #[.bool l1, .slice ap1 np1 cp1, .slice ak1 nk1 ck1] 74)) (fun y => bs ≤ y ∧ y < ((w1.alloc (.cells #[.bool l1, .slice ap1 np1 cp1, .slice ak1 nk1 ck1] 74)).alloc (.cells #[.bool l1, .slice ap1 np1 cp1, .slice ak1 nk1 ck1] 74)).heap.size ∧ kv.ownBlock ≠ some y) l1 (.slice ap1 np1 cp1) (.slice ak1 nk1 ck1) t) := by
                    refine ((hsub.kept (below_new (Below.refl _ _))).kept (below_new (Below.refl _ _))).mono (fun y hy hlt => ⟨?_, hlt, fun e => ?_⟩)
                    · have := HSP.out.hi; have := hy.1; omega
                    · have := (World.ownsRow.lt HSP.out.row y e).2; have := hy.1; omega
                  have HBN : Hid (Bk ((w1.alloc (.cells #[.bool l1, .slice ap1 np1 cp1, .slice ak1 nk1 ck1] 74)).alloc (.cells #[.bool l1, .slice ap1 np1 cp1, .slice ak1 nk1 ck1] 74)) (w1.heap.size + 1) 74 [.bool l1, .slice ap1 np1 cp1, .slice ak1 nk1 ck1]) := by
                    have := Bk.new (w1.alloc (.cells #[.bool l1, .slice ap1 np1 cp1, .slice ak1 nk1 ck1] 74)) 74 [.bool l1, .slice ap1 np1 cp1, .slice ak1 nk1 ck1]
                    show Bk _ _ _ _
                    simpa using this
                  have HRD2 : Hid (rdJ (rdS ns f) (ts ++ [t]) (x.kids.drop (ts ++ [t]).length) n1 = rdSL (rdS ns f) x.kids (p + 1)) := by
                    show _ = _
                    rw [← HRD.out, HKD.out, rdJ_step _ _ _ _ _ _ _ HEQ.out hr, List.length_append, HKL.out]
                    rfl
                  have HTL2 : Hid ((ts ++ [t]).length = k + 1) := by show _ = _; rw [List.length_append, HKL.out]; rfl
                  obtain ⟨ak, ck, hkv⟩ := own_shape HSP3.out.row
                  rw [HKL.out] at hkv
                  subst hkv
                  have HOW : Hid (World.ownsRow ((w1.alloc (.cells #[.bool l1, .slice ap1 np1 cp1, .slice ak1 nk1 ck1] 74)).alloc (.cells #[.bool l1, .slice ap1 np1 cp1, .slice ak1 nk1 ck1] 74)) bs 74 3 (.slice ak k ck) k (ncs (mkV L P K k))) := by
                    have := HSP3.out.row
                    rw [HKL.out] at this
                    exact this
                  have hki : k ≤ 1048576 := by omega
                  have s2 := HSP2.out.sub.cell (j := 2) rfl
                  have HHI := hid HSP3.out.hi
                  clear hb1 hr r0 r1 r2 q0 q1 q2 t0 HSP HSP1 HSP2 HBL hsub HRD
                  go_wp2_with (at_builtin; refine wpList_append_sub rfl _ _ rfl bs _ k (mkV L P K k) rfl HOW.out (w1.heap.size + 1) l1 ap1 np1 cp1 ak1 nk1 ck1 rfl HBN.out hki HHI.out ?_)
                  intro v4 w4 hO4 hg4 ha4
                  obtain ⟨a4, c4, hv4⟩ := own_shape hO4
                  subst hv4
                  have HSP4 := hid (HSP3.out.push HSB.out (by rw [HKL.out]; exact hO4) hg4 (by simpa using ha4))
                  have K4 := HSP3.out.sub.to (only_of_grown (R := fun y => bs ≤ y) hg4 (fun y e => (World.ownsRow.lt HSP3.out.row y e).1)) (by have := HSP3.out.lo; omega)
                  have s4 := K4.cell (j := 2) rfl
                  have f4 := K4.free 2
                  clear hO4 hg4 ha4 K4 HOW HBN HSB HSP3 s2 HHI
                  go_wp2
                  go_roundw
                  case rel => exact ⟨ts ++ [t], n1, _, _, _, _, by rw [HTL2.out]; go_num, rfl, by show _ ≤ _; rw [HTL2.out]; omega, HSP4.out, HRD2.out⟩
                  case measure => simp [intOf]; omega
              · have e1 : (kd != (nx : Int)) = true := by simp [hne]
                have HR : Hid (rdS ns (f + 1) (p : Int) = none) := by
                  show _ = _
                  have h1 := HRD.out
                  rw [HKD.out, rdJ_no _ _ _ _ _ (.inl hne)] at h1
                  rw [HR0.out, ← h1]
                clear hne
                go_wp2
                try simp only [Exit.inBlock, Exit.then]
                refine bodyPost_ret (v := .tuple #[.agg #[.bool false, .slice none 0 0, .slice none 0 0], .int .i64 0, .bool false]) ?_ rfl ?_
                · refine results_sub3 rfl _ _ _ rfl rfl rfl ?_ ?_ ?_
                  · go_simp
                  · go_simp
                  · go_simp
                · exact ⟨by rw [HR.out]; rfl, ((HBL.out.setCell (by show w.heap.size ≤ w.heap.size + 1; omega) _).setCell (by show w.heap.size ≤ w.heap.size + 1; omega) _).setCell (by show w.heap.size ≤ w.heap.size + 1; omega) _⟩
            · have hk' : k = ni := by have := HTL.out; omega
              have HR : Hid (rdS ns (f + 1) (p : Int) = some (.mk x.ps ts, nx)) := by
                show _ = _
                have h1 := HRD.out
                rw [hk', li.out, List.drop_length, rdJ_end] at h1
                rw [HR0.out, ← h1]
              obtain ⟨ak, ck, hkv⟩ := own_shape HSP.out.row
              rw [HKL.out] at hkv
              subst hkv
              have HDN := hid (HSP.out.done (by rw [HKL.out, hk', hLF]))
              have s0 := HSP.out.sub.cell (j := 0) rfl
              have s1 := HSP.out.sub.cell (j := 1) rfl
              have s2 := HSP.out.sub.cell (j := 2) rfl
              have HWL : Hid (w.heap.size + 1 < wr.heap.size) := HSP.out.res.lt
              clear hk' HSP HRD hLF
              go_wp2
              try simp only [Exit.inBlock, Exit.then]
              refine bodyPost_ret (v := .tuple #[.agg #[.bool lf, .slice a3 n3 c3, .slice ak k ck], .int .i64 nx, .bool true]) ?_ rfl ?_
              · refine results_sub3 rfl _ _ _ rfl rfl rfl ?_ ?_ ?_
                · go_simp
                · go_simp
                · go_simp
              · refine ⟨?_, ((HBL.out.setCell (by show w.heap.size ≤ w.heap.size + 1; omega) _).setCell (by show w.heap.size ≤ w.heap.size + 1; omega) _).setCell (by show w.heap.size ≤ w.heap.size + 1; omega) _⟩
                rw [HR.out]
                refine ⟨lf, a3, n3, c3, ak, k, ck, rfl, ?_⟩
                have o : Only (fun y => y = w.heap.size + 1) wr (((wr.setCell ⟨w.heap.size + 1, 0, none⟩ (.bool lf)).setCell ⟨w.heap.size + 1, 1, none⟩ (.slice a3 n3 c3)).setCell ⟨w.heap.size + 1, 2, none⟩ (.slice ak k ck)) := ((only_set (R := fun y => y = w.heap.size + 1) rfl _).trans (only_set (R := fun y => y = w.heap.size + 1) rfl _)).trans (only_set (R := fun y => y = w.heap.size + 1) rfl _)
                exact (HDN.out.to o (fun y hy _ e => hy.2 e)).mono (fun y hy hlt => ⟨hy.1.1, hlt⟩)
end Go.Proofs.Ytkflneeifllpgaa
/-
  l03Root of the specification.
-/
namespace Go.Proofs.Ytkflneeifllpgaa
open Go.RowKit
theorem results_sub2 {fn : Func} {p u : Tmp} (h : fn.results = #[.cell p 74, .tmp u]) (tmps : Array Value) (w : World) (g : Nat) {x y z b : Value} (hp : tmps.getD p undef = .pointer (some ⟨g, 0, none⟩)) (hb : tmps.getD u undef = b)
    (c0 : w.cell? ⟨g, 0, none⟩ = some x) (c1 : w.cell? ⟨g, 1, none⟩ = some y) (c2 : w.cell? ⟨g, 2, none⟩ = some z) : (results fn tmps).run Try.prog w = .ok (.tuple #[.agg #[x, y, z], b]) w := by
  have hp' : tmps[p]?.getD undef = .pointer (some ⟨g, 0, none⟩) := by simpa using hp
  have hb' : tmps[u]?.getD undef = b := by simpa using hb
  simp [results, h, hp', hb', asAddr, load_sub c0 c1 c2]
theorem take_no {P : Program} {md : Region.Mode} {ops : Array Oper} {Q : Exit → Act → World → Prop} {S : World → Prop} {i : Nat} {oi : Oper} {fuel : Nat} {listed : Array Bool} {a : Act} {w : World} (hi : ops[i]? = some oi)
    (hs : Region.noSelect ops = true) (hf : Region.free md ops listed i = true) (hr : (Region.ready md ops listed).contains i = true)
    (hQ : ∀ c a w, Q (.panic c) (a.put oi.dst undef) w → Q (.panic c) a w) (hw : Region.wanted oi (yielded ops a.tmps) = false) (hS : S w)
    (h : wpAnyH P md ops Q S fuel (listed.setIfInBounds i true) (a.put oi.dst undef) w) : wpAnyH P md ops Q S (fuel + 1) listed a w :=
  wpAnyH_take hi hs hf hr hQ (Or.inr ⟨hw, rfl⟩) hS h
/-- What l03Root reads: the sub, where the nodes stand in the walk's order. -/
def rootS (ns : List NB) : Option T := if ns.length = 0 then some (.mk [] []) else match rdS ns 13 0 with
  | none => none
  | some (t, n) => if n = ns.length then some t else none
/-- What comes of l03Root. -/
def RootPost (o : Option T) (w : World) (e : Ending) (w' : World) : Prop := match o with
  | none => ∃ lf ap np cp ak nk ck, e = .returned (.tuple #[.agg #[.bool lf, .slice ap np cp, .slice ak nk ck], .bool false])
  | some t => ∃ lf ap np cp ak nk ck, e = .returned (.tuple #[.agg #[.bool lf, .slice ap np cp, .slice ak nk ck], .bool true]) ∧ Sub w' (fun y => w.heap.size ≤ y ∧ y < w'.heap.size) lf (.slice ap np cp) (.slice ak nk ck) t
set_option maxHeartbeats 4000000 in
theorem specRoot_any (ns : List NB) (hlen : ns.length ≤ 1048576) (hsm : smallN ns) (S : Nat → Prop) (an : Option Addr) (nn cn : Nat) (w : World) (hN : Nr w S (.slice an nn cn) ns) :
    Calls Try.prog 41 #[.agg #[.slice an nn cn]] w fun e w' => RootPost (rootS ns) w e w' ∧ Below w.heap.size w w' := by
  have hnn := hid hN.len.1
  have hnn2 := hN.len.2.1
  have hnn3 := hN.len.2.2
  have HN := hid hN
  clear hN
  by_cases h0 : nn = 0
  · have HR : Hid (rootS ns = some (.mk [] [])) := by show _ = _; rw [rootS, if_pos]; rw [← hnn.out]; exact h0
    clear HN hnn
    subst h0
    go_enter Try.func41, Try.ntmps41
    go_wp2
    try simp only [Exit.inBlock, Exit.then]
    refine bodyPost_ret (v := .tuple #[.agg #[.bool true, .slice none 0 0, .slice none 0 0], .bool true]) ?_ rfl ?_
    · refine results_sub2 rfl _ _ _ rfl rfl ?_ ?_ ?_
      · go_simp
      · go_simp
      · go_simp
    · refine ⟨?_, below_new (below_new (Below.refl _ _))⟩
      rw [HR.out]
      exact ⟨true, none, 0, 0, none, 0, 0, rfl, .mk true _ _ [] [] (fun _ => false) (fun _ => .slice none 0 0) (fun _ => .slice none 0 0) rfl (rw_nil _ _) (rw_nil _ _) (fun i hi => by simp at hi)⟩
  · have e1 : ((nn : Int) == 0) = false := by simp; omega
    have HRS : Hid (rootS ns = match rdS ns 13 0 with
        | none => none
        | some (t, n) => if n = ns.length then some t else none) := by show _ = _; rw [rootS, if_neg]; rw [← hnn.out]; exact h0
    have HB0 : Hid (Below w.heap.size w ((w.alloc (.cells #[.slice an nn cn] 25)).alloc (.cells #[.bool false, .slice none 0 0, .slice none 0 0] 74))) := below_new (below_new (Below.refl _ _))
    have KT : Hid (Bk ((w.alloc (.cells #[.slice an nn cn] 25)).alloc (.cells #[.bool false, .slice none 0 0, .slice none 0 0] 74)) w.heap.size 25 [.slice an nn cn]) := (Bk.new w 25 [.slice an nn cn]).alloc _
    have KR : Hid (Bk ((w.alloc (.cells #[.slice an nn cn] 25)).alloc (.cells #[.bool false, .slice none 0 0, .slice none 0 0] 74)) (w.heap.size + 1) 74 [.bool false, .slice none 0 0, .slice none 0 0]) := by
      have := Bk.new (w.alloc (.cells #[.slice an nn cn] 25)) 74 [.bool false, .slice none 0 0, .slice none 0 0]
      show Bk _ _ _ _
      simpa using this
    have HZ : Hid (((w.alloc (.cells #[.slice an nn cn] 25)).alloc (.cells #[.bool false, .slice none 0 0, .slice none 0 0] 74)).heap.size = w.heap.size + 2) := by show _ = _; simp
    clear h0
    go_enter Try.func41, Try.ntmps41
    go_wp2_with fail
    refine (specRead_any ns hlen hsm 13 (Nat.le_refl _) S an nn cn 0 0 _ (HN.out.below HB0.out) (by omega)).mono ?_
    generalize (w.alloc (.cells #[.slice an nn cn] 25)).alloc (.cells #[.bool false, .slice none 0 0, .slice none 0 0] 74) = U at *
    rintro e w1 ⟨hpost, hb1⟩
    have HB1 := hid (HB0.out.trans (hb1.mono HB0.out.size))
    have KT1 := hid (KT.out.below hb1)
    have KR1 := hid (KR.out.below hb1)
    have HU := hid hb1.size
    cases hr : rdS ns 13 0 with
    | none =>
      rw [hr] at hpost HRS
      have he : e = .returned (.tuple #[.agg #[.bool false, .slice none 0 0, .slice none 0 0], .int .i64 0, .bool false]) := hpost
      subst he
      have KT2 := hid (KT1.out.alloc (.cells #[.bool false, .slice none 0 0, .slice none 0 0] 74))
      have KR2 := hid (KR1.out.alloc (.cells #[.bool false, .slice none 0 0, .slice none 0 0] 74))
      have t0 := KT2.out.cell (j := 0) rfl
      have r0 := KR2.out.cell (j := 0) rfl
      have r1 := KR2.out.cell (j := 1) rfl
      have r2 := KR2.out.cell (j := 2) rfl
      have q0 := KR2.out.free 0
      have q1 := KR2.out.free 1
      have q2 := KR2.out.free 2
      clear hpost hb1 KT KR KT1 KR1 HB0
      have d0 := (Bk.new w1 74 [.bool false, .slice none 0 0, .slice none 0 0]).cell (j := 0) rfl
      have d1 := (Bk.new w1 74 [.bool false, .slice none 0 0, .slice none 0 0]).cell (j := 1) rfl
      have d2 := (Bk.new w1 74 [.bool false, .slice none 0 0, .slice none 0 0]).cell (j := 2) rfl
      have HB2 := hid ((HB1.out.alloc HB1.out.size (.cells #[.bool false, .slice none 0 0, .slice none 0 0] 74)).drew)
      have hne1 : ¬ w1.heap.size = w.heap.size + 1 := by have := HU.out; have := HZ.out; omega
      have hne2 : ¬ w.heap.size = w.heap.size + 1 := by omega
      clear hr
      go_wp2_with fail
      generalize w1.alloc (.cells #[.bool false, .slice none 0 0, .slice none 0 0] 74) = u at *
      have T0 : Hid (KO (fun y => y = w.heap.size + 1) u u [(⟨w1.heap.size, 0, none⟩, .bool false), (⟨w1.heap.size, 1, none⟩, .slice none 0 0), (⟨w1.heap.size, 2, none⟩, .slice none 0 0), (⟨w.heap.size, 0, none⟩, .slice an nn cn)]) := ⟨fun p hp => by simp at hp; rcases hp with rfl | rfl | rfl | rfl <;> exact ⟨by assumption, by assumption⟩, Only.refl _ _⟩
      refine wp_region_noPanic ?_
      refine wp_region_held_drew (S := (fun z => z.cell? ⟨w1.heap.size, 0, none⟩ = some (.bool false) ∧ z.cell? ⟨w1.heap.size, 1, none⟩ = some (.slice none 0 0) ∧ z.cell? ⟨w1.heap.size, 2, none⟩ = some (.slice none 0 0) ∧ z.cell? ⟨w.heap.size, 0, none⟩ = some (.slice an nn cn) ∧ KO (fun y => y = w.heap.size + 1) u z [(⟨w1.heap.size, 0, none⟩, .bool false), (⟨w1.heap.size, 1, none⟩, .slice none 0 0), (⟨w1.heap.size, 2, none⟩, .slice none 0 0), (⟨w.heap.size, 0, none⟩, .slice an nn cn)])) (by kernel_rfl) ?_ (fun hHeld => ?_)
      · exact ko4 ⟨T0.out.cells, only_drew _ _ 1⟩
      simp only [List.size_toArray, List.length_cons, List.length_nil, Array.replicate_succ, Array.replicate_zero, Nat.reduceAdd, List.push_toArray, List.nil_append, List.cons_append]
      refine wpAnyH_take (i := 0) (v := .agg #[.bool false, .slice none 0 0, .slice none 0 0]) rfl (by kernel_rfl) (by kernel_rfl) (by kernel_rfl) (fun _ _ _ h => h) (Or.inl ⟨by rfl, ?_⟩) (by assumption) ?_
      · intro w hSw
        obtain ⟨g1', g2', g3', g4', _⟩ := hSw
        go_simp
      try simp only [List.getElem_toArray]
      try simp only [List.getElem_cons_succ]
      try simp only [List.getElem_cons_zero]
      try simp only [Act.put]
      try simp only [List.setIfInBounds_toArray]
      try simp only [List.set_cons_succ]
      try simp only [List.set_cons_zero]
      refine wpAnyH_take (i := 1) (v := .bool false) rfl (by kernel_rfl) (by kernel_rfl) (by kernel_rfl) (fun _ _ _ h => h) (Or.inl ⟨by rfl, ?_⟩) (by assumption) ?_
      · intro w hSw
        obtain ⟨g1', g2', g3', g4', _⟩ := hSw
        go_simp
      try simp only [List.getElem_toArray]
      try simp only [List.getElem_cons_succ]
      try simp only [List.getElem_cons_zero]
      try simp only [Act.put]
      try simp only [List.setIfInBounds_toArray]
      try simp only [List.set_cons_succ]
      try simp only [List.set_cons_zero]
      refine wpAnyH_take (i := 2) (v := .bool false) rfl (by kernel_rfl) (by kernel_rfl) (by kernel_rfl) (fun _ _ _ h => h) (Or.inl ⟨by rfl, ?_⟩) (by assumption) ?_
      · intro w hSw
        obtain ⟨g1', g2', g3', g4', _⟩ := hSw
        go_simp
      try simp only [List.getElem_toArray]
      try simp only [List.getElem_cons_succ]
      try simp only [List.getElem_cons_zero]
      try simp only [Act.put]
      try simp only [List.setIfInBounds_toArray]
      try simp only [List.set_cons_succ]
      try simp only [List.set_cons_zero]
      refine take_no (i := 3) rfl (by kernel_rfl) (by kernel_rfl) (by kernel_rfl) (fun _ _ _ h => h) (by rfl) (by assumption) ?_
      try simp only [List.getElem_toArray]
      try simp only [List.getElem_cons_succ]
      try simp only [List.getElem_cons_zero]
      try simp only [Act.put]
      try simp only [List.setIfInBounds_toArray]
      try simp only [List.set_cons_succ]
      try simp only [List.set_cons_zero]
      refine take_no (i := 4) rfl (by kernel_rfl) (by kernel_rfl) (by kernel_rfl) (fun _ _ _ h => h) (by rfl) (by assumption) ?_
      try simp only [List.getElem_toArray]
      try simp only [List.getElem_cons_succ]
      try simp only [List.getElem_cons_zero]
      try simp only [Act.put]
      try simp only [List.setIfInBounds_toArray]
      try simp only [List.set_cons_succ]
      try simp only [List.set_cons_zero]
      refine take_no (i := 5) rfl (by kernel_rfl) (by kernel_rfl) (by kernel_rfl) (fun _ _ _ h => h) (by rfl) (by assumption) ?_
      try simp only [List.getElem_toArray]
      try simp only [List.getElem_cons_succ]
      try simp only [List.getElem_cons_zero]
      try simp only [Act.put]
      try simp only [List.setIfInBounds_toArray]
      try simp only [List.set_cons_succ]
      try simp only [List.set_cons_zero]
      refine take_no (i := 6) rfl (by kernel_rfl) (by kernel_rfl) (by kernel_rfl) (fun _ _ _ h => h) (by rfl) (by assumption) ?_
      try simp only [List.getElem_toArray]
      try simp only [List.getElem_cons_succ]
      try simp only [List.getElem_cons_zero]
      try simp only [Act.put]
      try simp only [List.setIfInBounds_toArray]
      try simp only [List.set_cons_succ]
      try simp only [List.set_cons_zero]
      refine take_no (i := 7) rfl (by kernel_rfl) (by kernel_rfl) (by kernel_rfl) (fun _ _ _ h => h) (by rfl) (by assumption) ?_
      try simp only [List.getElem_toArray]
      try simp only [List.getElem_cons_succ]
      try simp only [List.getElem_cons_zero]
      try simp only [Act.put]
      try simp only [List.setIfInBounds_toArray]
      try simp only [List.set_cons_succ]
      try simp only [List.set_cons_zero]
      refine wpAnyH_take (i := 8) (v := .bool false) rfl (by kernel_rfl) (by kernel_rfl) (by kernel_rfl) (fun _ _ _ h => h) (Or.inl ⟨by rfl, ?_⟩) (by assumption) ?_
      · intro w hSw
        obtain ⟨g1', g2', g3', g4', _⟩ := hSw
        go_simp
      try simp only [List.getElem_toArray]
      try simp only [List.getElem_cons_succ]
      try simp only [List.getElem_cons_zero]
      try simp only [Act.put]
      try simp only [List.setIfInBounds_toArray]
      try simp only [List.set_cons_succ]
      try simp only [List.set_cons_zero]
      refine wpAnyH_ready (rs := [9]) (by kernel_rfl) (by simp) ?_
      refine AllReadyH.cons rfl (fun K1 hK => ?_) AllReadyH.nil
      go_simp
      try go_wp2_with fail
      refine hK.out _ _ ?_ (fun hHeld => ?_)
      · first | assumption | exact ko4 ⟨T0.out.cells, only_drew _ _ 1⟩ | exact ko4o ((only_set (R := fun y => y = w.heap.size + 1) rfl _).trans ((only_set (R := fun y => y = w.heap.size + 1) rfl _).trans (only_set (R := fun y => y = w.heap.size + 1) rfl _))) (by assumption)
      clear hK K1
      try simp only [List.getElem_toArray]
      try simp only [List.getElem_cons_succ]
      try simp only [List.getElem_cons_zero]
      try simp only [Act.put]
      try simp only [List.setIfInBounds_toArray]
      try simp only [List.set_cons_succ]
      try simp only [List.set_cons_zero]
      refine wpAnyH_ready (rs := [10]) (by kernel_rfl) (by simp) ?_
      refine AllReadyH.cons rfl (fun K1 hK => ?_) AllReadyH.nil
      go_simp
      try go_wp2_with fail
      refine hK.out _ _ ?_ (fun hHeld => ?_)
      · first | assumption | exact ko4 ⟨T0.out.cells, only_drew _ _ 1⟩ | exact ko4o ((only_set (R := fun y => y = w.heap.size + 1) rfl _).trans ((only_set (R := fun y => y = w.heap.size + 1) rfl _).trans (only_set (R := fun y => y = w.heap.size + 1) rfl _))) (by assumption)
      clear hK K1
      try simp only [List.getElem_toArray]
      try simp only [List.getElem_cons_succ]
      try simp only [List.getElem_cons_zero]
      try simp only [Act.put]
      try simp only [List.setIfInBounds_toArray]
      try simp only [List.set_cons_succ]
      try simp only [List.set_cons_zero]
      refine wpAnyH_done (by kernel_rfl) ?_ _
      refine NoPanic.normal ?_
      go_wp2
      try simp only [Exit.inBlock, Exit.then]
      refine bodyPost_ret (v := .tuple #[.agg #[.bool false, .slice none 0 0, .slice none 0 0], .bool false]) ?_ rfl ?_
      · refine results_sub2 rfl _ _ _ rfl rfl ?_ ?_ ?_
        · go_simp
        · go_simp
        · go_simp
      · refine ⟨?_, (((HB2.out.setCell (by show w.heap.size ≤ w.heap.size + 1; omega) _).setCell (by show w.heap.size ≤ w.heap.size + 1; omega) _).setCell (by show w.heap.size ≤ w.heap.size + 1; omega) _)⟩
        rw [HRS.out]
        exact ⟨_, _, _, _, _, _, _, rfl⟩
    | some tn =>
      obtain ⟨t, n⟩ := tn
      rw [hr] at hpost HRS
      obtain ⟨lf, ap, np, cp, ak, nk, ck, he, hsub⟩ := hpost
      subst he
      have KT2 := hid (KT1.out.alloc (.cells #[.bool lf, .slice ap np cp, .slice ak nk ck] 74))
      have KR2 := hid (KR1.out.alloc (.cells #[.bool lf, .slice ap np cp, .slice ak nk ck] 74))
      have t0 := KT2.out.cell (j := 0) rfl
      have r0 := KR2.out.cell (j := 0) rfl
      have r1 := KR2.out.cell (j := 1) rfl
      have r2 := KR2.out.cell (j := 2) rfl
      have q0 := KR2.out.free 0
      have q1 := KR2.out.free 1
      have q2 := KR2.out.free 2
      have d0 := (Bk.new w1 74 [.bool lf, .slice ap np cp, .slice ak nk ck]).cell (j := 0) rfl
      have d1 := (Bk.new w1 74 [.bool lf, .slice ap np cp, .slice ak nk ck]).cell (j := 1) rfl
      have d2 := (Bk.new w1 74 [.bool lf, .slice ap np cp, .slice ak nk ck]).cell (j := 2) rfl
      have HB2 := hid ((HB1.out.alloc HB1.out.size (.cells #[.bool lf, .slice ap np cp, .slice ak nk ck] 74)).drew)
      have HSB : Hid (Sub (w1.alloc (.cells #[.bool lf, .slice ap np cp, .slice ak nk ck] 74)).drew (fun y => w.heap.size + 2 ≤ y) lf (.slice ap np cp) (.slice ak nk ck) t) := ((hsub.kept (below_new (Below.refl _ _))).kept (below_drew _)).mono (fun y hy _ => by have := HZ.out; have := hy.1; omega)
      have hne1 : ¬ w1.heap.size = w.heap.size + 1 := by have := HU.out; have := HZ.out; omega
      have hne2 : ¬ w.heap.size = w.heap.size + 1 := by omega
      have HFIN : Hid (∀ b : Bool, b = decide (n = ns.length) → ∀ e w', e = .returned (.tuple #[.agg #[.bool lf, .slice ap np cp, .slice ak nk ck], .bool b]) → Sub w' (fun y => w.heap.size ≤ y ∧ y < w'.heap.size) lf (.slice ap np cp) (.slice ak nk ck) t → RootPost (rootS ns) w e w') := by
        rintro b rfl e w' rfl hs
        rw [HRS.out]
        simp only
        by_cases hn : n = ns.length
        · rw [if_pos hn, decide_eq_true hn]; exact ⟨lf, ap, np, cp, ak, nk, ck, rfl, hs⟩
        · rw [if_neg hn, decide_eq_false hn]; exact ⟨lf, ap, np, cp, ak, nk, ck, rfl⟩
      clear hb1 hr KT KR KT1 KR1 HB0 hsub HRS
      go_wp2_with fail
      generalize w1.alloc (.cells #[.bool lf, .slice ap np cp, .slice ak nk ck] 74) = u at *
      have T0 : Hid (KO (fun y => y = w.heap.size + 1) u u [(⟨w1.heap.size, 0, none⟩, .bool lf), (⟨w1.heap.size, 1, none⟩, .slice ap np cp), (⟨w1.heap.size, 2, none⟩, .slice ak nk ck), (⟨w.heap.size, 0, none⟩, .slice an nn cn)]) := ⟨fun p hp => by simp at hp; rcases hp with rfl | rfl | rfl | rfl <;> exact ⟨by assumption, by assumption⟩, Only.refl _ _⟩
      go_region_held3 (fun z => z.cell? ⟨w1.heap.size, 0, none⟩ = some (.bool lf) ∧ z.cell? ⟨w1.heap.size, 1, none⟩ = some (.slice ap np cp) ∧ z.cell? ⟨w1.heap.size, 2, none⟩ = some (.slice ak nk ck) ∧ z.cell? ⟨w.heap.size, 0, none⟩ = some (.slice an nn cn) ∧ KO (fun y => y = w.heap.size + 1) u z [(⟨w1.heap.size, 0, none⟩, .bool lf), (⟨w1.heap.size, 1, none⟩, .slice ap np cp), (⟨w1.heap.size, 2, none⟩, .slice ak nk ck), (⟨w.heap.size, 0, none⟩, .slice an nn cn)]) (first | assumption | exact ko4 ⟨T0.out.cells, only_drew _ _ 1⟩ | exact ko4o ((only_set (R := fun y => y = w.heap.size + 1) rfl _).trans ((only_set (R := fun y => y = w.heap.size + 1) rfl _).trans (only_set (R := fun y => y = w.heap.size + 1) rfl _))) (by assumption)) (first | fail)
      all_goals
        have hbeq : ((n : Int) == (nn : Int)) = decide (n = ns.length) := by
          rw [← hnn.out]
          by_cases h : n = nn
          · rw [decide_eq_true h, h]; simp
          · rw [decide_eq_false h]; simp; omega
        go_wp2
        try simp only [Exit.inBlock, Exit.then]
        refine bodyPost_ret (v := .tuple #[.agg #[.bool lf, .slice ap np cp, .slice ak nk ck], .bool (decide (n = ns.length))]) ?_ rfl ?_
        · refine results_sub2 rfl _ _ _ rfl ?_ ?_ ?_ ?_
          · show Value.bool ((n : Int) == (nn : Int)) = _
            rw [hbeq]
          · go_simp
          · go_simp
          · go_simp
        · refine ⟨HFIN.out _ rfl _ _ rfl ?_, (((HB2.out.setCell (by show w.heap.size ≤ w.heap.size + 1; omega) _).setCell (by show w.heap.size ≤ w.heap.size + 1; omega) _).setCell (by show w.heap.size ≤ w.heap.size + 1; omega) _)⟩
          have o : Only (fun y => y = w.heap.size + 1) u.drew (((u.drew.setCell ⟨w.heap.size + 1, 0, none⟩ (.bool lf)).setCell ⟨w.heap.size + 1, 1, none⟩ (.slice ap np cp)).setCell ⟨w.heap.size + 1, 2, none⟩ (.slice ak nk ck)) := ((only_set (R := fun y => y = w.heap.size + 1) rfl _).trans (only_set (R := fun y => y = w.heap.size + 1) rfl _)).trans (only_set (R := fun y => y = w.heap.size + 1) rfl _)
          exact (HSB.out.to o (fun y hy _ e => by omega)).mono (fun y hy hlt => ⟨by omega, hlt⟩)
end Go.Proofs.Ytkflneeifllpgaa
