/-
  l03Deep, l03Full, l03Pairs of the specification.
-/
import Derived.Test.YtbaggkfgnjenoaaSb
namespace Go.Proofs.Ytbaggkfgnjenoaa
open Go.RowKit
mutual
def T.ht : T → Nat | .mk _ ks => 1 + htL ks
def htL : List T → Nat | [] => 0 | k :: ks => max k.ht (htL ks)
end
theorem htL_mem (ks : List T) : ∀ k ∈ ks, k.ht ≤ htL ks := by
  induction ks with
  | nil => intro k h; cases h
  | cons x ks ih =>
    intro k h
    simp only [htL]
    rcases List.mem_cons.1 h with rfl | h
    · omega
    · have := ih k h; omega
theorem ev_ht : ∀ (h : Nat) (t : T), Ev h t → h ≤ t.ht
  | 0, _, e => e.elim
  | h + 1, .mk ps ks, e => by
    rcases e with ⟨_, rfl⟩ | ⟨e1, e2⟩
    · simp [T.ht]
    · obtain ⟨k, hk⟩ := List.exists_mem_of_ne_nil ks e1
      have h1 := ev_ht h k (e2 k hk)
      have h2 := htL_mem ks k hk
      simp only [T.ht]
      omega
theorem dp_bound (t : T) : -1 ≤ t.dp ∧ t.dp ≤ t.ht := by
  have hlo : -1 ≤ t.dp := by
    obtain ⟨ps, ks⟩ := t
    by_cases hk : ks = []
    · subst hk; simp [T.dp]
    · have e : (T.mk ps ks).dp = dpL true 0 ks := by simp [T.dp, hk]
      rw [e]
      rcases dpL_neg_or ks true 0 with h | ⟨h, _⟩
      · omega
      · obtain ⟨k, hk'⟩ := List.exists_mem_of_ne_nil ks hk
        have := h k hk'
        omega
  refine ⟨hlo, ?_⟩
  by_cases h0 : 0 ≤ t.dp
  · have := ev_ht _ t (dp_ev t h0)
    omega
  · omega
theorem tAt_mem {ks : List T} {k : Nat} (h : k < ks.length) : tAt ks k ∈ ks := by
  simp only [tAt, List.getElem?_eq_getElem h, Option.getD_some]
  exact List.getElem_mem h
theorem drop_tAt {ks : List T} {k : Nat} (h : k < ks.length) : ks.drop k = tAt ks k :: ks.drop (k + 1) := by
  rw [List.drop_eq_getElem_cons h]
  simp [tAt, h]
set_option maxHeartbeats 4000000 in
theorem specDeep_any (t : T) : ∀ (S : Nat → Prop) (lf : Bool) (ap ak : Option Addr) (np cp nk ck : Nat) (w : World), Sub w S lf (.slice ap np cp) (.slice ak nk ck) t → t.ht ≤ 1048576 →
    Calls Try.prog 131 #[.agg #[.bool lf, .slice ap np cp, .slice ak nk ck]] w fun e w' => e = .returned (.int .i64 t.dp) ∧ Below w.heap.size w w' := by
  induction t using T.ind
  rename_i ps ks ih
  intro S lf ap ak np cp nk ck w h hht
  obtain ⟨ap', np', cp', ak', nk', ck', e1, e2, HNP, HNK, b1, b2, hlf, hP⟩ := h.shape
  cases e1
  cases e2
  have H0 := hid h
  have HIH := hid ih
  have HHT := hid hht
  clear h ih hP hht
  have HB0 := hid (below_new (o := .cells #[.bool lf, .slice ap np cp, .slice ak nk ck] 146) (w := w) (Below.refl _ _))
  have KP := hid (Bk.new w 146 [.bool lf, .slice ap np cp, .slice ak nk ck])
  simp only [T.ks] at HNK
  by_cases hk : nk = 0
  · have hlf' : lf = true := by rw [hlf, hk]; rfl
    have hks : ks = [] := List.eq_nil_of_length_eq_zero (by have := HNK.out; omega)
    have HE : Hid ((T.mk ps ks).dp = 1) := by show _ = _; subst hks; simp [T.dp]
    clear H0 hlf hks
    subst hlf' hk
    go_enter Try.func131, Try.ntmps131
    go_wp2
    go_ret
    exact ⟨by rw [HE.out]; rfl, HB0.out⟩
  · have hlf' : lf = false := by rw [hlf]; simp [hk]
    subst hlf'
    have HE : Hid ((T.mk ps ks).dp = dpL true 0 ks) := by
      show _ = _
      have : ks ≠ [] := by rintro rfl; have := HNK.out; simp at this; omega
      simp [T.dp, this]
    clear hlf
    go_enter Try.func131, Try.ntmps131
    go_wp2_with fail
    go_loopw [3, 11] (fun d i wr => ∃ (k : Nat) (z : Int), k ≤ nk ∧ i = .int .i64 k ∧ d = .int .i64 z ∧ Hid (dpL (decide (k = 0)) z (ks.drop k) = dpL true 0 ks) ∧ Hid (Bk wr w.heap.size 146 [.bool false, .slice ap np cp, .slice ak nk ck]) ∧ Hid (Below w.heap.size w wr)) (fun _ i _ => nk - (intOf i).toNat)
    case atStart => exact ⟨0, 0, Nat.zero_le _, rfl, rfl, rfl, KP.out, HB0.out⟩
    case round =>
      obtain ⟨k, z, hkn, rfl, rfl, HD, HK, HB⟩ := hrel
      by_cases hlt : k < nk
      · have hlt' : (k : Int) < (nk : Int) := by omega
        have hks : k < ks.length := by rw [← HNK.out]; exact hlt
        obtain ⟨g, off, hak, _, hgw, hkid⟩ := (H0.out.kept HB.out).kids (by omega)
        subst hak
        obtain ⟨l1, ap1, np1, cp1, ak1, nk1, ck1, c0, c1, c2, hs⟩ := hkid k hlt
        simp only [T.ks] at hs
        have HS := hid hs
        have p2 := HK.out.cell (j := 2) rfl
        clear hkid hs hgw
        have HHK : Hid ((tAt ks k).ht ≤ 1048576) := by
          show _ ≤ _
          have h1 := htL_mem ks _ (tAt_mem hks)
          have h2 := HHT.out
          simp only [T.ht] at h2
          omega
        have HDD : Hid (dpL (decide (k = 0)) z (ks.drop k) = if (tAt ks k).dp < 0 ∨ (decide (k = 0) = false ∧ (tAt ks k).dp + 1 ≠ z) then -1 else dpL false ((tAt ks k).dp + 1) (ks.drop (k + 1))) := by
          show _ = _
          rw [drop_tAt hks, dpL]
        go_wp2_with fail
        refine (HIH.out (tAt ks k) (tAt_mem hks) S l1 ap1 ak1 np1 cp1 nk1 ck1 wr HS.out HHK.out).mono ?_
        rintro e w1 ⟨rfl, hb1⟩
        have HB1 := hid (HB.out.trans (hb1.mono HB.out.size))
        have HK1 := hid (HK.out.below hb1)
        have hdb := dp_bound (tAt ks k)
        have hdb2 : (tAt ks k).dp ≤ 1048576 := by have := HHK.out; omega
        generalize (tAt ks k).dp = y at *
        clear hb1 HK HB c0 c1 c2 p2
        by_cases hy : y < 0
        · have HR : Hid ((T.mk ps ks).dp = -1) := by show _ = _; rw [HE.out, ← HD.out, HDD.out, if_pos (.inl hy)]
          clear hdb
          go_wp2
          go_ret
          exact ⟨by rw [HR.out]; rfl, HB1.out⟩
        · clear hdb
          cases k with
          | zero =>
            have HD2 : Hid (dpL (decide (0 + 1 = 0)) (y + 1) (ks.drop (0 + 1)) = dpL true 0 ks) := by
              show _ = _
              rw [← HD.out, HDD.out, if_neg]
              · rfl
              · rintro (h | ⟨h, _⟩)
                · exact hy h
                · simp at h
            go_wp2
            go_roundw
            case rel => exact ⟨0 + 1, y + 1, by omega, by go_num, by go_num, HD2.out, HK1.out, HB1.out⟩
            case measure => simp [intOf]; omega
          | succ k' =>
            have hk1 : (0 : Int) < (k' : Int) + 1 := by omega
            by_cases hyz : y + 1 = z
            · have HD2 : Hid (dpL (decide (k' + 1 + 1 = 0)) (y + 1) (ks.drop (k' + 1 + 1)) = dpL true 0 ks) := by
                show _ = _
                rw [← HD.out, HDD.out, if_neg]
                · rfl
                · rintro (h | ⟨_, h⟩)
                  · exact hy h
                  · exact h hyz
              have hne : (y + 1 != z) = false := by simp [hyz]
              clear hyz
              go_wp2
              go_roundw
              case rel => exact ⟨k' + 1 + 1, y + 1, by omega, by go_num, by go_num, HD2.out, HK1.out, HB1.out⟩
              case measure => simp [intOf]; omega
            · have HR : Hid ((T.mk ps ks).dp = -1) := by show _ = _; rw [HE.out, ← HD.out, HDD.out, if_pos (.inr ⟨by simp, hyz⟩)]
              have hne : (y + 1 != z) = true := by simp [hyz]
              clear hyz
              go_wp2
              go_ret
              exact ⟨by rw [HR.out]; rfl, HB1.out⟩
      · have hk' : k = nk := by omega
        have HR : Hid ((T.mk ps ks).dp = z) := by
          show _ = _
          rw [HE.out, ← HD.out, hk', HNK.out, List.drop_length]
          rfl
        clear hk' HD
        go_wp2
        go_ret
        exact ⟨by rw [HR.out]; rfl, HB.out⟩
set_option maxHeartbeats 4000000 in
theorem specFull_any (t : T) : ∀ (S : Nat → Prop) (root lf : Bool) (ap ak : Option Addr) (np cp nk ck : Nat) (w : World), Sub w S lf (.slice ap np cp) (.slice ak nk ck) t →
    Calls Try.prog 130 #[.agg #[.bool lf, .slice ap np cp, .slice ak nk ck], .bool root] w fun e w' => e = .returned (.bool (t.full root)) ∧ Below w.heap.size w w' := by
  induction t using T.ind
  rename_i ps ks ih
  intro S root lf ap ak np cp nk ck w h
  obtain ⟨ap', np', cp', ak', nk', ck', e1, e2, HNP, HNK, b1, b2, hlf, hP⟩ := h.shape
  cases e1
  cases e2
  have H0 := hid h
  have HIH := hid ih
  clear h ih hP
  have HB0 := hid (below_new (o := .cells #[.bool lf, .slice ap np cp, .slice ak nk ck] 146) (w := w) (Below.refl _ _))
  have KP := hid (Bk.new w 146 [.bool lf, .slice ap np cp, .slice ak nk ck])
  simp only [T.ks, T.ps] at HNK HNP
  by_cases hk : nk = 0
  · have hlf' : lf = true := by rw [hlf, hk]; rfl
    have hks : ks = [] := List.eq_nil_of_length_eq_zero (by have := HNK.out; omega)
    have HE : Hid ((T.mk ps ks).full root = (decide (np ≤ 4) && (decide (2 ≤ np) || root && decide (np = 1)))) := by show _ = _; rw [HNP.out]; subst hks; simp [T.full]
    clear H0 hlf hks
    subst hlf' hk
    by_cases a1 : np ≤ 4
    · have e1 : (np : Int) ≤ 4 := by omega
      by_cases a2 : 2 ≤ np
      · have e2 : (2 : Int) ≤ (np : Int) := by omega
        have HR : Hid ((T.mk ps ks).full root = true) := by show _ = _; rw [HE.out]; simp [a1, a2]
        go_enter Try.func130, Try.ntmps130
        go_wp2
        go_ret
        exact ⟨by rw [HR.out]; rfl, HB0.out⟩
      · have e2 : ¬ (2 : Int) ≤ (np : Int) := by omega
        cases root
        · have HR : Hid ((T.mk ps ks).full false = false) := by show _ = _; rw [HE.out]; simp [a2]
          go_enter Try.func130, Try.ntmps130
          go_wp2
          go_ret
          exact ⟨by rw [HR.out]; rfl, HB0.out⟩
        · by_cases a3 : np = 1
          · have e3 : ((np : Int) == 1) = true := by simp; omega
            have HR : Hid ((T.mk ps ks).full true = true) := by show _ = _; rw [HE.out]; simp [a3]
            clear a3
            go_enter Try.func130, Try.ntmps130
            go_wp2
            go_ret
            exact ⟨by rw [HR.out]; rfl, HB0.out⟩
          · have e3 : ((np : Int) == 1) = false := by simp; omega
            have HR : Hid ((T.mk ps ks).full true = false) := by show _ = _; rw [HE.out]; simp [a2, a3]
            clear a3
            go_enter Try.func130, Try.ntmps130
            go_wp2
            go_ret
            exact ⟨by rw [HR.out]; rfl, HB0.out⟩
    · have e1 : ¬ (np : Int) ≤ 4 := by omega
      have HR : Hid ((T.mk ps ks).full root = false) := by show _ = _; rw [HE.out]; simp [a1]
      go_enter Try.func130, Try.ntmps130
      go_wp2
      go_ret
      exact ⟨by rw [HR.out]; rfl, HB0.out⟩
  · have hlf' : lf = false := by rw [hlf]; simp [hk]
    subst hlf'
    have HE : Hid ((T.mk ps ks).full root = (decide (2 ≤ nk) && decide (nk ≤ 4) && decide (np = 0) && fullL ks)) := by
      show _ = _
      have : ks ≠ [] := by rintro rfl; have := HNK.out; simp at this; omega
      rw [HNP.out, HNK.out]
      simp [T.full, this]
    clear hlf
    by_cases a1 : nk < 2
    · have e1 : (nk : Int) < 2 := by omega
      have HR : Hid ((T.mk ps ks).full root = false) := by show _ = _; rw [HE.out]; simp; omega
      go_enter Try.func130, Try.ntmps130
      go_wp2
      go_ret
      exact ⟨by rw [HR.out]; rfl, HB0.out⟩
    · have e1 : ¬ (nk : Int) < 2 := by omega
      by_cases a2 : 4 < nk
      · have e2 : (4 : Int) < (nk : Int) := by omega
        have HR : Hid ((T.mk ps ks).full root = false) := by show _ = _; rw [HE.out]; simp; omega
        go_enter Try.func130, Try.ntmps130
        go_wp2
        go_ret
        exact ⟨by rw [HR.out]; rfl, HB0.out⟩
      · have e2 : ¬ (4 : Int) < (nk : Int) := by omega
        by_cases a3 : 0 < np
        · have e3 : (0 : Int) < (np : Int) := by omega
          have HR : Hid ((T.mk ps ks).full root = false) := by show _ = _; rw [HE.out]; simp; omega
          go_enter Try.func130, Try.ntmps130
          go_wp2
          go_ret
          exact ⟨by rw [HR.out]; rfl, HB0.out⟩
        · have e3 : ¬ (0 : Int) < (np : Int) := by omega
          have HE2 : Hid ((T.mk ps ks).full root = fullL ks) := by show _ = _; rw [HE.out]; simp [show np = 0 by omega, show 2 ≤ nk by omega, show nk ≤ 4 by omega]
          go_enter Try.func130, Try.ntmps130
          go_wp2_with fail
          go_loopw [46] (fun i wr => ∃ (k : Nat), k ≤ nk ∧ i = .int .i64 k ∧ Hid (fullL (ks.drop k) = fullL ks) ∧ Hid (Bk wr w.heap.size 146 [.bool false, .slice ap np cp, .slice ak nk ck]) ∧ Hid (Below w.heap.size w wr)) (fun i _ => nk - (intOf i).toNat)
          case atStart => exact ⟨0, Nat.zero_le _, rfl, rfl, KP.out, HB0.out⟩
          case round =>
            obtain ⟨k, hkn, rfl, HD, HK, HB⟩ := hrel
            by_cases hlt : k < nk
            · have hlt' : (k : Int) < (nk : Int) := by omega
              have hks : k < ks.length := by rw [← HNK.out]; exact hlt
              obtain ⟨g, off, hak, _, hgw, hkid⟩ := (H0.out.kept HB.out).kids (by omega)
              subst hak
              obtain ⟨l1, ap1, np1, cp1, ak1, nk1, ck1, c0, c1, c2, hs⟩ := hkid k hlt
              simp only [T.ks] at hs
              have HS := hid hs
              have p2 := HK.out.cell (j := 2) rfl
              clear hkid hs hgw
              have HDD : Hid (fullL (ks.drop k) = ((tAt ks k).full false && fullL (ks.drop (k + 1)))) := by
                show _ = _
                rw [drop_tAt hks, fullL]
              go_wp2_with fail
              refine (HIH.out (tAt ks k) (tAt_mem hks) S false l1 ap1 ak1 np1 cp1 nk1 ck1 wr HS.out).mono ?_
              rintro e w1 ⟨rfl, hb1⟩
              have HB1 := hid (HB.out.trans (hb1.mono HB.out.size))
              have HK1 := hid (HK.out.below hb1)
              clear hb1 HK HB c0 c1 c2 p2
              cases hy : (tAt ks k).full false
              · have HR : Hid ((T.mk ps ks).full root = false) := by show _ = _; rw [HE2.out, ← HD.out, HDD.out, hy]; rfl
                clear hy
                go_wp2
                go_ret
                exact ⟨by rw [HR.out]; rfl, HB1.out⟩
              · have HD2 : Hid (fullL (ks.drop (k + 1)) = fullL ks) := by show _ = _; rw [← HD.out, HDD.out, hy]; rfl
                clear hy
                go_wp2
                go_roundw
                case rel => exact ⟨k + 1, by omega, by go_num, HD2.out, HK1.out, HB1.out⟩
                case measure => simp [intOf]; omega
            · have hk' : k = nk := by omega
              have HR : Hid ((T.mk ps ks).full root = true) := by
                show _ = _
                rw [HE2.out, ← HD.out, hk', HNK.out, List.drop_length]
                rfl
              clear hk' HD
              go_wp2
              go_ret
              exact ⟨by rw [HR.out]; rfl, HB.out⟩
set_option maxHeartbeats 4000000 in
theorem specPairs_any (t : T) : ∀ (S : Nat → Prop) (lf : Bool) (ap ak : Option Addr) (np cp nk ck : Nat) (w : World), Sub w S lf (.slice ap np cp) (.slice ak nk ck) t → t.all.length ≤ 1048576 →
    Calls Try.prog 111 #[.agg #[.bool lf, .slice ap np cp, .slice ak nk ck]] w fun e w' => ∃ v, e = .returned v ∧ Ow w' w.heap.size v t.all ∧ Below w.heap.size w w' := by
  induction t using T.ind
  rename_i ps ks ih
  intro S lf ap ak np cp nk ck w h hal
  obtain ⟨ap', np', cp', ak', nk', ck', e1, e2, HNP, HNK, b1, b2, hlf, hP⟩ := h.shape
  cases e1
  cases e2
  have H0 := hid h
  have HP := hid hP
  have HIH := hid ih
  have HAL : Hid (ps.length + (allL ks).length ≤ 1048576) := by show _ ≤ _; simpa [T.all] using hal
  clear h ih hP hal hlf
  have HB0 : Hid (Below w.heap.size w ((w.alloc (.cells #[.bool lf, .slice ap np cp, .slice ak nk ck] 146)).alloc (.cells #[] 69))) := below_new (below_new (Below.refl _ _))
  have KP := hid ((Bk.new w 146 [.bool lf, .slice ap np cp, .slice ak nk ck]).alloc (.cells #[] 69))
  have HO : Hid (Ow ((w.alloc (.cells #[.bool lf, .slice ap np cp, .slice ak nk ck] 146)).alloc (.cells #[] 69)) (w.heap.size + 1) (.slice (some ⟨w.heap.size + 1, 0, none⟩) 0 0) []) := by
    have := ow_new (w.alloc (.cells #[.bool lf, .slice ap np cp, .slice ak nk ck] 146)) (w.heap.size + 1) (by simp)
    show Ow _ _ _ _
    simpa using this
  simp only [T.ks, T.ps] at HNK HNP HP
  go_enter Try.func111, Try.ntmps111
  go_wp2_with (at_builtin; refine wpList_append_pairs rfl _ _ rfl (w.heap.size + 1) _ [] rfl HO.out S _ ps rfl (HP.out.below HB0.out) ?q1 ?q2 ?_)
  case q1 => have := HAL.out; simp; omega
  case q2 => simp
  intro v1 w1 hO1 hg1
  have HB1 : Hid (Below (w.heap.size + 1) ((w.alloc (.cells #[.bool lf, .slice ap np cp, .slice ak nk ck] 146)).alloc (.cells #[] 69)) w1) := grown_belowB HO.out hg1 (by simp)
  have HO1 := hid hO1
  have HBW := hid (HB0.out.trans (HB1.out.mono (by omega)))
  have KP1 : Hid (Bk w1 w.heap.size 146 [.bool lf, .slice ap np cp, .slice ak nk ck]) := KP.out.to (only_of_belowB HB1.out) (by omega)
  obtain ⟨a1, n1, cc1, hv1, HN1⟩ := hO1.shape'
  subst hv1
  have p2 := KP1.out.cell (j := 2) rfl
  clear hO1 hg1 HB1 HB0 KP HO
  go_wp2_with fail
  go_loopw [3, 12] (fun x i wr => ∃ (k : Nat) (v' : Value), k ≤ nk ∧ i = .int .i64 k ∧ x = v' ∧ Hid (Ow wr (w.heap.size + 1) v' (ps ++ allL (ks.take k))) ∧ Hid (Bk wr w.heap.size 146 [.bool lf, .slice ap np cp, .slice ak nk ck]) ∧ Hid (Below w.heap.size w wr)) (fun _ i _ => nk - (intOf i).toNat)
  case atStart => exact ⟨0, _, Nat.zero_le _, rfl, rfl, by show Ow _ _ _ _; simpa [allL] using HO1.out, KP1.out, HBW.out⟩
  case round =>
    obtain ⟨k, v', hkn, rfl, hv', HO2, HK, HB⟩ := hrel
    obtain ⟨a2, n2, cc2, hv2, HN2⟩ := HO2.out.shape'
    subst hv2
    subst hv'
    clear p2
    by_cases hlt : k < nk
    · have hlt' : (k : Int) < (nk : Int) := by omega
      have hks : k < ks.length := by rw [← HNK.out]; exact hlt
      obtain ⟨g, off, hak, _, hgw, hkid⟩ := (H0.out.kept HB.out).kids (by omega)
      subst hak
      obtain ⟨l1, ap1, np1, cp1, ak1, nk1, ck1, c0, c1, c2, hs⟩ := hkid k hlt
      simp only [T.ks] at hs
      have HS := hid hs
      have p2 := HK.out.cell (j := 2) rfl
      clear hkid hs hgw
      have HTK : Hid (allL (ks.take (k + 1)) = allL (ks.take k) ++ (tAt ks k).all) := allL_take ks k hks
      have HLN : Hid ((ps ++ allL (ks.take k)).length + (tAt ks k).all.length ≤ 1048576) := by
        show _ ≤ _
        have h1 := allL_take_le ks (k + 1)
        have h2 := HAL.out
        rw [HTK.out] at h1
        simp only [List.length_append] at h1 ⊢
        omega
      go_wp2_with fail
      refine (HIH.out (tAt ks k) (tAt_mem hks) S l1 ap1 ak1 np1 cp1 nk1 ck1 wr HS.out (by have := HLN.out; omega)).mono ?_
      rintro e w2 ⟨v3, rfl, hO3, hb2⟩
      obtain ⟨a3, n3, cc3, hv3, HN3⟩ := hO3.shape'
      subst hv3
      have HO3 := hid hO3
      have HO4 := hid (HO2.out.kept hb2)
      have HK2 := hid (HK.out.below hb2)
      have HB2 := hid (HB.out.trans (hb2.mono HB.out.size))
      have HSZ : Hid (w.heap.size + 1 ≤ w2.heap.size) := HK2.out.lt
      clear hO3 hb2 HO2 HK HB c0 c1 c2 p2
      go_wp2_with (at_builtin; refine wpList_append_pairs rfl _ _ rfl (w.heap.size + 1) _ (ps ++ allL (ks.take k)) rfl HO4.out (fun _ => True) _ (tAt ks k).all rfl (HO3.out.pr (fun _ _ _ _ => trivial)) ?q1 ?q2 ?_)
      case q1 => have := HLN.out; omega
      case q2 => exact HSZ.out
      intro v5 w5 hO5 hg5
      have HB5 := grown_belowB HO4.out hg5 HSZ.out
      have HO5 : Hid (Ow w5 (w.heap.size + 1) v5 (ps ++ allL (ks.take (k + 1)))) := by
        show Ow _ _ _ _
        rw [HTK.out]
        simpa using hO5
      have HK5 : Hid (Bk w5 w.heap.size 146 [.bool lf, .slice ap np cp, .slice (some ⟨g, off, none⟩) nk ck]) := HK2.out.to (only_of_belowB HB5) (by omega)
      have HBB := hid (HB2.out.trans (HB5.mono (by omega)))
      obtain ⟨a5, n5, cc5, hv5, HN5⟩ := hO5.shape'
      subst hv5
      clear hO5 hg5 HB5 HO3 HO4 HK2 HB2
      go_wp2
      go_roundw
      case rel => exact ⟨k + 1, _, by omega, by go_num, rfl, HO5.out, HK5.out, HBB.out⟩
      case measure => simp [intOf]; omega
    · have hk' : k = nk := by omega
      have HF : Hid (Ow wr w.heap.size (.slice a2 n2 cc2) (T.mk ps ks).all) := by
        show Ow _ _ _ _
        have e : (T.mk ps ks).all = ps ++ allL (ks.take k) := by rw [hk', HNK.out, List.take_length]; simp [T.all]
        rw [e]
        exact own_mono HO2.out (by omega)
      clear hk'
      go_wp2
      go_ret
      exact ⟨_, rfl, HF.out, HB.out⟩
end Go.Proofs.Ytbaggkfgnjenoaa

