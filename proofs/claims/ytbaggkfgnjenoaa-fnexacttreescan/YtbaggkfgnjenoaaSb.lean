/-
  A sub of the specification: a flag and two slices, its pairs and its kids.
-/
import Derived.Test.YtbaggkfgnjenoaaRd1
namespace Go.Proofs.Ytbaggkfgnjenoaa
open Go.RowKit

def mkV (L : Nat → Bool) (P K : Nat → Value) (n : Nat) : List V3 := (List.range n).map fun i => (.bool (L i), P i, K i)
theorem mkV_length (L : Nat → Bool) (P K : Nat → Value) (n : Nat) : (mkV L P K n).length = n := by simp [mkV]
theorem mkV_at (L : Nat → Bool) (P K : Nat → Value) (n i : Nat) (h : i < n) : vAt (mkV L P K n) i = (.bool (L i), P i, K i) := by simp [mkV, vAt, h]
/-- The three values are in w the sub t; what is read lies in blocks of S. -/
inductive Sub (w : World) (S : Nat → Prop) : Bool → Value → Value → T → Prop
  | mk (lf : Bool) (pv kv : Value) (ps : List PB) (ks : List T) (L : Nat → Bool) (P K : Nat → Value) (hlf : lf = decide (ks.length = 0)) (hP : Pr w S pv ps)
      (hK : Rw w S kv ks.length (ncs (mkV L P K ks.length))) (hk : ∀ i, i < ks.length → Sub w S (L i) (P i) (K i) (tAt ks i)) : Sub w S lf pv kv (.mk ps ks)
theorem Sub.to {w w' : World} {S R : Nat → Prop} (ho : Only R w w') (hR : ∀ x, S x → x < w.heap.size → ¬ R x) {lf : Bool} {pv kv : Value} {t : T} (h : Sub w S lf pv kv t) : Sub w' S lf pv kv t := by
  induction h with
  | mk lf pv kv ps ks L P K hlf hP hK hk ih => exact .mk lf pv kv ps ks L P K hlf (hP.to ho hR) (hK.to ho hR) ih
theorem Sub.mono {w : World} {S R : Nat → Prop} (hR : ∀ x, S x → x < w.heap.size → R x) {lf : Bool} {pv kv : Value} {t : T} (h : Sub w S lf pv kv t) : Sub w R lf pv kv t := by
  induction h with
  | mk lf pv kv ps ks L P K hlf hP hK hk ih => exact .mk lf pv kv ps ks L P K hlf (Rw.mono hP hR) (hK.mono hR) ih
theorem Sub.kept {w w' : World} {S : Nat → Prop} {lf : Bool} {pv kv : Value} {t : T} (h : Sub w S lf pv kv t) (hb : Below w.heap.size w w') : Sub w' S lf pv kv t := h.to (only_of_below hb (fun _ => False)) (fun _ _ _ h => h)
theorem Sub.shape {w : World} {S : Nat → Prop} {lf : Bool} {pv kv : Value} {t : T} (h : Sub w S lf pv kv t) : ∃ ap np cp ak nk ck, pv = .slice ap np cp ∧ kv = .slice ak nk ck ∧ Hid (np = t.ps.length) ∧ Hid (nk = t.ks.length) ∧ np ≤ 9223372036854775807 ∧ nk ≤ 9223372036854775807 ∧ lf = decide (nk = 0) ∧ Pr w S (.slice ap np cp) t.ps := by
  cases h with
  | mk lf pv kv ps ks L P K hlf hP hK hk =>
    obtain ⟨ap, cp, rfl, h1, h2⟩ := hP.shape
    obtain ⟨ak, ck, rfl, h3, h4⟩ := hK.shape
    exact ⟨ap, _, cp, ak, _, ck, rfl, rfl, rfl, rfl, by omega, by omega, hlf, hP⟩
theorem Sub.kids {w : World} {S : Nat → Prop} {lf : Bool} {pv : Value} {ak : Option Addr} {nk ck : Nat} {t : T} (h : Sub w S lf pv (.slice ak nk ck) t) (hp : 0 < nk) : ∃ g off, ak = some ⟨g, off, none⟩ ∧ S g ∧ g < w.heap.size ∧ ∀ i, i < nk → ∃ l ap np cp ak' nk' ck',
    w.cell? ⟨g, off + i * 3, none⟩ = some (.bool l) ∧ w.cell? ⟨g, off + i * 3 + 1, none⟩ = some (.slice ap np cp) ∧ w.cell? ⟨g, off + i * 3 + 2, none⟩ = some (.slice ak' nk' ck') ∧ Sub w S l (.slice ap np cp) (.slice ak' nk' ck') (tAt t.ks i) := by
  cases h with
  | mk lf pv kv ps ks L P K hlf hP hK hk =>
    have hn := (Rw.len hK).1
    obtain ⟨g, off, h1, h2, h3, h4⟩ := hK.at hp
    refine ⟨g, off, h1, h2, h3, fun i hi => ?_⟩
    have hik : i < ks.length := by omega
    obtain ⟨c0, c1, c2⟩ := ncs_at (mkV L P K ks.length) i (by rw [mkV_length]; exact hik)
    rw [mkV_at _ _ _ _ _ hik] at c0 c1 c2
    have d0 := h4 _ _ c0
    have d1 := h4 _ _ c1
    have d2 := h4 _ _ c2
    have hs := hk i hik
    obtain ⟨ap, np, cp, ak', nk', ck', e1, e2, _⟩ := hs.shape
    simp only at d1 d2
    rw [e1] at d1 hs
    rw [e2] at d2 hs
    exact ⟨L i, ap, np, cp, ak', nk', ck', d0, d1, d2, hs⟩
theorem infoSub : (Try.prog.info? 146).map (fun i => (i.zero, i.size, i.bytes)) = some (some (.agg #[.bool false, .slice none 0 0, .slice none 0 0]), 3, 56) := by kernel_rfl
set_option maxHeartbeats 2000000 in
theorem specLeast_any (t : T) : ∀ (S : Nat → Prop) (lf : Bool) (ap ak : Option Addr) (np cp nk ck : Nat) (w : World), Sub w S lf (.slice ap np cp) (.slice ak nk ck) t →
    Calls Try.prog 153 #[.agg #[.bool lf, .slice ap np cp, .slice ak nk ck]] w fun e w' => e = .returned (.string t.least) ∧ Below w.heap.size w w' := by
  induction t using T.ind
  rename_i ps ks ih
  intro S lf ap ak np cp nk ck w h
  obtain ⟨ap', np', cp', ak', nk', ck', e1, e2, HNP, HNK, b1, b2, hlf, hP⟩ := h.shape
  cases e1
  cases e2
  have H0 := hid h
  have HP := hid hP
  have HIH := hid ih
  clear h ih hP
  have HB0 := hid (below_new (o := .cells #[.bool lf, .slice ap np cp, .slice ak nk ck] 146) (w := w) (Below.refl _ _))
  by_cases hk : nk = 0
  · have hlf' : lf = true := by rw [hlf, hk]; rfl
    have hks : ks = [] := List.eq_nil_of_length_eq_zero (by have := HNK.out; simp only [T.ks] at this; omega)
    clear H0 hlf
    subst hlf' hks hk
    by_cases hp : np = 0
    · have HE : Hid ((T.mk ps []).least = ⟨#[]⟩) := by
        have : ps = [] := List.eq_nil_of_length_eq_zero (by have := HNP.out; simp only [T.ps] at this; omega)
        subst this; rfl
      clear HP
      subst hp
      go_enter Try.func153, Try.ntmps153
      go_wp2
      go_ret
      exact ⟨by rw [HE.out]; rfl, HB0.out⟩
    · obtain ⟨b, off, hap, _, hbw, hcell⟩ := HP.out.at (by omega)
      subst hap
      have hc := (hcell 0 (by omega)).1
      have HE : Hid ((T.mk ps []).least = (pAtB ps 0).1) := by
        show (ps.head?.map (·.1)).getD ⟨#[]⟩ = _
        cases ps <;> rfl
      simp only [T.ps, Nat.zero_mul, Nat.add_zero] at hc
      generalize (pAtB ps 0).1 = k0 at *
      have hp' : (0 : Int) < (np : Int) := by omega
      clear hcell
      go_enter Try.func153, Try.ntmps153
      go_wp2
      go_ret
      exact ⟨by rw [HE.out]; rfl, HB0.out⟩
  · have hlf' : lf = false := by rw [hlf]; simp [hk]
    subst hlf'
    have hk' : (0 : Int) < (nk : Int) := by omega
    obtain ⟨g, off, hak, _, hgw, hkid⟩ := (H0.out.kept HB0.out).kids (by omega)
    subst hak
    obtain ⟨l1, ap1, np1, cp1, ak1, nk1, ck1, c0, c1, c2, hs⟩ := hkid 0 (by omega)
    simp only [Nat.zero_mul, Nat.add_zero, T.ks] at c0 c1 c2 hs
    have HS := hid hs
    have hne : ks ≠ [] := by rintro rfl; have := HNK.out; simp [T.ks] at this; omega
    have HM : Hid (tAt ks 0 ∈ ks ∧ (T.mk ps ks).least = (tAt ks 0).least) := by
      cases ks with
      | nil => exact absurd rfl hne
      | cons k ks => exact ⟨by simp [tAt], rfl⟩
    clear hkid hs hne hlf hk
    go_enter Try.func153, Try.ntmps153
    go_wp2_with fail
    refine (HIH.out (tAt ks 0) HM.out.1 S l1 ap1 ak1 np1 cp1 nk1 ck1 _ HS.out).mono ?_
    rintro e w1 ⟨rfl, hb1⟩
    have HB1 := hid (HB0.out.trans (hb1.mono HB0.out.size))
    clear hb1
    go_wp2
    go_ret
    exact ⟨by rw [HM.out.2]; rfl, HB1.out⟩
end Go.Proofs.Ytbaggkfgnjenoaa

