/-
  slices.BinarySearchFunc over pairs that ascend; pairFor: the place of a key in a leaf.
-/
import Derived.Test.YtgnjknbgahickacGreatDoorMq2
import Derived.Test.YtgnjknbgahickacGreatDoorMq1
import Derived.Deep.RegionHeld3
import Derived.Laws.Cover1
import Derived.Laws.StructEq
import Derived.Test.YtgnjknbgahickacGreatDoorRows
import Derived.WalkKit
import Derived.WalkSpells
import Derived.Deep.RegionWith
import Derived.Lib.ItoaNum
import Derived.Test.YtgnjknbgahickacGreatDoorShelf
import Derived.WalkSmall
import Derived.LaidLaws
import Derived.Stop.LaidErr
import Derived.Lib.AtoiAllCases
import Derived.Lib.AtoiErrMem
import Derived.Lib.CutLaws
import Derived.Maps.AppendAt
import Derived.Deep.DeepCutAuto
namespace Go.Proofs.YtgnjknbgahickacGreatDoor
open Go.RowKit
theorem Pr.cells {w : World} {S : Nat → Prop} {b off n c : Nat} {l : List PB} (h : Pr w S (.slice (some ⟨b, off, none⟩) n c) l) {i : Nat} (hi : i < l.length) : w.cell? ⟨b, off + i * 2, none⟩ = some (.string (pAtB l i).1) ∧ w.cell? ⟨b, off + i * 2 + 1, none⟩ = some (.string (pAtB l i).2) := by
  have hn := (Rw.len h).1
  obtain ⟨b', off', e, _, _, hc⟩ := Rw.at h (by omega)
  cases e
  obtain ⟨h1, h2⟩ := pcs_at l i hi
  exact ⟨hc _ _ h1, hc _ _ h2⟩
def there (l : List PB) (k : ByteArray) : Bool := decide (pos l k < l.length ∧ (pAtB l (pos l k)).1 = k)
set_option maxHeartbeats 4000000 in
set_option maxRecDepth 20000 in
theorem bsearch_any (S : Nat → Prop) (a : Option Addr) (n c : Nat) (l : List PB) (k : ByteArray) (w : World) (h : Pr w S (.slice a n c) l) (ha : Asc l) (hs : n ≤ 1048576) :
    Calls Tryz.prog 144 #[.slice a n c, .string k, .func (.func 145) #[] #[]] w fun e w' =>
      e = .returned (.tuple #[.int .i64 (pos l k : Nat), .bool (there l k)]) ∧ Below w.heap.size w w' := by
  have HN := hid (Rw.len h).1
  have hnc := (Rw.len h).2.1
  have H0 := hid h
  have HA := hid ha
  clear h ha
  go_enter Tryz.func144, Tryz.ntmps144
  go_wp2_with fail
  go_loopw [9, 10] (fun x y wr => ∃ lo hi : Nat, x = .int .i64 lo ∧ y = .int .i64 hi ∧ lo ≤ hi ∧ hi ≤ n ∧ Hid (∀ i, i < lo → klt (pAtB l i).1 k = true) ∧ Hid (∀ i, hi ≤ i → i < n → klt (pAtB l i).1 k = false) ∧ Hid (Below w.heap.size w wr)) (fun x y _ => (intOf y).toNat - (intOf x).toNat)
  case atStart => exact ⟨0, n, rfl, rfl, Nat.zero_le _, Nat.le_refl _, fun i h => absurd h (Nat.not_lt_zero _), fun i h1 h2 => by omega, Below.refl _ _⟩
  case round =>
    obtain ⟨lo, hi, rfl, rfl, hlh, hin, HLO, HHI, HB⟩ := hrel
    by_cases hlt : lo < hi
    · have hlt' : (lo : Int) < (hi : Int) := by omega
      generalize hm : (lo + hi) / 2 = m
      have hm1 : lo ≤ m := by omega
      have hm2 : m < hi := by omega
      have hdv : ((lo : Int) + (hi : Int)) / 2 = (m : Int) := by omega
      obtain ⟨b, off, hab, _, _, _⟩ := Rw.at (Pr.below H0.out HB.out) (by omega)
      subst hab
      obtain ⟨d0, d1⟩ := Pr.cells (Pr.below H0.out HB.out) (i := m) (by have := HN.out; omega)
      have HK := hid (cmpV_cases (pAtB l m).1 k)
      have HM := hid hm
      have hmn : (m : Int) < (n : Int) := by omega
      clear hm
      go_wp2_with fail
      refine (pairFor1_any _ _ k wr).mono ?_
      rintro e w1 ⟨rfl, hb⟩
      have HB1 := hid (Below.then' HB.out hb (Nat.le_refl _))
      clear hb d0 d1 HB
      cases hk : klt (pAtB l m).1 k with
      | true =>
        have hv : cmpV (pAtB l m).1 k < 0 := by
          rcases HK.out with h | ⟨h, _⟩ | ⟨h, _⟩
          · rw [h.2]; decide
          · rw [h, klt_irrefl] at hk; cases hk
          · rw [h] at hk; cases hk
        have HL1 : Hid (∀ i, i < m + 1 → klt (pAtB l i).1 k = true) := by
          intro i hi
          by_cases e : i = m
          · subst e; exact hk
          · exact klt_trans (HA.out.at (show i < m by omega) (by have := HN.out; omega)) hk
        generalize cmpV (pAtB l m).1 k = z at *
        clear hk HK
        go_wp2
        go_roundw
        case rel => exact ⟨m + 1, hi, by go_num, rfl, by omega, hin, HL1.out, HHI.out, HB1.out⟩
        case measure => simp [intOf]; omega
      | false =>
        have hv : ¬ cmpV (pAtB l m).1 k < 0 := by
          rcases HK.out with h | ⟨_, h⟩ | ⟨_, _, h⟩
          · rw [h.1] at hk; cases hk
          · rw [h]; decide
          · rw [h]; decide
        have HH1 : Hid (∀ i, m ≤ i → i < n → klt (pAtB l i).1 k = false) := by
          intro i h1 h2
          by_cases e : i = m
          · subst e; exact hk
          · cases hi : klt (pAtB l i).1 k with
            | false => rfl
            | true =>
              have := klt_trans (HA.out.at (show m < i by omega) (by have := HN.out; omega)) hi
              rw [hk] at this
              cases this
        generalize cmpV (pAtB l m).1 k = z at *
        clear hk HK
        go_wp2
        go_roundw
        case rel => exact ⟨lo, m, rfl, rfl, hm1, by omega, HLO.out, HH1.out, HB1.out⟩
        case measure => simp [intOf]; omega
    · have hlt' : ¬ (lo : Int) < (hi : Int) := by omega
      have e : hi = lo := by omega
      subst e
      have HP : Hid (hi = pos l k) := pos_uniq l k hi (by rw [← HN.out]; exact hin) HLO.out (fun h => HHI.out hi (Nat.le_refl _) (by rw [HN.out]; exact h))
      by_cases hn : hi < n
      · have hn' : (hi : Int) < (n : Int) := by omega
        obtain ⟨b, off, hab, _, _, _⟩ := Rw.at (Pr.below H0.out HB.out) (by omega)
        subst hab
        obtain ⟨d0, d1⟩ := Pr.cells (Pr.below H0.out HB.out) (i := hi) (by have := HN.out; omega)
        have HK := hid (cmpV_cases (pAtB l hi).1 k)
        go_wp2_with fail
        refine (pairFor1_any _ _ k wr).mono ?_
        rintro e w1 ⟨rfl, hb⟩
        have HB1 := hid (Below.then' HB.out hb (Nat.le_refl _))
        clear hb d0 d1 HB
        by_cases hk : (pAtB l hi).1 = k
        · have hv : (cmpV (pAtB l hi).1 k == 0) = true := by
            rcases HK.out with h | ⟨_, h⟩ | ⟨_, h, _⟩
            · rw [hk, klt_irrefl] at h; cases h.1
            · rw [h]; rfl
            · exact absurd hk h
          have HR : Hid (there l k = true) := by
            show _ = _
            unfold there
            rw [← HP.out]
            exact decide_eq_true ⟨by rw [← HN.out]; exact hn, hk⟩
          generalize cmpV (pAtB l hi).1 k = z at *
          clear hk HK
          go_wp2
          go_ret2
          exact ⟨by rw [HR.out, ← HP.out]; rfl, HB1.out⟩
        · have hv : (cmpV (pAtB l hi).1 k == 0) = false := by
            rcases HK.out with ⟨_, h⟩ | ⟨h, _⟩ | ⟨_, _, h⟩
            · rw [h]; rfl
            · exact absurd h hk
            · rw [h]; rfl
          have HR : Hid (there l k = false) := by
            show _ = _
            unfold there
            rw [← HP.out]
            exact decide_eq_false fun h => hk h.2
          generalize cmpV (pAtB l hi).1 k = z at *
          clear hk HK
          go_wp2
          go_ret2
          exact ⟨by rw [HR.out, ← HP.out]; rfl, HB1.out⟩
      · have hn' : ¬ (hi : Int) < (n : Int) := by omega
        have HR : Hid (there l k = false) := by
          show _ = _
          unfold there
          rw [← HP.out]
          exact decide_eq_false fun h => hn (by rw [HN.out]; exact h.1)
        go_wp2
        go_ret2
        exact ⟨by rw [HR.out, ← HP.out]; rfl, HB.out⟩
set_option maxHeartbeats 1000000 in
theorem pairFor_any (S : Nat → Prop) (b : Nat) (t : T) (k : ByteArray) (w : World) (h : Limb w S b t) (ha : Asc t.ps) (hs : t.ps.length ≤ 1048576) :
    Calls Tryz.prog 115 #[.pointer (some ⟨b, 0, none⟩), .string k] w fun e w' => e = .returned (.tuple #[.int .i64 (pos t.ps k : Nat), .bool (there t.ps k)]) ∧ Below w.heap.size w w' := by
  obtain ⟨ap, cp, ak, ck, A, c0, c1, hp, hk, hkid, _, _⟩ := h.see
  clear c1 hk hkid h
  have HP := hid hp
  clear hp
  go_enter Tryz.func115, Tryz.ntmps115
  go_wp2_with fail
  refine (bsearch_any S ap _ cp t.ps k w HP.out ha hs).mono ?_
  rintro e w1 ⟨rfl, hb⟩
  have HB := hid hb
  clear hb c0
  generalize hp : pos t.ps k = p
  generalize ht : there t.ps k = q
  have HE := hid (And.intro hp ht)
  clear hp ht
  go_wp2
  go_ret2
  exact ⟨by rw [HE.out.1, HE.out.2]; rfl, HB.out⟩
end Go.Proofs.YtgnjknbgahickacGreatDoor
/-
  kidFor, get: the way down to a key.
-/
namespace Go.Proofs.YtgnjknbgahickacGreatDoor
open Go.RowKit
theorem kidF_stop {ks : List T} {k : ByteArray} {f p : Nat} (h : ¬ (p + 1 < ks.length ∧ klt k (tAt ks (p + 1)).least = false)) : kidF ks k f p = p := by
  cases f with
  | zero => rfl
  | succ f => rw [kidF, if_neg h]
set_option maxHeartbeats 4000000 in
theorem kidFor_any (S : Nat → Prop) (b : Nat) (t : T) (k : ByteArray) (w : World) (h : Limb w S b t) (hf : ∀ x ∈ t.ks, x.full false = true) (hs : t.ks.length ≤ 1048576) :
    Calls Tryz.prog 114 #[.pointer (some ⟨b, 0, none⟩), .string k] w fun e w' => e = .returned (.int .i64 (kidOf t.ks k : Nat)) ∧ ∃ q, w' = w.drewN q := by
  have H0 := hid h
  have HF := hid hf
  clear h hf
  go_enter Tryz.func114, Tryz.ntmps114
  go_wp2_with fail
  go_loopw [5] (fun x wr => ∃ (p f q : Nat), x = .int .i64 p ∧ wr = w.drewN q ∧ Hid (kidF t.ks k f p = kidOf t.ks k) ∧ t.ks.length ≤ p + f ∧ p ≤ t.ks.length) (fun x _ => t.ks.length - (intOf x).toNat)
  case atStart => exact ⟨0, t.ks.length, 0, rfl, rfl, rfl, by omega, Nat.zero_le _⟩
  case round =>
    obtain ⟨p, f, q, rfl, rfl, HK, hpf, hpl⟩ := hrel
    have HL := hid (H0.out.kept (Below.drewN' (Below.refl _ _) q))
    obtain ⟨ap, cp, ak, ck, A, c0, c1, _, hk, hkid, _, _⟩ := HL.out.see
    have hck := (Rw.len hk).2
    by_cases hlt : p + 1 < t.ks.length
    · have hlt' : (p : Int) + 1 < (t.ks.length : Int) := by omega
      obtain ⟨x, off, rfl, _, _, hc⟩ := Rw.at hk (by omega)
      have d0 := hc (p + 1) _ (ptrs_at A _ (p + 1) hlt)
      obtain ⟨S1, _, hk1⟩ := hkid (p + 1) hlt
      have HK1 := hid hk1
      have HNE := hid (full_ne _ _ (HF.out _ (tAt_mem hlt)))
      simp only [ptr] at d0
      clear hc hk hkid hk1
      generalize A (p + 1) = bk at *
      go_wp2_with fail
      refine (least_any S1 bk _ _ HK1.out HNE.out).mono ?_
      rintro e w1 ⟨rfl, q1, rfl⟩
      cases hkl : klt k (tAt t.ks (p + 1)).least with
      | false =>
        obtain ⟨f, rfl⟩ : ∃ g, f = g + 1 := ⟨f - 1, by omega⟩
        have HK2 : Hid (kidF t.ks k f (p + 1) = kidOf t.ks k) := by
          have := HK.out
          rw [kidF, if_pos ⟨hlt, hkl⟩] at this
          exact this
        have hle : Op.bytesLess k.toList (tAt t.ks (p + 1)).least.toList = false := hkl
        generalize (tAt t.ks (p + 1)).least = z at *
        clear hkl
        rcases tri z k with ⟨h1, h2, h3, h4⟩ | rfl | ⟨h1, h2, h3, h4⟩
        · go_wp2
          go_roundw
          case rel => exact ⟨p + 1, f, q + q1, by go_num, rfl, HK2.out, by omega, by omega⟩
          case measure => simp [intOf]; omega
        · go_wp2
          go_roundw
          case rel => exact ⟨p + 1, f, q + q1, by go_num, rfl, HK2.out, by omega, by omega⟩
          case measure => simp [intOf]; omega
        · rw [hle] at h2; cases h2
      | true =>
        have HK2 : Hid (kidOf t.ks k = p) := by
          have := HK.out
          rw [kidF_stop (by intro h; rw [hkl] at h; cases h.2)] at this
          exact this.symm
        have hle : Op.bytesLess k.toList (tAt t.ks (p + 1)).least.toList = true := hkl
        generalize (tAt t.ks (p + 1)).least = z at *
        clear hkl
        rcases tri z k with ⟨h1, h2, h3, h4⟩ | rfl | ⟨h1, h2, h3, h4⟩
        · rw [hle] at h2; cases h2
        · rw [less_irrefl] at hle; cases hle
        · go_wp2
          go_ret
          exact ⟨by rw [HK2.out]; rfl, q + q1, rfl⟩
    · have hlt' : ¬ (p : Int) + 1 < (t.ks.length : Int) := by omega
      have HK2 : Hid (kidOf t.ks k = p) := by
        have := HK.out
        rw [kidF_stop (fun h => hlt h.1)] at this
        exact this.symm
      clear hk hkid
      go_wp2
      go_ret
      exact ⟨by rw [HK2.out]; rfl, q, rfl⟩
end Go.Proofs.YtgnjknbgahickacGreatDoor
/-
  get: what lies beside a key in a tree.
-/
namespace Go.Proofs.YtgnjknbgahickacGreatDoor
open Go.RowKit
/-- What a look-up answers. -/
def gotV : Option ByteArray → Value
  | none => .tuple #[.string ⟨#[]⟩, .bool false]
  | some v => .tuple #[.string v, .bool true]
structure GetOk (t : T) : Prop where
  asc : Asc t.all
  br : t.ks ≠ [] → t.ps = [] ∧ ∀ x ∈ t.ks, x.full false = true
  few : t.ps.length ≤ 8 ∧ t.ks.length ≤ 8
theorem full_getOk {t : T} {r : Bool} (h : t.full r = true) (ha : Asc t.all) : GetOk t := by
  obtain ⟨ps, ks⟩ := t
  by_cases hk : ks = []
  · subst hk
    exact ⟨ha, fun h => absurd rfl h, by have := full_lf h; show ps.length ≤ 8 ∧ 0 ≤ 8; omega⟩
  · have := full_br h hk
    refine ⟨ha, fun _ => this.2.2, ?_, ?_⟩
    · show ps.length ≤ 8
      rw [this.2.2.1]
      decide
    · show ks.length ≤ 8
      omega
theorem szL_mem : ∀ (ks : List T) (x : T), x ∈ ks → x.size ≤ szL ks
  | k :: ks, x, h => by
    rw [szL]
    rcases List.mem_cons.1 h with rfl | h
    · omega
    · have := szL_mem ks x h; omega
theorem kid_size {ps : List PB} {ks : List T} {x : T} (h : x ∈ ks) : x.size < (T.mk ps ks).size := by
  have := szL_mem ks x h
  rw [T.size]
  omega
set_option maxHeartbeats 4000000 in
theorem get_any (S : Nat → Prop) (b : Nat) (t : T) (k : ByteArray) (w : World) (h : Limb w S b t) (hg : GetOk t) :
    Calls Tryz.prog 72 #[.pointer (some ⟨b, 0, none⟩), .string k] w fun e w' => e = .returned (gotV (fnd t.all k)) ∧ Below w.heap.size w w' := by
  have H0 := hid h
  have HG := hid hg
  clear h hg
  go_enter Tryz.func72, Tryz.ntmps72
  go_wp2_with fail
  go_loopg [0] t.size (fun m p wr => ∃ (b' : Nat) (S' : Nat → Prop) (t' : T) (q : Nat), p = .pointer (some ⟨b', 0, none⟩) ∧ wr = w.drewN q ∧ Hid (Limb w S' b' t') ∧ Hid (GetOk t' ∧ fnd t'.all k = fnd t.all k ∧ m = t'.size))
  case atStart => exact ⟨b, S, t, 0, rfl, rfl, H0.out, HG.out, rfl, rfl⟩
  case round =>
    obtain ⟨b', S', t', q, rfl, rfl, HL, HT⟩ := hrel
    have HL1 := hid (HL.out.kept (Below.drewN' (Below.refl _ _) q))
    go_wp2_with fail
    refine (isLeaf_any S' b' t' _ HL1.out).mono ?_
    rintro e w1 ⟨rfl, rfl⟩
    by_cases hk : t'.ks = []
    · have e0 : decide (t'.ks.length = 0) = true := by rw [hk]; rfl
      rw [e0]
      have hall : t'.all = t'.ps := by obtain ⟨ps, ks⟩ := t'; simp only [T.ks] at hk; subst hk; simp [T.all, allL, T.ps]
      have HA : Hid (Asc t'.ps) := by have := HT.out.1.asc; rw [hall] at this; exact this
      have HR : Hid (fnd t.all k = if there t'.ps k = true then some (pAtB t'.ps (pos t'.ps k)).2 else none) := by
        show _ = _
        rw [← HT.out.2.1, hall, pos_fnd k HA.out]
        simp [there]
      have HPL := hid HT.out.1.few.1
      clear hk e0 hall
      go_wp2_with fail
      refine (pairFor_any S' b' t' k _ HL1.out HA.out (by have := HPL.out; omega)).mono ?_
      rintro e w2 ⟨rfl, hb⟩
      have HB := hid (Below.then' (Below.drewN' (Below.refl w.heap.size w) q) hb (Nat.le_refl _))
      have HL2 := hid (HL1.out.kept hb)
      clear hb HL1
      cases hth : there t'.ps k with
      | false =>
        have HR2 : Hid (fnd t.all k = none) := by have := HR.out; rw [hth] at this; show _ = _; simpa using this
        generalize pos t'.ps k = p at *
        clear hth
        go_wp2
        go_ret2
        exact ⟨by rw [HR2.out]; rfl, HB.out⟩
      | true =>
        have HR2 : Hid (fnd t.all k = some (pAtB t'.ps (pos t'.ps k)).2) := by have := HR.out; rw [hth] at this; show _ = _; simpa using this
        have hlt : pos t'.ps k < t'.ps.length := (of_decide_eq_true hth).1
        obtain ⟨ap, cp, ak, ck, A, c0, c1, hp, hk, hkid, _, _⟩ := HL2.out.see
        have hck := (Rw.len hp).2
        obtain ⟨x, off, rfl, _, _, _⟩ := Rw.at hp (by omega)
        obtain ⟨d0, d1⟩ := Pr.cells hp hlt
        have hlt' : (pos t'.ps k : Int) < (t'.ps.length : Int) := by omega
        generalize (pAtB t'.ps (pos t'.ps k)).2 = z at *
        generalize pos t'.ps k = p at *
        clear hth hk hkid hp c1 HA HR
        go_wp2
        go_ret2
        exact ⟨by rw [HR2.out]; rfl, HB.out⟩
    · have e0 : decide (t'.ks.length = 0) = false := by
        refine decide_eq_false fun h => hk (List.eq_nil_of_length_eq_zero h)
      rw [e0]
      obtain ⟨hps, hfl⟩ := HT.out.1.br hk
      have hall : t'.all = allL t'.ks := by obtain ⟨ps, ks⟩ := t'; simp only [T.ps] at hps; subst hps; simp [T.all, T.ks]
      have hasc := HT.out.1.asc
      rw [hall] at hasc
      obtain ⟨hf1, hf2⟩ := kid_fnd (k := k) hk hfl hasc
      obtain ⟨hq1, _, _⟩ := kidOf_spec k hk
      have HC := hid (fun m => kidFor_any S' b' t' k ((w.drewN q).drewN m) (HL1.out.kept (Below.drewN' (Below.refl _ _) m)) hfl (by have := HT.out.1.few; omega))
      obtain ⟨ap, cp, ak, ck, A, c0, c1, _, hkk, hkid, _, _⟩ := HL1.out.see
      have hck := (Rw.len hkk).2
      obtain ⟨x, off, rfl, _, _, hc⟩ := Rw.at hkk (by omega)
      have d0 := hc (kidOf t'.ks k) _ (ptrs_at A _ _ hq1)
      obtain ⟨S1, _, hk1⟩ := hkid (kidOf t'.ks k) hq1
      simp only [ptr] at d0
      have HT1 : Hid (GetOk (tAt t'.ks (kidOf t'.ks k)) ∧ fnd (tAt t'.ks (kidOf t'.ks k)).all k = fnd t.all k ∧ (tAt t'.ks (kidOf t'.ks k)).size < t'.size) := by
        refine ⟨full_getOk (hfl _ (tAt_mem hq1)) hf2, ?_, ?_⟩
        · rw [← hf1, ← hall]; exact HT.out.2.1
        · obtain ⟨ps, ks⟩ := t'
          exact kid_size (tAt_mem hq1)
      have HL3 : Hid (Limb w S1 (A (kidOf t'.ks k)) (tAt t'.ks (kidOf t'.ks k))) := hk1.kept (undrew w q)
      have hq' : (kidOf t'.ks k : Int) < (t'.ks.length : Int) := by omega
      clear hc hkk hkid hk1 hf1 hf2 hasc hall hfl hps hk e0
      generalize A (kidOf t'.ks k) = bk at *
      generalize tAt t'.ks (kidOf t'.ks k) = tk at *
      generalize kidOf t'.ks k = p at *
      generalize hW : w.drewN q = W at *
      have HW := hid hW
      clear hW
      go_wp2_with fail
      go_quiet (first | (go_at_call 114; exact Calls.quiet_of (HC.out _)) | fail)
      go_wp2
      go_roundg tk.size
      case measure => have := HT.out.2.2; have := HT1.out.2.2; omega
      case rel => exact ⟨bk, S1, tk, q + nq, rfl, by rw [← HW.out, World.drewN_drewN], HL3.out, HT1.out.1, HT1.out.2.1, rfl⟩
end Go.Proofs.YtgnjknbgahickacGreatDoor
/-
  spec.TreeGet, impl.TreeGet: the same.
-/
namespace Go.Proofs.YtgnjknbgahickacGreatDoor
open Go.RowKit
def getV (ns : List NB) (k : ByteArray) : Option ByteArray := if kOk k = true then fnd (alV ns) k else none
theorem okT_get {ns : List NB} {t : T} (h : okT ns = some t) : GetOk t := by
  have hf := okT_facts h
  by_cases hne : ns.length = 0
  · rw [hf.nil hne]
    exact ⟨List.Pairwise.nil, fun h => absurd rfl h, by decide⟩
  · exact full_getOk ((okT_good hne).1 h).full (pOk_asc hf.ok)
def fndF (l : List PB) (k : ByteArray) : Nat → Nat → Option ByteArray
  | 0, _ => none
  | f + 1, j => if (pAtB l j).1 = k then some (pAtB l j).2 else fndF l k f (j + 1)
theorem fndF_eq (l : List PB) (k : ByteArray) : ∀ (f j : Nat), j + f = l.length → fndF l k f j = fnd (l.drop j) k
  | 0, j, h => by rw [List.drop_eq_nil_of_le (by omega)]; rfl
  | f + 1, j, h => by
    rw [fndF, ← List.getElem_cons_drop (by omega : j < l.length), fnd, List.findSome?_cons, pAtB_lt (by omega)]
    by_cases e : l[j].1 = k
    · simp [e]
    · simp only [e, if_false]
      exact fndF_eq l k f (j + 1) (by omega)
set_option maxHeartbeats 2000000 in
theorem implTreeGet_any (S : Nat → Prop) (an : Option Addr) (nn cn : Nat) (ns : List NB) (k : ByteArray) (w : World) (hN : Nr w S (.slice an nn cn) ns) :
    Calls Tryz.prog 43 #[.agg #[.slice an nn cn], .string k] w fun e w' => e = .returned (gotV (getV ns k)) ∧ Below w.heap.size w w' := by
  have HN := hid hN
  have h1 := hN.len.2.1
  have h2 := hN.len.2.2
  clear hN
  have HB0 := hid (below_new (o := .cells #[.slice an nn cn] 30) (w := w) (Below.refl _ _))
  go_enter Tryz.func43, Tryz.ntmps43
  go_wp2_with fail
  refine (rootOf_any S an nn cn ns _ (HN.out.below HB0.out)).mono ?_
  generalize w.alloc (.cells #[.slice an nn cn] 30) = U at *
  rintro e w1 ⟨hpost, hb1⟩
  have HB1 : Hid (Below w.heap.size w w1) := HB0.out.trans (hb1.mono HB0.out.size)
  clear hb1
  cases hr : okT ns with
  | none =>
    rw [hr] at hpost
    have he : e = .returned (.pointer none) := hpost
    subst he
    have HR : Hid (getV ns k = none) := by
      show _ = _
      rw [getV, alV, hr]
      split <;> rfl
    clear hpost hr
    go_wp2
    go_ret2
    exact ⟨by rw [HR.out]; rfl, HB1.out⟩
  | some t =>
    rw [hr] at hpost
    obtain ⟨b, he, hL⟩ := hpost
    subst he
    have HG := hid (okT_get hr)
    have HL := hid hL
    have HR : Hid (alV ns = t.all) := by show _ = _; rw [alV, hr]
    clear hL hr
    go_wp2_with fail
    refine (implKeyOk_any k w1).mono ?_
    rintro e w2 ⟨rfl, rfl⟩
    cases hk : kOk k with
    | false =>
      have HR2 : Hid (getV ns k = none) := by show _ = _; rw [getV, hk]; rfl
      clear hk
      go_wp2
      go_ret2
      exact ⟨by rw [HR2.out]; rfl, HB1.out⟩
    | true =>
      have HR2 : Hid (getV ns k = fnd t.all k) := by show _ = _; rw [getV, hk, HR.out]; rfl
      clear hk
      go_wp2_with fail
      refine (get_any _ b t k _ HL.out HG.out).mono ?_
      rintro e w3 ⟨rfl, hb⟩
      have HB3 := hid (Below.then' HB1.out hb (Nat.le_refl _))
      clear hb
      generalize fnd t.all k = o at *
      cases o with
      | none =>
        simp only [gotV]
        go_wp2
        go_ret2
        exact ⟨by rw [HR2.out]; rfl, HB3.out⟩
      | some v =>
        simp only [gotV]
        go_wp2
        go_ret2
        exact ⟨by rw [HR2.out]; rfl, HB3.out⟩
set_option maxHeartbeats 4000000 in
theorem specTreeGet_any (ns : List NB) (hlen : ns.length ≤ 1048576) (hsm : smallN ns) (S : Nat → Prop) (an : Option Addr) (nn cn : Nat) (k : ByteArray) (w : World) (hN : Nr w S (.slice an nn cn) ns) :
    Calls Tryz.prog 40 #[.agg #[.slice an nn cn], .string k] w fun e w' => e = .returned (gotV (getV ns k)) ∧ Below w.heap.size w w' := by
  have h1 := hN.len.2.1
  have h2 := hN.len.2.2
  have HB0 := hid (below_new (o := .cells #[.slice an nn cn] 30) (w := w) (Below.refl _ _))
  have K0 := hid (Bk.new w 30 [.slice an nn cn])
  have H0 := hid (hN.below HB0.out)
  have HLS := hid (And.intro hlen hsm)
  clear hN hlen hsm
  go_enter Tryz.func40, Tryz.ntmps40
  go_wp2_with fail
  refine (specKeyOk_any k _).mono ?_
  generalize w.alloc (.cells #[.slice an nn cn] 30) = U at *
  rintro e w1 ⟨rfl, rfl⟩
  cases hk : kOk k with
  | false =>
    have HR : Hid (getV ns k = none) := by show _ = _; rw [getV, hk]; rfl
    clear hk
    go_wp2
    go_ret2
    exact ⟨by rw [HR.out]; rfl, HB0.out⟩
  | true =>
    have HR : Hid (getV ns k = fndF (alV ns) k (alV ns).length 0) := by
      show _ = _
      rw [getV, hk, if_pos rfl, fndF_eq _ _ _ _ (by omega)]
      rfl
    clear hk
    have c0 := K0.out.cell (j := 0) rfl
    go_wp2_with fail
    refine (specTreeAll_any ns HLS.out.1 HLS.out.2 S an nn cn _ H0.out).mono ?_
    rintro e w1 ⟨v, rfl, hO, hb⟩
    obtain ⟨a, n, c, hv, hn⟩ := hO.shape'
    subst hv
    have HB1 := hid (Below.then' HB0.out hb (Nat.le_refl _))
    have HP : Hid (Pr w1 (fun _ => True) (.slice a n c) (alV ns)) := hO.pr (fun _ _ _ _ => trivial)
    have hnl : n ≤ 200 := by rw [hn.out]; exact alV_len ns
    have hnc := (Rw.len HP.out).2
    rw [← hn.out] at HR
    clear hb hO c0 H0 K0 HB0
    generalize alV ns = l at *
    go_wp2_with fail
    go_loopw [14] (fun x wr => ∃ j f : Nat, x = .int .i64 j ∧ j + f = n ∧ Hid (getV ns k = fndF l k f j) ∧ Hid (Below w.heap.size w wr) ∧ Hid (Below w1.heap.size w1 wr)) (fun x _ => n - (intOf x).toNat)
    case atStart => exact ⟨0, n, rfl, by omega, HR.out, HB1.out, Below.refl _ _⟩
    case round =>
      obtain ⟨j, f, rfl, hjf, HF, HBW, HBV⟩ := hrel
      cases f with
      | zero =>
        have hlt : ¬ (j : Int) < (n : Int) := by omega
        go_wp2
        go_ret2
        exact ⟨by rw [HF.out]; rfl, HBW.out⟩
      | succ f =>
        have hlt : (j : Int) < (n : Int) := by omega
        have hj0 : (0 : Int) ≤ (j : Int) := by omega
        have hp := HP.out.below HBV.out
        obtain ⟨b, off, hab, _, _, _⟩ := Rw.at hp (by omega)
        subst hab
        obtain ⟨d0, d1⟩ := Pr.cells hp (i := j) (by have := hn.out; omega)
        clear hp
        have HB2 := hid (HBW.out.alloc HBW.out.size (.cells #[.string (pAtB l j).1, .string (pAtB l j).2] 53))
        have HB3 := hid (HBV.out.alloc HBV.out.size (.cells #[.string (pAtB l j).1, .string (pAtB l j).2] 53))
        have HF2 := HF.out
        rw [fndF] at HF2
        by_cases e : (pAtB l j).1 = k
        · rw [if_pos e] at HF2
          have HF3 := hid HF2
          rw [e] at d0 HB2
          generalize (pAtB l j).2 = z at *
          clear HF2 HF e
          have hkk : (k.toList == k.toList) = true := by simp
          go_wp2
          go_ret2
          exact ⟨by rw [HF3.out]; rfl, HB2.out⟩
        · rw [if_neg e] at HF2
          have HF3 := hid HF2
          have hne := str_beq e
          generalize (pAtB l j).2 = z at *
          generalize (pAtB l j).1 = y at *
          clear HF2 HF e
          go_wp2
          go_roundw
          case rel => exact ⟨j + 1, f, by go_num, by omega, HF3.out, HB2.out, HB3.out⟩
          case measure => simp [intOf]; omega
end Go.Proofs.YtgnjknbgahickacGreatDoor
/-
  Keys and ranges: what the program's functions and the specification's answer, for all strings.
-/
namespace Go.Proofs.YtgnjknbgahickacGreatDoor
open Go.RowKit

def rng (lo hi : ByteArray) : Value := .agg #[.string lo, .string hi]
/-- Whether s lies ahead of the end hi. -/
def ahd (s hi : ByteArray) : Bool := decide (hi.toList = []) || Op.bytesLess s.toList hi.toList
def endV (hi : ByteArray) : Value := if hi.toList = [] then .iface 247 (.agg #[]) else .iface 245 (.string hi)

theorem as_key (v : Value) (w : World) : (Instr.typeAssert (.iface 245 v) 242 245 true).run Tryz.prog w = .ok (.tuple #[v, .bool true]) w := by
  simp [Instr.typeAssert, run_underlying Tryz.underlying245]
theorem as_key_no (v : Value) (w : World) : (Instr.typeAssert (.iface 247 v) 242 245 true).run Tryz.prog w = .ok (.tuple #[.string ByteArray.empty, .bool false]) w := by
  have hz : (zeroValue 245).run Tryz.prog w = .ok (.string ByteArray.empty) w := by kernel_rfl
  simp [Instr.typeAssert, run_underlying Tryz.underlying245, hz]
theorem as_no (v : Value) (w : World) : (Instr.typeAssert (.iface 247 v) 242 247 true).run Tryz.prog w = .ok (.tuple #[v, .bool true]) w := by
  simp [Instr.typeAssert, run_underlying Tryz.underlying247]

theorem endOf_any (lo hi : ByteArray) (w : World) :
    Calls Tryz.prog 200 #[rng lo hi] w fun e w' => e = .returned (endV hi) ∧ Below w.heap.size w w' := by
  unfold rng
  have hb : Below w.heap.size w (w.alloc (Obj.cells #[Value.string lo, Value.string hi] 55)) := (Below.refl _ _).alloc (Nat.le_refl _) _
  by_cases h : hi.toList = []
  · have HE : Hid (endV hi = .iface 247 (.agg #[])) := if_pos h
    go_enter Tryz.func200, Tryz.ntmps200
    go_wp2
    go_ret
    exact ⟨by rw [HE.out]; rfl, hb⟩
  · have HE : Hid (endV hi = .iface 245 (.string hi)) := if_neg h
    have h2 : hi.toList.isEmpty = false := by simpa using h
    go_enter Tryz.func200, Tryz.ntmps200
    go_wp2
    go_ret
    exact ⟨by rw [HE.out]; rfl, hb⟩
theorem isAhead_any (s hi : ByteArray) (w : World) :
    Calls Tryz.prog 199 #[.string s, endV hi] w fun e w' => e = .returned (.bool (ahd s hi)) ∧ Below w.heap.size w w' := by
  by_cases h : hi.toList = []
  · have HE : Hid (ahd s hi = true) := by show ahd s hi = true; simp [ahd, h]
    rw [show endV hi = .iface 247 (.agg #[]) from if_pos h]
    clear h
    have h1 := as_key_no (.agg #[])
    have h2 := as_no (.agg #[])
    go_enter Tryz.func199, Tryz.ntmps199
    go_wp2
    go_ret
    exact ⟨by rw [HE.out]; rfl, (Below.refl _ _).alloc (Nat.le_refl _) _⟩
  · have HE : Hid (ahd s hi = Op.bytesLess s.toList hi.toList) := by show ahd s hi = Op.bytesLess s.toList hi.toList; simp [ahd, h]
    rw [show endV hi = .iface 245 (.string hi) from if_neg h]
    clear h
    have h1 := as_key (.string hi)
    go_enter Tryz.func199, Tryz.ntmps199
    go_wp2
    go_ret
    exact ⟨by rw [HE.out]; rfl, Below.refl _ _⟩

/-- A range that lies in a new block, kept. -/
theorem s2 {w w1 : World} {lo hi : ByteArray} {T : TypeId} (h : Below (w.alloc (.cells #[.string lo, .string hi] T)).heap.size (w.alloc (.cells #[.string lo, .string hi] T)) w1) :
    w1.cell? ⟨w.heap.size, 0, none⟩ = some (.string lo) ∧ w1.cell? ⟨w.heap.size, 1, none⟩ = some (.string hi) ∧ Below (w.alloc (.cells #[.string lo, .string hi] T)).heap.size (w.alloc (.cells #[.string lo, .string hi] T)) w1 := by
  refine ⟨?_, ?_, h⟩
  · rw [h.cell (p := ⟨w.heap.size, 0, none⟩) (by simp), World.cell?_alloc_at (hn := rfl)]; rfl
  · rw [h.cell (p := ⟨w.heap.size, 1, none⟩) (by simp), World.cell?_alloc_at (hn := rfl)]; rfl
theorem s2k {w w1 w2 : World} {lo hi : ByteArray} {T : TypeId} (h2 : Below w1.heap.size w1 w2)
    (h : w1.cell? ⟨w.heap.size, 0, none⟩ = some (.string lo) ∧ w1.cell? ⟨w.heap.size, 1, none⟩ = some (.string hi) ∧ Below (w.alloc (.cells #[.string lo, .string hi] T)).heap.size (w.alloc (.cells #[.string lo, .string hi] T)) w1) :
    w2.cell? ⟨w.heap.size, 0, none⟩ = some (.string lo) ∧ w2.cell? ⟨w.heap.size, 1, none⟩ = some (.string hi) ∧ Below (w.alloc (.cells #[.string lo, .string hi] T)).heap.size (w.alloc (.cells #[.string lo, .string hi] T)) w2 :=
  s2 (h.2.2.trans (h2.mono h.2.2.size))
def rOk (lo hi : ByteArray) : Bool := decide (lo.size ≤ 17) && decide (hi.size ≤ 17) && ahd lo hi
def rHas (lo hi k : ByteArray) : Bool := rOk lo hi && kOk k && !Op.bytesLess k.toList lo.toList && ahd k hi

theorem implRangeOk_any (lo hi : ByteArray) (w : World) : Calls Tryz.prog 190 #[rng lo hi] w fun e w' => e = .returned (.bool (rOk lo hi)) ∧ Below w.heap.size w w' := by
  show Calls Tryz.prog 190 #[.agg #[.string lo, .string hi]] w _
  by_cases h : lo.size ≤ 17
  · have h' : (lo.size : Int) ≤ 17 := by omega
    by_cases h2 : hi.size ≤ 17
    · have h2' : (hi.size : Int) ≤ 17 := by omega
      have HE : Hid (rOk lo hi = ahd lo hi) := by show rOk lo hi = ahd lo hi; simp [rOk, h, h2]
      go_enter Tryz.func190, Tryz.ntmps190
      go_wp2_with fail
      go_region_held3 (fun w' => w'.cell? ⟨w.heap.size, 0, none⟩ = some (.string lo) ∧ w'.cell? ⟨w.heap.size, 1, none⟩ = some (.string hi) ∧ Below (w.alloc (.cells #[.string lo, .string hi] 55)).heap.size (w.alloc (.cells #[.string lo, .string hi] 55)) w') (first | exact s2 (below_drew _) | exact s2k hbC (by assumption))
        (first
          | (go_at_call 200; refine (endOf_any lo hi _).mono ?_; rintro e w' ⟨rfl, hbC⟩)
          | (go_at_call 199; refine (isAhead_any lo hi _).mono ?_; rintro e w' ⟨rfl, hbC⟩))
      rename_i hS
      have hB := hS.2.2
      clear hS
      go_wp2
      go_ret
      exact ⟨by rw [HE.out]; rfl, below_new hB⟩
    · have h2' : decide ((hi.size : Int) ≤ 17) = false := decide_eq_false (by omega)
      have HE : Hid (rOk lo hi = false) := by show rOk lo hi = false; simp [rOk, h2]
      go_enter Tryz.func190, Tryz.ntmps190
      go_wp2_with fail
      go_quiet (fail)
      go_wp2
      go_ret
      exact ⟨by rw [HE.out]; rfl, below_new (Below.drewN' (Below.refl _ _) _)⟩
  · have h' : decide ((lo.size : Int) ≤ 17) = false := decide_eq_false (by omega)
    have HE : Hid (rOk lo hi = false) := by show rOk lo hi = false; simp [rOk, h]
    go_enter Tryz.func190, Tryz.ntmps190
    go_wp2_with fail
    go_quiet (fail)
    go_wp2
    go_ret
    exact ⟨by rw [HE.out]; rfl, below_new (Below.drewN' (Below.refl _ _) _)⟩
end Go.Proofs.YtgnjknbgahickacGreatDoor
/-
  Keys and ranges, the specification's side, and the law's helpers over ranges.
-/
namespace Go.Proofs.YtgnjknbgahickacGreatDoor
open Go.RowKit

/-- A range is read whole out of its two cells. -/
theorem load_rng {w : World} {g : Nat} {lo hi : ByteArray} (c0 : w.cell? ⟨g, 0, none⟩ = some (.string lo)) (c1 : w.cell? ⟨g, 1, none⟩ = some (.string hi)) :
    (loadVar 55 ⟨g, 0, none⟩).run Tryz.prog w = .ok (rng lo hi) w := by
  show (loadVar 55 ⟨g, 0, none⟩).run Tryz.prog w = Result.ok (.agg #[.string lo, .string hi]) w
  go_simp
theorem results_rng {fn : Func} {p : Tmp} (h : fn.results = #[.cell p 55]) (tmps : Array Value) (w : World) (g : Nat) {lo hi : ByteArray} (hp : tmps.getD p undef = .pointer (some ⟨g, 0, none⟩))
    (c0 : w.cell? ⟨g, 0, none⟩ = some (.string lo)) (c1 : w.cell? ⟨g, 1, none⟩ = some (.string hi)) : (results fn tmps).run Tryz.prog w = .ok (rng lo hi) w := by
  have hp' : tmps[p]?.getD undef = .pointer (some ⟨g, 0, none⟩) := by simpa using hp
  simp [results, h, hp', asAddr, load_rng c0 c1]
theorem results_rng_bool {fn : Func} {p u : Tmp} (h : fn.results = #[.cell p 55, .tmp u]) (tmps : Array Value) (w : World) (g : Nat) {lo hi : ByteArray} {b : Value} (hp : tmps.getD p undef = .pointer (some ⟨g, 0, none⟩)) (hb : tmps.getD u undef = b)
    (c0 : w.cell? ⟨g, 0, none⟩ = some (.string lo)) (c1 : w.cell? ⟨g, 1, none⟩ = some (.string hi)) : (results fn tmps).run Tryz.prog w = .ok (.tuple #[rng lo hi, b]) w := by
  have hp' : tmps[p]?.getD undef = .pointer (some ⟨g, 0, none⟩) := by simpa using hp
  have hb' : tmps[u]?.getD undef = b := by simpa using hb
  simp [results, h, hp', hb', asAddr, load_rng c0 c1]

/-- Block g holds the range from lo to hi. -/
def Blk (w : World) (g : Nat) (lo hi : ByteArray) : Prop := w.heap[g]? = some (.cells #[.string lo, .string hi] 55 (0, 0))
theorem Blk.lt {w : World} {g : Nat} {lo hi : ByteArray} (h : Blk w g lo hi) : g < w.heap.size := by
  rcases Nat.lt_or_ge g w.heap.size with h' | h'
  · exact h'
  · rw [Blk, Array.getElem?_eq_none h'] at h; cases h
theorem Blk.kept {w w' : World} {g : Nat} {lo hi : ByteArray} (h : Blk w g lo hi) (hb : Below w.heap.size w w') : Blk w' g lo hi := (hb.block g h.lt).trans h
theorem Blk.facts {w : World} {g : Nat} {lo hi : ByteArray} (h : Blk w g lo hi) : w.cell? ⟨g, 0, none⟩ = some (.string lo) ∧ w.cell? ⟨g, 1, none⟩ = some (.string hi) ∧ w.frozen? ⟨g, 0, none⟩ = false ∧ w.frozen? ⟨g, 1, none⟩ = false := by
  unfold Blk at h
  exact ⟨by simp [World.cell?, h], by simp [World.cell?, h], by simp [World.frozen?, h], by simp [World.frozen?, h]⟩
theorem Blk.new (w : World) (lo hi : ByteArray) : Blk (w.alloc (.cells #[.string lo, .string hi] 55)) w.heap.size lo hi := heap_alloc_new _ _
theorem Blk.alloc {w : World} {g : Nat} {lo hi : ByteArray} (h : Blk w g lo hi) (o : Obj) : Blk (w.alloc o) g lo hi := (heap_alloc_old w o h.lt).trans h
/-- Three blocks: two ranges, and the one that is answered. -/
structure Trio (w v : World) (la ha lb hb : ByteArray) : Prop where
  bel : Below w.heap.size w v
  a : Blk v w.heap.size la ha
  b : Blk v (w.heap.size + 1) lb hb
  r : Blk v (w.heap.size + 1 + 1) ⟨#[]⟩ ⟨#[]⟩
theorem Trio.new (w : World) (la ha lb hb : ByteArray) : Trio w (((w.alloc (.cells #[.string la, .string ha] 55)).alloc (.cells #[.string lb, .string hb] 55)).alloc (.cells #[.string ⟨#[]⟩, .string ⟨#[]⟩] 55)) la ha lb hb :=
  ⟨below_new (below_new (below_new (Below.refl _ _))), ((Blk.new w la ha).alloc _).alloc _, by have := (Blk.new (w.alloc (.cells #[.string la, .string ha] 55)) lb hb).alloc (.cells #[.string ⟨#[]⟩, .string ⟨#[]⟩] 55); simpa using this, by have := Blk.new ((w.alloc (.cells #[.string la, .string ha] 55)).alloc (.cells #[.string lb, .string hb] 55)) ⟨#[]⟩ ⟨#[]⟩; simpa using this⟩
theorem Trio.step {w v v' : World} {la ha lb hb : ByteArray} (h : Trio w v la ha lb hb) (k : Below v.heap.size v v') : Trio w v' la ha lb hb := ⟨h.bel.trans (k.mono h.bel.size), h.a.kept k, h.b.kept k, h.r.kept k⟩

theorem specRangeOk_any (lo hi : ByteArray) (w : World) : Calls Tryz.prog 171 #[rng lo hi] w fun e w' => e = .returned (.bool (rOk lo hi)) ∧ Below w.heap.size w w' := by
  show Calls Tryz.prog 171 #[.agg #[.string lo, .string hi]] w _
  by_cases h : lo.size ≤ 17
  · have h' : decide ((17 : Int) < (lo.size : Int)) = false := decide_eq_false (by omega)
    by_cases h2 : hi.size ≤ 17
    · have h2' : decide ((17 : Int) < (hi.size : Int)) = false := decide_eq_false (by omega)
      by_cases h3 : hi.toList = []
      · have HE : Hid (rOk lo hi = true) := by show rOk lo hi = true; simp [rOk, h, h2, ahd, h3]
        go_enter Tryz.func171, Tryz.ntmps171
        go_wp2
        go_ret
        exact ⟨by rw [HE.out]; rfl, below_new (Below.refl _ _)⟩
      · have HE : Hid (rOk lo hi = Op.bytesLess lo.toList hi.toList) := by show rOk lo hi = Op.bytesLess lo.toList hi.toList; simp [rOk, h, h2, ahd, h3]
        have h4 : hi.toList.isEmpty = false := by simpa using h3
        go_enter Tryz.func171, Tryz.ntmps171
        go_wp2
        go_ret
        exact ⟨by rw [HE.out]; rfl, below_new (Below.refl _ _)⟩
    · have h2' : decide ((17 : Int) < (hi.size : Int)) = true := decide_eq_true (by omega)
      have HE : Hid (rOk lo hi = false) := by show rOk lo hi = false; simp [rOk, h2]
      go_enter Tryz.func171, Tryz.ntmps171
      go_wp2
      go_ret
      exact ⟨by rw [HE.out]; rfl, below_new (Below.refl _ _)⟩
  · have h' : decide ((17 : Int) < (lo.size : Int)) = true := decide_eq_true (by omega)
    have HE : Hid (rOk lo hi = false) := by show rOk lo hi = false; simp [rOk, h]
    go_enter Tryz.func171, Tryz.ntmps171
    go_wp2
    go_ret
    exact ⟨by rw [HE.out]; rfl, below_new (Below.refl _ _)⟩
end Go.Proofs.YtgnjknbgahickacGreatDoor
/-
  Points, ranges in common, ranges within ranges: what the program's functions and the specification's answer.
-/
namespace Go.Proofs.YtgnjknbgahickacGreatDoor
open Go.RowKit

theorem eqRange_same (lo hi : ByteArray) (w : World) : Calls Tryz.prog 138 #[rng lo hi, rng lo hi] w fun e w' => e = .returned (.bool true) ∧ Below w.heap.size w w' := by
  show Calls Tryz.prog 138 #[.agg #[.string lo, .string hi], .agg #[.string lo, .string hi]] w _
  go_enter Tryz.func138, Tryz.ntmps138
  go_wp2
  go_ret
  exact ⟨rfl, below_new (below_new (Below.refl _ _))⟩
/-- The lesser of two ends (none: the greatest). -/
def lsr (a b : ByteArray) : ByteArray := if a.toList = [] then b else if ahd a b then a else b
/-- The greater of two beginnings. -/
def mxl (a b : ByteArray) : ByteArray := if Op.bytesLess a.toList b.toList then b else a
def bth (la ha lb hb : ByteArray) : Bool := rOk la ha && rOk lb hb && rOk (mxl la lb) (lsr ha hb)
def bLo (la ha lb hb : ByteArray) : ByteArray := if bth la ha lb hb then mxl la lb else ⟨#[]⟩
def bHi (la ha lb hb : ByteArray) : ByteArray := if bth la ha lb hb then lsr ha hb else ⟨#[]⟩
theorem run_mxl (ts : Array TypeId) (t : TypeId) (a b : ByteArray) (w : World) : (Builtin.max_ ts t #[.string a, .string b]).run Tryz.prog w = .ok (.string (mxl a b)) w := by
  have e : (Builtin.max_ ts t #[.string a, .string b]).run Tryz.prog w = .ok (.string (if (!Op.bytesLess a.toList b.toList) = true then a else b)) w := by
    simp [Builtin.max_, Builtin.max2, Op.stringOp, asBool]
  rw [e]
  unfold mxl
  cases Op.bytesLess a.toList b.toList <;> rfl
theorem s2q {w w1 : World} (h : Below (w.alloc (.cells #[.string ⟨#[]⟩, .string ⟨#[]⟩] 55)).heap.size (w.alloc (.cells #[.string ⟨#[]⟩, .string ⟨#[]⟩] 55)) w1) :
    w1.cell? ⟨w.heap.size, 0, none⟩ = some (.string ⟨#[]⟩) ∧ w1.cell? ⟨w.heap.size, 1, none⟩ = some (.string ⟨#[]⟩) ∧ w1.frozen? ⟨w.heap.size, 0, none⟩ = false ∧ w1.frozen? ⟨w.heap.size, 1, none⟩ = false := by
  exact ((Blk.new w ⟨#[]⟩ ⟨#[]⟩).kept h).facts
theorem keep4 {w w1 : World} {g : Nat} {x y : Value} (h : Below w.heap.size w w1) (q0 : w.cell? ⟨g, 0, none⟩ = some x) (q1 : w.cell? ⟨g, 1, none⟩ = some y) (q2 : w.frozen? ⟨g, 0, none⟩ = false) (q3 : w.frozen? ⟨g, 1, none⟩ = false) :
    w1.cell? ⟨g, 0, none⟩ = some x ∧ w1.cell? ⟨g, 1, none⟩ = some y ∧ w1.frozen? ⟨g, 0, none⟩ = false ∧ w1.frozen? ⟨g, 1, none⟩ = false := by
  have hl : g < w.heap.size := block_lt q0
  exact ⟨by rw [h.cell (p := ⟨g, 0, none⟩) hl]; exact q0, by rw [h.cell (p := ⟨g, 1, none⟩) hl]; exact q1, by rw [h.frozen (p := ⟨g, 0, none⟩) hl]; exact q2, by rw [h.frozen (p := ⟨g, 1, none⟩) hl]; exact q3⟩
theorem s2q_then {C : Prop} {w w1 : World} (h : Below (w.alloc (.cells #[.string ⟨#[]⟩, .string ⟨#[]⟩] 55)).heap.size (w.alloc (.cells #[.string ⟨#[]⟩, .string ⟨#[]⟩] 55)) w1)
    (k : w1.cell? ⟨w.heap.size, 0, none⟩ = some (.string ⟨#[]⟩) → w1.cell? ⟨w.heap.size, 1, none⟩ = some (.string ⟨#[]⟩) → w1.frozen? ⟨w.heap.size, 0, none⟩ = false → w1.frozen? ⟨w.heap.size, 1, none⟩ = false → C) : C :=
  k (s2q h).1 (s2q h).2.1 (s2q h).2.2.1 (s2q h).2.2.2
theorem s2d_then {C : Prop} {w w1 : World} (h : Below (w.alloc (.cells #[.string ⟨#[]⟩, .string ⟨#[]⟩] 55)).drew.heap.size (w.alloc (.cells #[.string ⟨#[]⟩, .string ⟨#[]⟩] 55)).drew w1)
    (k : w1.cell? ⟨w.heap.size, 0, none⟩ = some (.string ⟨#[]⟩) → w1.cell? ⟨w.heap.size, 1, none⟩ = some (.string ⟨#[]⟩) → w1.frozen? ⟨w.heap.size, 0, none⟩ = false → w1.frozen? ⟨w.heap.size, 1, none⟩ = false → C) : C :=
  s2q_then (w := w) ⟨h.os, h.tape, h.output, h.size, h.block⟩ k
theorem keep4_then {C : Prop} {w w1 : World} {g : Nat} {x y : Value} (h : Below w.heap.size w w1) (q0 : w.cell? ⟨g, 0, none⟩ = some x) (q1 : w.cell? ⟨g, 1, none⟩ = some y) (q2 : w.frozen? ⟨g, 0, none⟩ = false) (q3 : w.frozen? ⟨g, 1, none⟩ = false)
    (k : w1.cell? ⟨g, 0, none⟩ = some x → w1.cell? ⟨g, 1, none⟩ = some y → w1.frozen? ⟨g, 0, none⟩ = false → w1.frozen? ⟨g, 1, none⟩ = false → C) : C :=
  k (keep4 h q0 q1 q2 q3).1 (keep4 h q0 q1 q2 q3).2.1 (keep4 h q0 q1 q2 q3).2.2.1 (keep4 h q0 q1 q2 q3).2.2.2
theorem Trio.cells {w v : World} {la ha lb hb : ByteArray} (T : Trio w v la ha lb hb) :
    v.cell? ⟨w.heap.size, 0, none⟩ = some (.string la) ∧ v.cell? ⟨w.heap.size, 1, none⟩ = some (.string ha) ∧ v.cell? ⟨w.heap.size + 1, 0, none⟩ = some (.string lb) ∧ v.cell? ⟨w.heap.size + 1, 1, none⟩ = some (.string hb) ∧ Trio w v la ha lb hb :=
  ⟨T.a.facts.1, T.a.facts.2.1, T.b.facts.1, T.b.facts.2.1, T⟩
theorem Trio.call {w v v' : World} {la ha lb hb : ByteArray} (k : Below v.heap.size v v') (h : v.cell? ⟨w.heap.size, 0, none⟩ = some (.string la) ∧ v.cell? ⟨w.heap.size, 1, none⟩ = some (.string ha) ∧ v.cell? ⟨w.heap.size + 1, 0, none⟩ = some (.string lb) ∧ v.cell? ⟨w.heap.size + 1, 1, none⟩ = some (.string hb) ∧ Trio w v la ha lb hb) :
    v'.cell? ⟨w.heap.size, 0, none⟩ = some (.string la) ∧ v'.cell? ⟨w.heap.size, 1, none⟩ = some (.string ha) ∧ v'.cell? ⟨w.heap.size + 1, 0, none⟩ = some (.string lb) ∧ v'.cell? ⟨w.heap.size + 1, 1, none⟩ = some (.string hb) ∧ Trio w v' la ha lb hb := (h.2.2.2.2.step k).cells
theorem Trio.big {w v v' : World} {la ha lb hb : ByteArray} (k : Below v.heap.size v v') (h : v.cell? ⟨w.heap.size, 0, none⟩ = some (.string la) ∧ v.cell? ⟨w.heap.size, 1, none⟩ = some (.string ha) ∧ v.cell? ⟨w.heap.size + 1, 0, none⟩ = some (.string lb) ∧ v.cell? ⟨w.heap.size + 1, 1, none⟩ = some (.string hb) ∧ Trio w v la ha lb hb) :
    w.heap.size + 1 + 1 < v'.heap.size := Nat.lt_of_lt_of_le h.2.2.2.2.r.lt k.size
theorem Trio.swap {w v : World} {la ha lb hb : ByteArray} {o o' : Obj} (hz : w.heap.size + 1 + 1 < v.heap.size) (h : (v.alloc o).cell? ⟨w.heap.size, 0, none⟩ = some (.string la) ∧ (v.alloc o).cell? ⟨w.heap.size, 1, none⟩ = some (.string ha) ∧ (v.alloc o).cell? ⟨w.heap.size + 1, 0, none⟩ = some (.string lb) ∧ (v.alloc o).cell? ⟨w.heap.size + 1, 1, none⟩ = some (.string hb) ∧ Trio w (v.alloc o) la ha lb hb) :
    (v.alloc o').cell? ⟨w.heap.size, 0, none⟩ = some (.string la) ∧ (v.alloc o').cell? ⟨w.heap.size, 1, none⟩ = some (.string ha) ∧ (v.alloc o').cell? ⟨w.heap.size + 1, 0, none⟩ = some (.string lb) ∧ (v.alloc o').cell? ⟨w.heap.size + 1, 1, none⟩ = some (.string hb) ∧ Trio w (v.alloc o') la ha lb hb := by
  have T := h.2.2.2.2
  refine Trio.cells ⟨⟨T.bel.os, T.bel.tape, T.bel.output, by simp; omega, fun k hk => ?_⟩, ?_, ?_, ?_⟩
  · rw [heap_alloc_old v o' (by omega), ← heap_alloc_old v o (by omega)]; exact T.bel.block k hk
  · exact (heap_alloc_old v o' (by omega)).trans ((heap_alloc_old v o (by omega)).symm.trans T.a)
  · exact (heap_alloc_old v o' (by omega)).trans ((heap_alloc_old v o (by omega)).symm.trans T.b)
  · exact (heap_alloc_old v o' (by omega)).trans ((heap_alloc_old v o (by omega)).symm.trans T.r)
theorem Trio.set {w v : World} {la ha lb hb : ByteArray} {g o : Nat} {x : Value} (hz : w.heap.size + 1 + 1 < g) (T : Trio w v la ha lb hb) : Trio w (v.setCell ⟨g, o, none⟩ x) la ha lb hb :=
  ⟨T.bel.setCell (p := ⟨g, o, none⟩) (by show w.heap.size ≤ g; omega) x, (Below.heap_setCell v ⟨g, o, none⟩ x _ (by show w.heap.size ≠ g; omega)).trans T.a,
    (Below.heap_setCell v ⟨g, o, none⟩ x _ (by show w.heap.size + 1 ≠ g; omega)).trans T.b, (Below.heap_setCell v ⟨g, o, none⟩ x _ (by show w.heap.size + 1 + 1 ≠ g; omega)).trans T.r⟩
theorem Trio.sets {w v : World} {la ha lb hb : ByteArray} {g : Nat} {x y : Value} (hz : w.heap.size + 1 + 1 < g) (h : v.cell? ⟨w.heap.size, 0, none⟩ = some (.string la) ∧ v.cell? ⟨w.heap.size, 1, none⟩ = some (.string ha) ∧ v.cell? ⟨w.heap.size + 1, 0, none⟩ = some (.string lb) ∧ v.cell? ⟨w.heap.size + 1, 1, none⟩ = some (.string hb) ∧ Trio w v la ha lb hb) :
    ((v.setCell ⟨g, 0, none⟩ x).setCell ⟨g, 1, none⟩ y).cell? ⟨w.heap.size, 0, none⟩ = some (.string la) ∧ ((v.setCell ⟨g, 0, none⟩ x).setCell ⟨g, 1, none⟩ y).cell? ⟨w.heap.size, 1, none⟩ = some (.string ha) ∧ ((v.setCell ⟨g, 0, none⟩ x).setCell ⟨g, 1, none⟩ y).cell? ⟨w.heap.size + 1, 0, none⟩ = some (.string lb) ∧ ((v.setCell ⟨g, 0, none⟩ x).setCell ⟨g, 1, none⟩ y).cell? ⟨w.heap.size + 1, 1, none⟩ = some (.string hb) ∧ Trio w ((v.setCell ⟨g, 0, none⟩ x).setCell ⟨g, 1, none⟩ y) la ha lb hb := ((h.2.2.2.2.set hz).set hz).cells
theorem Trio.of {w v : World} {la ha lb hb : ByteArray} (h : v.cell? ⟨w.heap.size, 0, none⟩ = some (.string la) ∧ v.cell? ⟨w.heap.size, 1, none⟩ = some (.string ha) ∧ v.cell? ⟨w.heap.size + 1, 0, none⟩ = some (.string lb) ∧ v.cell? ⟨w.heap.size + 1, 1, none⟩ = some (.string hb) ∧ Trio w v la ha lb hb) : Trio w v la ha lb hb := h.2.2.2.2
theorem cell_kept {w w1 : World} {g o : Nat} {x : Value} (h : w.cell? ⟨g, o, none⟩ = some x) (hb : Below w.heap.size w w1) : w1.cell? ⟨g, o, none⟩ = some x := (hb.cell (p := ⟨g, o, none⟩) (block_lt h)).trans h
theorem below_alloc (w : World) (o : Obj) : Below w.heap.size w (w.alloc o) := (Below.refl _ _).alloc (Nat.le_refl _) o
end Go.Proofs.YtgnjknbgahickacGreatDoor
/-
  Locks as plain data: names of transactions, rows of locks, what clashes, when a table of locks is right, asking and freeing.
-/
namespace Go.Proofs.YtgnjknbgahickacGreatDoor
open Go.RowKit
set_option linter.unusedVariables false
abbrev TX := Int × Int × Int
/-- A lock: its transaction, its range, whether it is exclusive. -/
abbrev LK := TX × (ByteArray × ByteArray) × Bool
def lk0 : LK := ((0, 0, 0), (⟨#[]⟩, ⟨#[]⟩), false)
def lAt (l : List LK) (i : Nat) : LK := l[i]?.getD lk0
theorem lAt_take {l : List LK} {i k : Nat} (h : i < k) : lAt (l.take k) i = lAt l i := by simp [lAt, List.getElem?_take_of_lt h]
theorem lAt_mem {l : List LK} {i : Nat} (h : i < l.length) : lAt l i ∈ l := by simp [lAt, h]
/-- The cells of a row of locks. -/
def lcs : List LK → List Value
  | [] => []
  | p :: ps => .int .i64 p.1.1 :: .int .i64 p.1.2.1 :: .int .i64 p.1.2.2 :: .string p.2.1.1 :: .string p.2.1.2 :: .bool p.2.2 :: lcs ps
theorem lcs_length (l : List LK) : (lcs l).length = l.length * 6 := by
  induction l with
  | nil => rfl
  | cons p ps ih => simp [lcs, ih]; omega
theorem lcs_append (l r : List LK) : lcs (l ++ r) = lcs l ++ lcs r := by
  induction l with
  | nil => rfl
  | cons p ps ih => simp only [lcs, List.cons_append, ih]
theorem lcs_take (l : List LK) : ∀ k, lcs (l.take k) = (lcs l).take (k * 6) := by
  induction l with
  | nil => intro k; simp [lcs]
  | cons p ps ih =>
    intro k
    cases k with
    | zero => rfl
    | succ k =>
      rw [show (k + 1) * 6 = k * 6 + 6 by omega]
      simp only [List.take_succ_cons, lcs, ih]
theorem lcs_at (l : List LK) : ∀ i, i < l.length → (lcs l)[i * 6]? = some (.int .i64 (lAt l i).1.1) ∧ (lcs l)[i * 6 + 1]? = some (.int .i64 (lAt l i).1.2.1) ∧ (lcs l)[i * 6 + 2]? = some (.int .i64 (lAt l i).1.2.2) ∧
    (lcs l)[i * 6 + 3]? = some (.string (lAt l i).2.1.1) ∧ (lcs l)[i * 6 + 4]? = some (.string (lAt l i).2.1.2) ∧ (lcs l)[i * 6 + 5]? = some (.bool (lAt l i).2.2) := by
  induction l with
  | nil => intro i h; exact absurd h (Nat.not_lt_zero _)
  | cons p ps ih =>
    intro i h
    cases i with
    | zero => exact ⟨rfl, rfl, rfl, rfl, rfl, rfl⟩
    | succ i =>
      have := ih i (by simpa using h)
      rw [show (i + 1) * 6 = i * 6 + 6 by omega, show i * 6 + 6 + 1 = i * 6 + 1 + 6 by omega, show i * 6 + 6 + 2 = i * 6 + 2 + 6 by omega, show i * 6 + 6 + 3 = i * 6 + 3 + 6 by omega, show i * 6 + 6 + 4 = i * 6 + 4 + 6 by omega, show i * 6 + 6 + 5 = i * 6 + 5 + 6 by omega]
      exact this
theorem lcs_set (l : List LK) (p : LK) : ∀ j, j < l.length → lcs (l.set j p) = ((((((lcs l).set (j * 6) (.int .i64 p.1.1)).set (j * 6 + 1) (.int .i64 p.1.2.1)).set (j * 6 + 2) (.int .i64 p.1.2.2)).set (j * 6 + 3) (.string p.2.1.1)).set (j * 6 + 4) (.string p.2.1.2)).set (j * 6 + 5) (.bool p.2.2) := by
  induction l with
  | nil => intro j h; exact absurd h (Nat.not_lt_zero _)
  | cons q l ih =>
    intro j h
    cases j with
    | zero => rfl
    | succ j =>
      have := ih j (by simpa using h)
      rw [show (j + 1) * 6 = j * 6 + 6 by omega, show j * 6 + 6 + 1 = j * 6 + 1 + 6 by omega, show j * 6 + 6 + 2 = j * 6 + 2 + 6 by omega, show j * 6 + 6 + 3 = j * 6 + 3 + 6 by omega, show j * 6 + 6 + 4 = j * 6 + 4 + 6 by omega, show j * 6 + 6 + 5 = j * 6 + 5 + 6 by omega]
      show Value.int .i64 q.1.1 :: Value.int .i64 q.1.2.1 :: Value.int .i64 q.1.2.2 :: Value.string q.2.1.1 :: Value.string q.2.1.2 :: Value.bool q.2.2 :: lcs (l.set j p) = _
      rw [this]
      rfl
theorem lcs_one (l : List LK) : ∀ u ∈ lcs l, u.oneCell' = true := by
  induction l with
  | nil => intro u hu; cases hu
  | cons p ps ih =>
    intro u hu
    simp only [lcs, List.mem_cons] at hu
    rcases hu with rfl | rfl | rfl | rfl | rfl | rfl | hu
    · rfl
    · rfl
    · rfl
    · rfl
    · rfl
    · rfl
    · exact ih u hu
/-- The slice value v leads to the locks l. -/
def Lr (w : World) (S : Nat → Prop) (v : Value) (l : List LK) : Prop := Rw w S v l.length (lcs l)
theorem Lr.to {w w' : World} {S R : Nat → Prop} {v : Value} {l : List LK} (h : Lr w S v l) (ho : Only R w w') (hd : ∀ b, S b → b < w.heap.size → ¬ R b) : Lr w' S v l := Rw.to h ho hd
theorem Lr.below {w w' : World} {S : Nat → Prop} {v : Value} {l : List LK} (h : Lr w S v l) (hb : Below w.heap.size w w') : Lr w' S v l := Rw.to h (only_of_below hb (fun _ => False)) (fun _ _ _ h => h)
theorem Lr.mono {w : World} {S R : Nat → Prop} {v : Value} {l : List LK} (h : Lr w S v l) (hd : ∀ b, S b → b < w.heap.size → R b) : Lr w R v l := Rw.mono h hd
theorem Lr.len {w : World} {S : Nat → Prop} {a : Option Addr} {n c : Nat} {l : List LK} (h : Lr w S (.slice a n c) l) : n = l.length ∧ n ≤ c ∧ c ≤ 9223372036854775807 := Rw.len h
theorem Lr.at {w : World} {S : Nat → Prop} {a : Option Addr} {n c : Nat} {l : List LK} (h : Lr w S (.slice a n c) l) (hp : 0 < n) : ∃ b off, a = some ⟨b, off, none⟩ ∧ S b ∧ b < w.heap.size ∧
    ∀ i, i < n → w.cell? ⟨b, off + i * 6, none⟩ = some (.int .i64 (lAt l i).1.1) ∧ w.cell? ⟨b, off + i * 6 + 1, none⟩ = some (.int .i64 (lAt l i).1.2.1) ∧ w.cell? ⟨b, off + i * 6 + 2, none⟩ = some (.int .i64 (lAt l i).1.2.2) ∧
      w.cell? ⟨b, off + i * 6 + 3, none⟩ = some (.string (lAt l i).2.1.1) ∧ w.cell? ⟨b, off + i * 6 + 4, none⟩ = some (.string (lAt l i).2.1.2) ∧ w.cell? ⟨b, off + i * 6 + 5, none⟩ = some (.bool (lAt l i).2.2) := by
  obtain ⟨b, off, h1, h2, h3, h4⟩ := Rw.at h hp
  refine ⟨b, off, h1, h2, h3, fun i hi => ?_⟩
  have hn := h.len.1
  obtain ⟨k0, k1, k2, k3, k4, k5⟩ := lcs_at l i (by omega)
  exact ⟨h4 _ _ k0, by rw [Nat.add_assoc]; exact h4 _ _ k1, by rw [Nat.add_assoc]; exact h4 _ _ k2, by rw [Nat.add_assoc]; exact h4 _ _ k3, by rw [Nat.add_assoc]; exact h4 _ _ k4, by rw [Nat.add_assoc]; exact h4 _ _ k5⟩
theorem lr_nil (w : World) (S : Nat → Prop) : Lr w S (.slice none 0 0) [] := rw_nil w S
/-- The first locks of a row. -/
theorem Lr.first {w : World} {S : Nat → Prop} {a : Option Addr} {n c : Nat} {l : List LK} (h : Lr w S (.slice a n c) l) (k : Nat) (hk : k ≤ n) : Lr w S (.slice a k c) (l.take k) := by
  obtain ⟨a', c', h1, h2, h3, h4, hn, h5⟩ := h
  cases h1
  have hl : (l.take k).length = k := by simp; omega
  unfold Lr
  rw [hl]
  refine ⟨a, c, rfl, by omega, h3, fun h0 => by subst h0; rfl, hn, fun hp => ?_⟩
  obtain ⟨b, off, h6, h7, h8, h9⟩ := h5 (by omega)
  refine ⟨b, off, h6, h7, h8, fun j u hu => h9 j u ?_⟩
  rw [lcs_take] at hu
  have hj : j < k * 6 := by
    rcases Nat.lt_or_ge j (k * 6) with h | h
    · exact h
    · rw [List.getElem?_eq_none (by simp; omega)] at hu; cases hu
  rwa [List.getElem?_take_of_lt hj] at hu
theorem Lr.offS {w : World} {S : Nat → Prop} {a : Option Addr} {n c : Nat} {l : List LK} (h : Lr w S (.slice a n c) l) (k : Nat) (hk : k ≤ n) : Lr w S (.slice a k c) (l.take k) := h.first k hk
theorem anyl_take {α : Type} (l : List α) (f : α → Bool) (d : α) {k : Nat} (h : k < l.length) : (l.take (k + 1)).any f = ((l.take k).any f || f (l[k]?.getD d)) := by
  rw [List.take_succ_eq_append_getElem h, List.any_append]
  simp [h]
theorem anyl_yes {α : Type} (l : List α) (f : α → Bool) (d : α) {k : Nat} (h : k < l.length) (hf : f (l[k]?.getD d) = true) : l.any f = true := by
  rw [List.any_eq_true]
  exact ⟨l[k], List.getElem_mem h, by simpa [h] using hf⟩
theorem rall_succ (f : Nat → Bool) (k : Nat) : (List.range (k + 1)).all f = ((List.range k).all f && f k) := by simp [List.range_succ, List.all_append]
theorem rall_no (f : Nat → Bool) {k n : Nat} (h : k < n) (hf : f k = false) : (List.range n).all f = false := by
  rw [List.all_eq_false]
  exact ⟨k, by simpa using h, by simp [hf]⟩
/-- When a name is right; when one is after another. -/
def txOk (x : TX) : Bool := decide (0 ≤ x.1) && (decide (x.1 ≤ 7) && (decide (1 ≤ x.2.1) && (decide (x.2.1 ≤ 999) && (decide (1 ≤ x.2.2) && decide (x.2.2 ≤ 999)))))
theorem txOk_iff (x : TX) : txOk x = true ↔ (0 ≤ x.1 ∧ x.1 ≤ 7 ∧ 1 ≤ x.2.1 ∧ x.2.1 ≤ 999 ∧ 1 ≤ x.2.2 ∧ x.2.2 ≤ 999) := by simp [txOk]
def txAfter (a b : TX) : Bool := txOk a && (txOk b && (decide (a.1 = b.1) && (decide (b.2.1 < a.2.1) || (decide (a.2.1 = b.2.1) && decide (b.2.2 < a.2.2)))))
def lkOk (x : LK) : Bool := txOk x.1 && rOk x.2.1.1 x.2.1.2
def clash (a b : LK) : Bool := !decide (a.1 = b.1) && ((a.2.2 || b.2.2) && bth a.2.1.1 a.2.1.2 b.2.1.1 b.2.1.2)
def anyC (l : List LK) (x : LK) : Bool := l.any (clash x)
def hasT (l : List LK) (t : TX) : Bool := l.any (fun y => decide (y.1 = t))
def hpk (l : List LK) (i : Nat) : Bool := lkOk (lAt l i) && !anyC (l.take i) (lAt l i)
def wpk (h l : List LK) (i : Nat) : Bool := lkOk (lAt l i) && (!hasT (l.take i) (lAt l i).1 && (anyC h (lAt l i) || anyC (l.take i) (lAt l i)))
def heldB (h : List LK) : Bool := (List.range h.length).all (hpk h)
def waitB (h l : List LK) : Bool := (List.range l.length).all (wpk h l)
/-- When a table of locks is right. -/
def lksOk (h l : List LK) : Bool := decide (h.length + l.length ≤ 60) && (heldB h && waitB h l)
theorem lksOk_len {h l : List LK} (e : lksOk h l = true) : h.length + l.length ≤ 60 := by
  simp [lksOk] at e
  exact e.1
/-- One lock more. -/
def mustW (h l : List LK) (x : LK) : Bool := anyC h x || anyC l x
def putL (h l : List LK) (x : LK) : List LK × List LK := if mustW h l x then (h, l ++ [x]) else (h ++ [x], l)
/-- LockAsk: the code, and the table. -/
def askC (h l : List LK) (x : LK) : Int := if lksOk h l && (lkOk x && !hasT l x.1) then (if h.length + l.length = 60 then 2 else if mustW h l x then 3 else 0) else 1
def askT (h l : List LK) (x : LK) : List LK × List LK := if lksOk h l && (lkOk x && !hasT l x.1) then (if h.length + l.length = 60 then ([], []) else putL h l x) else ([], [])
/-- LockFree over those that wait and aren't freed: the table, and what was granted. -/
def grant : List LK → List LK × List LK × List LK → List LK × List LK × List LK
  | [], s => s
  | y :: ys, (h, l, g) => grant ys (if mustW h l y then (h, l ++ [y], g) else (h ++ [y], l, g ++ [y]))
def others (l : List LK) (t : TX) : List LK := l.filter (fun y => !decide (y.1 = t))
def freeV (h l : List LK) (t : TX) : List LK × List LK × List LK := if lksOk h l then grant (others l t) (others h t, [], []) else ([], [], [])
end Go.Proofs.YtgnjknbgahickacGreatDoor
/-
  Names of transactions: TxOk and TxAfter of the program and of the specification; what the law's helpers do with a name.
-/
namespace Go.Proofs.YtgnjknbgahickacGreatDoor
open Go.RowKit
set_option linter.unusedVariables false
theorem load_tx {w : World} {g o : Nat} {c e n : Int} (c0 : w.cell? ⟨g, o, none⟩ = some (.int .i64 c)) (c1 : w.cell? ⟨g, o + 1, none⟩ = some (.int .i64 e)) (c2 : w.cell? ⟨g, o + 2, none⟩ = some (.int .i64 n)) :
    (loadVar 41 ⟨g, o, none⟩).run Tryz.prog w = .ok (.agg #[.int .i64 c, .int .i64 e, .int .i64 n]) w := by go_simp
theorem load_tx0 {w : World} {g : Nat} {c e n : Int} (c0 : w.cell? ⟨g, 0, none⟩ = some (.int .i64 c)) (c1 : w.cell? ⟨g, 1, none⟩ = some (.int .i64 e)) (c2 : w.cell? ⟨g, 2, none⟩ = some (.int .i64 n)) :
    (loadVar 41 ⟨g, 0, none⟩).run Tryz.prog w = .ok (.agg #[.int .i64 c, .int .i64 e, .int .i64 n]) w := by go_simp
theorem results_tx {fn : Func} {p : Tmp} (h : fn.results = #[.cell p 41]) (tmps : Array Value) (w : World) (g : Nat) {c e n : Int} (hp : tmps.getD p undef = .pointer (some ⟨g, 0, none⟩))
    (c0 : w.cell? ⟨g, 0, none⟩ = some (.int .i64 c)) (c1 : w.cell? ⟨g, 1, none⟩ = some (.int .i64 e)) (c2 : w.cell? ⟨g, 2, none⟩ = some (.int .i64 n)) : (results fn tmps).run Tryz.prog w = .ok (.agg #[.int .i64 c, .int .i64 e, .int .i64 n]) w := by
  have hp' : tmps[p]?.getD undef = .pointer (some ⟨g, 0, none⟩) := by simpa using hp
  simp [results, h, hp', asAddr, load_tx0 c0 c1 c2]
theorem eqIn_tx (c e n c' e' n' : Int) (w : World) : (Op.equalIn 10000 41 (.agg #[.int .i64 c, .int .i64 e, .int .i64 n]) (.agg #[.int .i64 c', .int .i64 e', .int .i64 n'])).run Tryz.prog w = .ok (decide ((c, e, n) = (c', e', n'))) w := by
  rw [run_equalIn_struct w 9999 41 _ _ (by kernel_rfl) (by kernel_rfl)]
  obtain ⟨f0, f1, f2, hu, n0, n1, n2, t0, t1, t2, o0, o1, o2⟩ : ∃ f0 f1 f2 : Field, Tryz.prog.underlying 41 = some (.struct #[f0, f1, f2]) ∧ f0.name = "C" ∧ f1.name = "E" ∧ f2.name = "N" ∧ f0.type = 3 ∧ f1.type = 3 ∧ f2.type = 3 ∧ f0.offset = 0 ∧ f1.offset = 1 ∧ f2.offset = 2 := ⟨_, _, _, Tryz.underlying41, rfl, rfl, rfl, rfl, rfl, rfl, rfl, rfl, rfl⟩
  have hl : (Tryz.prog.fieldsOf 41).toList = [f0, f1, f2] := by simp [Program.fieldsOf, hu]
  rw [hl]
  have p0 : ∀ (x y z : Value) (w : World), (Go.part 3 #[x, y, z] 0).run Tryz.prog w = .ok x w := fun x y z w => by kernel_rfl
  have p1 : ∀ (x y z : Value) (w : World), (Go.part 3 #[x, y, z] 1).run Tryz.prog w = .ok y w := fun x y z w => by kernel_rfl
  have p2 : ∀ (x y z : Value) (w : World), (Go.part 3 #[x, y, z] 2).run Tryz.prog w = .ok z w := fun x y z w => by kernel_rfl
  have hi : ∀ (a b : Int) (w : World), (Op.equalIn 9999 3 (.int .i64 a) (.int .i64 b)).run Tryz.prog w = .ok (a == b) w := fun a b w => run_equalIn_int w 9998 3 .i64 .i64 a b (by kernel_rfl)
  have q0 : ("C" : String) ≠ "_" := by decide
  have q1 : ("E" : String) ≠ "_" := by decide
  have q2 : ("N" : String) ≠ "_" := by decide
  simp only [Op.eqFields, n0, n1, n2, t0, t1, t2, o0, o1, o2, if_pos q0, if_pos q1, if_pos q2, Sem.run_bind, p0, p1, p2, hi, Result.andThen_ok, Sem.run_ite, Sem.run_pure]
  by_cases h0 : c = c'
  · by_cases h1 : e = e'
    · by_cases h2 : n = n'
      · simp [h0, h1, h2]
      · simp [h0, h1, h2]
    · simp [h0, h1]
  · simp [h0]
theorem eql_tx (c e n c' e' n' : Int) (w : World) : (binOp .eql 41 (.agg #[.int .i64 c, .int .i64 e, .int .i64 n]) (.agg #[.int .i64 c', .int .i64 e', .int .i64 n'])).run Tryz.prog w = .ok (.bool (decide ((c, e, n) = (c', e', n')))) w := by
  rw [run_eql_struct, eqIn_tx]; rfl
theorem neq_tx (c e n c' e' n' : Int) (w : World) : (binOp .neq 41 (.agg #[.int .i64 c, .int .i64 e, .int .i64 n]) (.agg #[.int .i64 c', .int .i64 e', .int .i64 n'])).run Tryz.prog w = .ok (.bool (!decide ((c, e, n) = (c', e', n')))) w := by
  rw [run_neq_struct, eqIn_tx]; rfl
theorem guard_tx (op : BinOp) (x y : Operand) (xs ys : Array Value) (w : World) : (eqGuard op 41 x y (.agg xs) (.agg ys)).run Tryz.prog w = .ok () w := run_eqGuard_agg w op 41 x y xs ys (by kernel_rfl)

set_option maxHeartbeats 1600000 in
theorem implTxOk_any (c e n : Int) (w : World) : Calls Tryz.prog 76 #[.agg #[.int .i64 c, .int .i64 e, .int .i64 n]] w fun r w' => r = .returned (.bool (txOk (c, e, n))) ∧ Below w.heap.size w w' := by
  have HB := hid (below_new (o := .cells #[.int .i64 c, .int .i64 e, .int .i64 n] 41) (w := w) (Below.refl _ _))
  by_cases h0 : 0 ≤ c
  · skip
    by_cases h1 : c ≤ 7
    · skip
      by_cases h2 : 1 ≤ e
      · skip
        by_cases h3 : e ≤ 999
        · skip
          by_cases h4 : 1 ≤ n
          · skip
            by_cases h5 : n ≤ 999
            · skip
              have HE : Hid (txOk (c, e, n) = true) := (txOk_iff (c, e, n)).2 ⟨h0, h1, h2, h3, h4, h5⟩
              go_enter Tryz.func76, Tryz.ntmps76
              go_wp2
              go_ret
              exact ⟨by rw [HE.out]; rfl, HB.out⟩
            · have HE : Hid (txOk (c, e, n) = false) := by show _ = false; rw [Bool.eq_false_iff]; intro h; exact h5 ((txOk_iff (c, e, n)).1 h).2.2.2.2.2
              have g5 : 999 < n := by omega
              go_enter Tryz.func76, Tryz.ntmps76
              go_wp2
              go_ret
              exact ⟨by rw [HE.out]; rfl, HB.out⟩
          · have HE : Hid (txOk (c, e, n) = false) := by show _ = false; rw [Bool.eq_false_iff]; intro h; exact h4 ((txOk_iff (c, e, n)).1 h).2.2.2.2.1
            have g4 : n < 1 := by omega
            go_enter Tryz.func76, Tryz.ntmps76
            go_wp2
            go_ret
            exact ⟨by rw [HE.out]; rfl, HB.out⟩
        · have HE : Hid (txOk (c, e, n) = false) := by show _ = false; rw [Bool.eq_false_iff]; intro h; exact h3 ((txOk_iff (c, e, n)).1 h).2.2.2.1
          have g3 : 999 < e := by omega
          go_enter Tryz.func76, Tryz.ntmps76
          go_wp2
          go_ret
          exact ⟨by rw [HE.out]; rfl, HB.out⟩
      · have HE : Hid (txOk (c, e, n) = false) := by show _ = false; rw [Bool.eq_false_iff]; intro h; exact h2 ((txOk_iff (c, e, n)).1 h).2.2.1
        have g2 : e < 1 := by omega
        go_enter Tryz.func76, Tryz.ntmps76
        go_wp2
        go_ret
        exact ⟨by rw [HE.out]; rfl, HB.out⟩
    · have HE : Hid (txOk (c, e, n) = false) := by show _ = false; rw [Bool.eq_false_iff]; intro h; exact h1 ((txOk_iff (c, e, n)).1 h).2.1
      have g1 : 7 < c := by omega
      go_enter Tryz.func76, Tryz.ntmps76
      go_wp2
      go_ret
      exact ⟨by rw [HE.out]; rfl, HB.out⟩
  · have HE : Hid (txOk (c, e, n) = false) := by show _ = false; rw [Bool.eq_false_iff]; intro h; exact h0 ((txOk_iff (c, e, n)).1 h).1
    have g0 : c < 0 := by omega
    go_enter Tryz.func76, Tryz.ntmps76
    go_wp2
    go_ret
    exact ⟨by rw [HE.out]; rfl, HB.out⟩
set_option maxHeartbeats 1600000 in
theorem specTxOk_any (c e n : Int) (w : World) : Calls Tryz.prog 53 #[.agg #[.int .i64 c, .int .i64 e, .int .i64 n]] w fun r w' => r = .returned (.bool (txOk (c, e, n))) ∧ Below w.heap.size w w' := by
  have HB := hid (below_new (o := .cells #[.int .i64 c, .int .i64 e, .int .i64 n] 41) (w := w) (Below.refl _ _))
  by_cases h0 : 0 ≤ c
  · skip
    by_cases h1 : c ≤ 7
    · skip
      by_cases h2 : 1 ≤ e
      · skip
        by_cases h3 : e ≤ 999
        · skip
          by_cases h4 : 1 ≤ n
          · skip
            by_cases h5 : n ≤ 999
            · skip
              have HE : Hid (txOk (c, e, n) = true) := (txOk_iff (c, e, n)).2 ⟨h0, h1, h2, h3, h4, h5⟩
              go_enter Tryz.func53, Tryz.ntmps53
              go_wp2
              go_ret
              exact ⟨by rw [HE.out]; rfl, HB.out⟩
            · have HE : Hid (txOk (c, e, n) = false) := by show _ = false; rw [Bool.eq_false_iff]; intro h; exact h5 ((txOk_iff (c, e, n)).1 h).2.2.2.2.2
              have g5 : 999 < n := by omega
              go_enter Tryz.func53, Tryz.ntmps53
              go_wp2
              go_ret
              exact ⟨by rw [HE.out]; rfl, HB.out⟩
          · have HE : Hid (txOk (c, e, n) = false) := by show _ = false; rw [Bool.eq_false_iff]; intro h; exact h4 ((txOk_iff (c, e, n)).1 h).2.2.2.2.1
            have g4 : n < 1 := by omega
            go_enter Tryz.func53, Tryz.ntmps53
            go_wp2
            go_ret
            exact ⟨by rw [HE.out]; rfl, HB.out⟩
        · have HE : Hid (txOk (c, e, n) = false) := by show _ = false; rw [Bool.eq_false_iff]; intro h; exact h3 ((txOk_iff (c, e, n)).1 h).2.2.2.1
          have g3 : 999 < e := by omega
          go_enter Tryz.func53, Tryz.ntmps53
          go_wp2
          go_ret
          exact ⟨by rw [HE.out]; rfl, HB.out⟩
      · have HE : Hid (txOk (c, e, n) = false) := by show _ = false; rw [Bool.eq_false_iff]; intro h; exact h2 ((txOk_iff (c, e, n)).1 h).2.2.1
        have g2 : e < 1 := by omega
        go_enter Tryz.func53, Tryz.ntmps53
        go_wp2
        go_ret
        exact ⟨by rw [HE.out]; rfl, HB.out⟩
    · have HE : Hid (txOk (c, e, n) = false) := by show _ = false; rw [Bool.eq_false_iff]; intro h; exact h1 ((txOk_iff (c, e, n)).1 h).2.1
      have g1 : 7 < c := by omega
      go_enter Tryz.func53, Tryz.ntmps53
      go_wp2
      go_ret
      exact ⟨by rw [HE.out]; rfl, HB.out⟩
  · have HE : Hid (txOk (c, e, n) = false) := by show _ = false; rw [Bool.eq_false_iff]; intro h; exact h0 ((txOk_iff (c, e, n)).1 h).1
    have g0 : c < 0 := by omega
    go_enter Tryz.func53, Tryz.ntmps53
    go_wp2
    go_ret
    exact ⟨by rw [HE.out]; rfl, HB.out⟩
theorem toTx_any (c e n : Int) (w : World) : Calls Tryz.prog 16 #[.agg #[.int .i64 c, .int .i64 e, .int .i64 n]] w fun r w' => r = .returned (.agg #[.int .i64 c, .int .i64 e, .int .i64 n]) ∧ Below w.heap.size w w' := by
  go_enter Tryz.func16, Tryz.ntmps16
  go_wp2
  try simp only [Exit.inBlock, Exit.then]
  refine bodyPost_ret (v := .agg #[.int .i64 c, .int .i64 e, .int .i64 n]) ?_ rfl ?_
  · exact results_tx rfl _ _ _ rfl (by go_simp) (by go_simp) (by go_simp)
  · exact ⟨rfl, below_new (below_new (below_new (Below.refl _ _)))⟩
theorem eqTx_same (c e n : Int) (w : World) : Calls Tryz.prog 23 #[.agg #[.int .i64 c, .int .i64 e, .int .i64 n], .agg #[.int .i64 c, .int .i64 e, .int .i64 n]] w fun r w' => r = .returned (.bool true) ∧ Below w.heap.size w w' := by
  have t0 : (c != c) = false := by simp
  have t1 : (e != e) = false := by simp
  have t2 : (n != n) = false := by simp
  go_enter Tryz.func23, Tryz.ntmps23
  go_wp2
  go_ret
  exact ⟨rfl, below_new (below_new (Below.refl _ _))⟩
end Go.Proofs.YtgnjknbgahickacGreatDoor
/-
  Cells that are kept while a stretch of the program reads and calls in an order that is not known: eight and twelve of them.
-/
namespace Go.Proofs.YtgnjknbgahickacGreatDoor
open Go.RowKit
structure KL (u v : World) (cs : List (Addr × Value)) : Prop where
  cells : ∀ p ∈ cs, u.cell? p.1 = some p.2
  bel : Below u.heap.size u v
theorem KL.at {u v : World} {cs : List (Addr × Value)} (h : KL u v cs) {a : Addr} {x : Value} (hp : (a, x) ∈ cs) : v.cell? a = some x := by
  have hc := h.cells (a, x) hp
  rw [h.bel.cell (p := a) (block_lt hc)]
  exact hc
theorem KL.call {u v v' : World} {cs : List (Addr × Value)} (h : KL u v cs) (k : Below v.heap.size v v') : KL u v' cs := ⟨h.cells, h.bel.trans (k.mono h.bel.size)⟩
theorem kl2 {u v : World} {a0 a1 : Addr} {x0 x1 : Value} (h : KL u v [(a0, x0), (a1, x1)]) : v.cell? a0 = some x0 ∧ v.cell? a1 = some x1 ∧ KL u v [(a0, x0), (a1, x1)] := ⟨h.at (by simp), h.at (by simp), h⟩
theorem kl2c {u v v' : World} {a0 a1 : Addr} {x0 x1 : Value} (k : Below v.heap.size v v') (h : v.cell? a0 = some x0 ∧ v.cell? a1 = some x1 ∧ KL u v [(a0, x0), (a1, x1)]) : v'.cell? a0 = some x0 ∧ v'.cell? a1 = some x1 ∧ KL u v' [(a0, x0), (a1, x1)] := kl2 (KL.call h.2.2 k)
theorem kl2_bel {u v : World} {a0 a1 : Addr} {x0 x1 : Value} (h : v.cell? a0 = some x0 ∧ v.cell? a1 = some x1 ∧ KL u v [(a0, x0), (a1, x1)]) : Below u.heap.size u v := KL.bel h.2.2
theorem kl2_0 {u : World} {a0 a1 : Addr} {x0 x1 : Value} (h0 : u.cell? a0 = some x0) (h1 : u.cell? a1 = some x1) : KL u u [(a0, x0), (a1, x1)] := ⟨fun p hp => by
    simp only [List.mem_cons, List.not_mem_nil, or_false] at hp
    rcases hp with rfl | rfl <;> assumption, Below.refl _ _⟩
theorem kl4 {u v : World} {a0 a1 a2 a3 : Addr} {x0 x1 x2 x3 : Value} (h : KL u v [(a0, x0), (a1, x1), (a2, x2), (a3, x3)]) : v.cell? a0 = some x0 ∧ v.cell? a1 = some x1 ∧ v.cell? a2 = some x2 ∧ v.cell? a3 = some x3 ∧ KL u v [(a0, x0), (a1, x1), (a2, x2), (a3, x3)] := ⟨h.at (by simp), h.at (by simp), h.at (by simp), h.at (by simp), h⟩
theorem kl4c {u v v' : World} {a0 a1 a2 a3 : Addr} {x0 x1 x2 x3 : Value} (k : Below v.heap.size v v') (h : v.cell? a0 = some x0 ∧ v.cell? a1 = some x1 ∧ v.cell? a2 = some x2 ∧ v.cell? a3 = some x3 ∧ KL u v [(a0, x0), (a1, x1), (a2, x2), (a3, x3)]) : v'.cell? a0 = some x0 ∧ v'.cell? a1 = some x1 ∧ v'.cell? a2 = some x2 ∧ v'.cell? a3 = some x3 ∧ KL u v' [(a0, x0), (a1, x1), (a2, x2), (a3, x3)] := kl4 (KL.call h.2.2.2.2 k)
theorem kl4_bel {u v : World} {a0 a1 a2 a3 : Addr} {x0 x1 x2 x3 : Value} (h : v.cell? a0 = some x0 ∧ v.cell? a1 = some x1 ∧ v.cell? a2 = some x2 ∧ v.cell? a3 = some x3 ∧ KL u v [(a0, x0), (a1, x1), (a2, x2), (a3, x3)]) : Below u.heap.size u v := KL.bel h.2.2.2.2
theorem kl4_0 {u : World} {a0 a1 a2 a3 : Addr} {x0 x1 x2 x3 : Value} (h0 : u.cell? a0 = some x0) (h1 : u.cell? a1 = some x1) (h2 : u.cell? a2 = some x2) (h3 : u.cell? a3 = some x3) : KL u u [(a0, x0), (a1, x1), (a2, x2), (a3, x3)] := ⟨fun p hp => by
    simp only [List.mem_cons, List.not_mem_nil, or_false] at hp
    rcases hp with rfl | rfl | rfl | rfl <;> assumption, Below.refl _ _⟩
theorem kl7 {u v : World} {a0 a1 a2 a3 a4 a5 a6 : Addr} {x0 x1 x2 x3 x4 x5 x6 : Value} (h : KL u v [(a0, x0), (a1, x1), (a2, x2), (a3, x3), (a4, x4), (a5, x5), (a6, x6)]) : v.cell? a0 = some x0 ∧ v.cell? a1 = some x1 ∧ v.cell? a2 = some x2 ∧ v.cell? a3 = some x3 ∧ v.cell? a4 = some x4 ∧ v.cell? a5 = some x5 ∧ v.cell? a6 = some x6 ∧ KL u v [(a0, x0), (a1, x1), (a2, x2), (a3, x3), (a4, x4), (a5, x5), (a6, x6)] := ⟨h.at (by simp), h.at (by simp), h.at (by simp), h.at (by simp), h.at (by simp), h.at (by simp), h.at (by simp), h⟩
theorem kl7c {u v v' : World} {a0 a1 a2 a3 a4 a5 a6 : Addr} {x0 x1 x2 x3 x4 x5 x6 : Value} (k : Below v.heap.size v v') (h : v.cell? a0 = some x0 ∧ v.cell? a1 = some x1 ∧ v.cell? a2 = some x2 ∧ v.cell? a3 = some x3 ∧ v.cell? a4 = some x4 ∧ v.cell? a5 = some x5 ∧ v.cell? a6 = some x6 ∧ KL u v [(a0, x0), (a1, x1), (a2, x2), (a3, x3), (a4, x4), (a5, x5), (a6, x6)]) : v'.cell? a0 = some x0 ∧ v'.cell? a1 = some x1 ∧ v'.cell? a2 = some x2 ∧ v'.cell? a3 = some x3 ∧ v'.cell? a4 = some x4 ∧ v'.cell? a5 = some x5 ∧ v'.cell? a6 = some x6 ∧ KL u v' [(a0, x0), (a1, x1), (a2, x2), (a3, x3), (a4, x4), (a5, x5), (a6, x6)] := kl7 (KL.call h.2.2.2.2.2.2.2 k)
theorem kl7_bel {u v : World} {a0 a1 a2 a3 a4 a5 a6 : Addr} {x0 x1 x2 x3 x4 x5 x6 : Value} (h : v.cell? a0 = some x0 ∧ v.cell? a1 = some x1 ∧ v.cell? a2 = some x2 ∧ v.cell? a3 = some x3 ∧ v.cell? a4 = some x4 ∧ v.cell? a5 = some x5 ∧ v.cell? a6 = some x6 ∧ KL u v [(a0, x0), (a1, x1), (a2, x2), (a3, x3), (a4, x4), (a5, x5), (a6, x6)]) : Below u.heap.size u v := KL.bel h.2.2.2.2.2.2.2
theorem kl7_0 {u : World} {a0 a1 a2 a3 a4 a5 a6 : Addr} {x0 x1 x2 x3 x4 x5 x6 : Value} (h0 : u.cell? a0 = some x0) (h1 : u.cell? a1 = some x1) (h2 : u.cell? a2 = some x2) (h3 : u.cell? a3 = some x3) (h4 : u.cell? a4 = some x4) (h5 : u.cell? a5 = some x5) (h6 : u.cell? a6 = some x6) : KL u u [(a0, x0), (a1, x1), (a2, x2), (a3, x3), (a4, x4), (a5, x5), (a6, x6)] := ⟨fun p hp => by
    simp only [List.mem_cons, List.not_mem_nil, or_false] at hp
    rcases hp with rfl | rfl | rfl | rfl | rfl | rfl | rfl <;> assumption, Below.refl _ _⟩
theorem kl8 {u v : World} {a0 a1 a2 a3 a4 a5 a6 a7 : Addr} {x0 x1 x2 x3 x4 x5 x6 x7 : Value} (h : KL u v [(a0, x0), (a1, x1), (a2, x2), (a3, x3), (a4, x4), (a5, x5), (a6, x6), (a7, x7)]) : v.cell? a0 = some x0 ∧ v.cell? a1 = some x1 ∧ v.cell? a2 = some x2 ∧ v.cell? a3 = some x3 ∧ v.cell? a4 = some x4 ∧ v.cell? a5 = some x5 ∧ v.cell? a6 = some x6 ∧ v.cell? a7 = some x7 ∧ KL u v [(a0, x0), (a1, x1), (a2, x2), (a3, x3), (a4, x4), (a5, x5), (a6, x6), (a7, x7)] := ⟨h.at (by simp), h.at (by simp), h.at (by simp), h.at (by simp), h.at (by simp), h.at (by simp), h.at (by simp), h.at (by simp), h⟩
theorem kl8c {u v v' : World} {a0 a1 a2 a3 a4 a5 a6 a7 : Addr} {x0 x1 x2 x3 x4 x5 x6 x7 : Value} (k : Below v.heap.size v v') (h : v.cell? a0 = some x0 ∧ v.cell? a1 = some x1 ∧ v.cell? a2 = some x2 ∧ v.cell? a3 = some x3 ∧ v.cell? a4 = some x4 ∧ v.cell? a5 = some x5 ∧ v.cell? a6 = some x6 ∧ v.cell? a7 = some x7 ∧ KL u v [(a0, x0), (a1, x1), (a2, x2), (a3, x3), (a4, x4), (a5, x5), (a6, x6), (a7, x7)]) : v'.cell? a0 = some x0 ∧ v'.cell? a1 = some x1 ∧ v'.cell? a2 = some x2 ∧ v'.cell? a3 = some x3 ∧ v'.cell? a4 = some x4 ∧ v'.cell? a5 = some x5 ∧ v'.cell? a6 = some x6 ∧ v'.cell? a7 = some x7 ∧ KL u v' [(a0, x0), (a1, x1), (a2, x2), (a3, x3), (a4, x4), (a5, x5), (a6, x6), (a7, x7)] := kl8 (KL.call h.2.2.2.2.2.2.2.2 k)
theorem kl8_bel {u v : World} {a0 a1 a2 a3 a4 a5 a6 a7 : Addr} {x0 x1 x2 x3 x4 x5 x6 x7 : Value} (h : v.cell? a0 = some x0 ∧ v.cell? a1 = some x1 ∧ v.cell? a2 = some x2 ∧ v.cell? a3 = some x3 ∧ v.cell? a4 = some x4 ∧ v.cell? a5 = some x5 ∧ v.cell? a6 = some x6 ∧ v.cell? a7 = some x7 ∧ KL u v [(a0, x0), (a1, x1), (a2, x2), (a3, x3), (a4, x4), (a5, x5), (a6, x6), (a7, x7)]) : Below u.heap.size u v := KL.bel h.2.2.2.2.2.2.2.2
theorem kl8_0 {u : World} {a0 a1 a2 a3 a4 a5 a6 a7 : Addr} {x0 x1 x2 x3 x4 x5 x6 x7 : Value} (h0 : u.cell? a0 = some x0) (h1 : u.cell? a1 = some x1) (h2 : u.cell? a2 = some x2) (h3 : u.cell? a3 = some x3) (h4 : u.cell? a4 = some x4) (h5 : u.cell? a5 = some x5) (h6 : u.cell? a6 = some x6) (h7 : u.cell? a7 = some x7) : KL u u [(a0, x0), (a1, x1), (a2, x2), (a3, x3), (a4, x4), (a5, x5), (a6, x6), (a7, x7)] := ⟨fun p hp => by
    simp only [List.mem_cons, List.not_mem_nil, or_false] at hp
    rcases hp with rfl | rfl | rfl | rfl | rfl | rfl | rfl | rfl <;> assumption, Below.refl _ _⟩
theorem kl12 {u v : World} {a0 a1 a2 a3 a4 a5 a6 a7 a8 a9 a10 a11 : Addr} {x0 x1 x2 x3 x4 x5 x6 x7 x8 x9 x10 x11 : Value} (h : KL u v [(a0, x0), (a1, x1), (a2, x2), (a3, x3), (a4, x4), (a5, x5), (a6, x6), (a7, x7), (a8, x8), (a9, x9), (a10, x10), (a11, x11)]) : v.cell? a0 = some x0 ∧ v.cell? a1 = some x1 ∧ v.cell? a2 = some x2 ∧ v.cell? a3 = some x3 ∧ v.cell? a4 = some x4 ∧ v.cell? a5 = some x5 ∧ v.cell? a6 = some x6 ∧ v.cell? a7 = some x7 ∧ v.cell? a8 = some x8 ∧ v.cell? a9 = some x9 ∧ v.cell? a10 = some x10 ∧ v.cell? a11 = some x11 ∧ KL u v [(a0, x0), (a1, x1), (a2, x2), (a3, x3), (a4, x4), (a5, x5), (a6, x6), (a7, x7), (a8, x8), (a9, x9), (a10, x10), (a11, x11)] := ⟨h.at (by simp), h.at (by simp), h.at (by simp), h.at (by simp), h.at (by simp), h.at (by simp), h.at (by simp), h.at (by simp), h.at (by simp), h.at (by simp), h.at (by simp), h.at (by simp), h⟩
theorem kl12c {u v v' : World} {a0 a1 a2 a3 a4 a5 a6 a7 a8 a9 a10 a11 : Addr} {x0 x1 x2 x3 x4 x5 x6 x7 x8 x9 x10 x11 : Value} (k : Below v.heap.size v v') (h : v.cell? a0 = some x0 ∧ v.cell? a1 = some x1 ∧ v.cell? a2 = some x2 ∧ v.cell? a3 = some x3 ∧ v.cell? a4 = some x4 ∧ v.cell? a5 = some x5 ∧ v.cell? a6 = some x6 ∧ v.cell? a7 = some x7 ∧ v.cell? a8 = some x8 ∧ v.cell? a9 = some x9 ∧ v.cell? a10 = some x10 ∧ v.cell? a11 = some x11 ∧ KL u v [(a0, x0), (a1, x1), (a2, x2), (a3, x3), (a4, x4), (a5, x5), (a6, x6), (a7, x7), (a8, x8), (a9, x9), (a10, x10), (a11, x11)]) : v'.cell? a0 = some x0 ∧ v'.cell? a1 = some x1 ∧ v'.cell? a2 = some x2 ∧ v'.cell? a3 = some x3 ∧ v'.cell? a4 = some x4 ∧ v'.cell? a5 = some x5 ∧ v'.cell? a6 = some x6 ∧ v'.cell? a7 = some x7 ∧ v'.cell? a8 = some x8 ∧ v'.cell? a9 = some x9 ∧ v'.cell? a10 = some x10 ∧ v'.cell? a11 = some x11 ∧ KL u v' [(a0, x0), (a1, x1), (a2, x2), (a3, x3), (a4, x4), (a5, x5), (a6, x6), (a7, x7), (a8, x8), (a9, x9), (a10, x10), (a11, x11)] := kl12 (KL.call h.2.2.2.2.2.2.2.2.2.2.2.2 k)
theorem kl12_bel {u v : World} {a0 a1 a2 a3 a4 a5 a6 a7 a8 a9 a10 a11 : Addr} {x0 x1 x2 x3 x4 x5 x6 x7 x8 x9 x10 x11 : Value} (h : v.cell? a0 = some x0 ∧ v.cell? a1 = some x1 ∧ v.cell? a2 = some x2 ∧ v.cell? a3 = some x3 ∧ v.cell? a4 = some x4 ∧ v.cell? a5 = some x5 ∧ v.cell? a6 = some x6 ∧ v.cell? a7 = some x7 ∧ v.cell? a8 = some x8 ∧ v.cell? a9 = some x9 ∧ v.cell? a10 = some x10 ∧ v.cell? a11 = some x11 ∧ KL u v [(a0, x0), (a1, x1), (a2, x2), (a3, x3), (a4, x4), (a5, x5), (a6, x6), (a7, x7), (a8, x8), (a9, x9), (a10, x10), (a11, x11)]) : Below u.heap.size u v := KL.bel h.2.2.2.2.2.2.2.2.2.2.2.2
theorem kl12_0 {u : World} {a0 a1 a2 a3 a4 a5 a6 a7 a8 a9 a10 a11 : Addr} {x0 x1 x2 x3 x4 x5 x6 x7 x8 x9 x10 x11 : Value} (h0 : u.cell? a0 = some x0) (h1 : u.cell? a1 = some x1) (h2 : u.cell? a2 = some x2) (h3 : u.cell? a3 = some x3) (h4 : u.cell? a4 = some x4) (h5 : u.cell? a5 = some x5) (h6 : u.cell? a6 = some x6) (h7 : u.cell? a7 = some x7) (h8 : u.cell? a8 = some x8) (h9 : u.cell? a9 = some x9) (h10 : u.cell? a10 = some x10) (h11 : u.cell? a11 = some x11) : KL u u [(a0, x0), (a1, x1), (a2, x2), (a3, x3), (a4, x4), (a5, x5), (a6, x6), (a7, x7), (a8, x8), (a9, x9), (a10, x10), (a11, x11)] := ⟨fun p hp => by
    simp only [List.mem_cons, List.not_mem_nil, or_false] at hp
    rcases hp with rfl | rfl | rfl | rfl | rfl | rfl | rfl | rfl | rfl | rfl | rfl | rfl <;> assumption, Below.refl _ _⟩
end Go.Proofs.YtgnjknbgahickacGreatDoor
/-
  The decimal text of a number: what the model's NumText answers.
-/
namespace Go.Proofs.YtgnjknbgahickacGreatDoor
open Go.RowKit

/-- The text of a number. -/
def numS (n : Int) : ByteArray := if 0 ≤ n ∧ n ≤ 1099511627775 then ⟨(Lib.decDigits n.toNat).toArray⟩ else ByteArray.empty
theorem numS_ok (n : Int) (h0 : 0 ≤ n) (h1 : n ≤ 1099511627775) : numS n = ⟨(Lib.decDigits n.toNat).toArray⟩ := by unfold numS; exact if_pos ⟨h0, h1⟩
theorem numS_bad (n : Int) (h : ¬ (0 ≤ n ∧ n ≤ 1099511627775)) : numS n = ByteArray.empty := by unfold numS; exact if_neg h
theorem dec_len (f : Nat) : ∀ u : Nat, u < 10 ^ (f + 1) → (Lib.decDigits u).length ≤ f + 1 := by
  induction f with
  | zero =>
    intro u h
    rw [Lib.decDigits, dif_pos (by omega)]; simp
  | succ f ih =>
    intro u h
    rw [Lib.decDigits]
    split
    · simp
    · have := ih (u / 10) (by rw [Nat.pow_succ] at h; omega)
      simp; omega
theorem numS_small (n : Int) (h0 : 0 ≤ n) (h1 : n < 10) : numS n = ⟨#[UInt8.ofNat (48 + n).toNat]⟩ := by
  rw [numS_ok n h0 (by omega), Lib.decDigits, dif_pos (by omega)]
  congr 2
  rw [show (48 + n).toNat = 48 + n.toNat from by omega]
theorem numS_big (n : Int) (h0 : 10 ≤ n) (h1 : n ≤ 1099511627775) : numS n = numS (n / 10) ++ ⟨#[UInt8.ofNat (48 + n % 10).toNat]⟩ := by
  rw [numS_ok n (by omega) h1, numS_ok (n / 10) (by omega) (by omega), Lib.decDigits, dif_neg (by omega)]
  have e1 : (n / 10).toNat = n.toNat / 10 := by omega
  have e2 : (48 + n % 10).toNat = 48 + n.toNat % 10 := by omega
  rw [e1, e2]
  show _ = (⟨(Lib.decDigits (n.toNat / 10)).toArray⟩ ++ ⟨[UInt8.ofNat (48 + n.toNat % 10)].toArray⟩ : ByteArray)
  rw [ByteArray.mk_append_mk]
theorem numS_size (n : Int) : (numS n).size ≤ 13 := by
  by_cases h : 0 ≤ n ∧ n ≤ 1099511627775
  · rw [numS_ok n h.1 h.2]
    have := dec_len 12 n.toNat (by omega)
    show (Lib.decDigits n.toNat).toArray.size ≤ 13
    simpa using this
  · rw [numS_bad n h]
    show 0 ≤ 13
    omega

/-- 'string([]byte{z})', where the row is the last block of whatever world. -/
theorem conv_one (W : World) (z : Int) : (convert 119 9 (.slice (some ⟨W.heap.size, 0, none⟩) 1 1)).run Tryz.prog (W.alloc (.cells #[.int .u8 z] 5)) = .ok (.string ⟨#[UInt8.ofNat z.toNat]⟩) (W.alloc (.cells #[.int .u8 z] 5)) := by
  rw [run_convert_bytes_string _ _ _ _ _ 1 1 Tryz.underlying119 Tryz.underlying5 Tryz.underlying9, run_bytesToString _ ⟨W.heap.size, 0, none⟩ 1 1 [z]]
  · rfl
  · exact run_loadCells_list _ ⟨W.heap.size, 0, none⟩ [.int .u8 z] (by
      intro j u hu
      match j, hu with
      | 0, hu => simp at hu; subst hu; rw [Addr.add_lit, World.cell?_alloc_at (hn := rfl)]; rfl)
theorem conv_one_drew (W : World) (z : Int) : (convert 119 9 (.slice (some ⟨W.heap.size, 0, none⟩) 1 1)).run Tryz.prog (W.alloc (.cells #[.int .u8 z] 5)).drew = .ok (.string ⟨#[UInt8.ofNat z.toNat]⟩) (W.alloc (.cells #[.int .u8 z] 5)).drew := conv_one W.drew z
theorem conv_one_at (W : World) (b : Nat) (z : Int) (h : W.cell? ⟨b, 0, none⟩ = some (.int .u8 z)) : (convert 119 9 (.slice (some ⟨b, 0, none⟩) 1 1)).run Tryz.prog W = .ok (.string ⟨#[UInt8.ofNat z.toNat]⟩) W := by
  rw [run_convert_bytes_string _ _ _ _ _ 1 1 Tryz.underlying119 Tryz.underlying5 Tryz.underlying9, run_bytesToString _ ⟨b, 0, none⟩ 1 1 [z]]
  · rfl
  · exact run_loadCells_list _ ⟨b, 0, none⟩ [.int .u8 z] (by
      intro j u hu
      match j, hu with
      | 0, hu => simp at hu; subst hu; rw [Addr.add_lit]; exact h)

theorem cell_behind {w w2 : World} {z : Int} (h : Below (w.alloc (.cells #[.int .u8 z] 5)).drew.heap.size (w.alloc (.cells #[.int .u8 z] 5)).drew w2) : w2.cell? ⟨w.heap.size, 0, none⟩ = some (.int .u8 z) := by
  rw [h.cell (p := ⟨w.heap.size, 0, none⟩) (by simp)]
  show (w.alloc (.cells #[.int .u8 z] 5)).cell? ⟨w.heap.size, 0, none⟩ = _
  rw [World.cell?_alloc_at (hn := rfl)]
  rfl

set_option maxHeartbeats 400000 in
theorem specNum_any (n : Int) (w : World) (b : Bool) (hb : b = decide (0 ≤ n ∧ n ≤ 1099511627775)) :
    Calls Tryz.prog 69 #[.int .i64 n] w fun e w' => e = .returned (.bool b) ∧ w = w' := by
  have HB : Hid (b = decide (0 ≤ n ∧ n ≤ 1099511627775)) := hb
  clear hb
  by_cases h0 : 0 ≤ n
  · by_cases h1 : n ≤ 1099511627775
    · go_enter Tryz.func69, Tryz.ntmps69
      go_wp2
      go_ret
      exact ⟨by rw [HB.out]; simp [h0, h1], rfl⟩
    · go_enter Tryz.func69, Tryz.ntmps69
      go_wp2
      go_ret
      exact ⟨by rw [HB.out]; simp [h1], rfl⟩
  · go_enter Tryz.func69, Tryz.ntmps69
    go_wp2
    go_ret
    exact ⟨by rw [HB.out, decide_eq_false (by omega)]; rfl, rfl⟩

set_option maxRecDepth 20000 in
set_option maxHeartbeats 1000000 in
theorem specNumText_ok : ∀ (k : Nat) (n : Int) (w : World), n.toNat ≤ k → 0 ≤ n → n ≤ 1099511627775 →
    Calls Tryz.prog 41 #[.int .i64 n] w fun e w' => e = .returned (.string (numS n)) ∧ Below w.heap.size w w' := by
  intro k
  induction k with
  | zero =>
    intro n w hk h0 h1
    have hn : n = 0 := by omega
    subst hn
    have HS := hid (numS_small 0 (by omega) (by omega))
    have hcv := conv_one w 48
    go_enter Tryz.func41, Tryz.ntmps41
    go_wp2_with (go_at_call 69; refine (specNum_any 0 _ true (by decide)).mono ?_; rintro e w' ⟨rfl, rfl⟩)
    go_ret
    exact ⟨by rw [HS.out]; rfl, (Below.refl _ _).alloc (Nat.le_refl _) _⟩
  | succ k ih =>
    intro n w hk h0 h1
    have IH := hid ih
    clear ih
    by_cases hs : n < 10
    · have HS := hid (numS_small n h0 hs)
      have hcv := conv_one w (48 + n)
      go_enter Tryz.func41, Tryz.ntmps41
      go_wp2_with (go_at_call 69; refine (specNum_any n _ true (by simp [h0, h1])).mono ?_; rintro e w' ⟨rfl, rfl⟩)
      go_ret
      exact ⟨by rw [HS.out]; rfl, (Below.refl _ _).alloc (Nat.le_refl _) _⟩
    · have HS := hid (numS_big n (by omega) h1)
      have hsz := numS_size (n / 10)
      have HI := hid (fun w => IH.out (n / 10) w (by omega) (by omega) (by omega))
      generalize numS (n / 10) = x at HS hsz HI
      have d1 : n.tdiv 10 = n / 10 := Int.tdiv_eq_ediv_of_nonneg h0
      have d2 : n.tmod 10 = n % 10 := Int.tmod_eq_emod_of_nonneg h0
      have d3 : IntKind.i64.wrap (n / 10) = n / 10 := by rw [IntKind.wrap_i64]; omega
      have d4 : IntKind.i64.wrap (48 + n % 10) = 48 + n % 10 := by rw [IntKind.wrap_i64]; omega
      have d5 : IntKind.u8.wrap (48 + n % 10) = 48 + n % 10 := by simp [IntKind.wrap, IntKind.signed, IntKind.bits]; omega
      have cv := conv_one
      have cvd := conv_one_drew
      have hy : (⟨#[UInt8.ofNat (48 + n % 10).toNat]⟩ : ByteArray).size = 1 := rfl
      have hsum : ¬ (9223372036854775807 < x.size + (⟨#[UInt8.ofNat (48 + n % 10).toNat]⟩ : ByteArray).size) := by rw [hy]; omega
      go_enter Tryz.func41, Tryz.ntmps41
      go_wp2_with (go_at_call 69; refine (specNum_any n _ true (by simp [h0, h1])).mono ?_; rintro e w' ⟨rfl, rfl⟩)
      go_region_with (go_at_call 41; refine (HI.out _).mono ?_; rintro e w2 ⟨rfl, hb2⟩; try (have hcv := conv_one_at w2 w.heap.size (48 + n % 10) (cell_behind hb2)))
      all_goals
        go_wp2
        go_ret
        refine ⟨by rw [HS.out]; rfl, ?_⟩
        first
          | exact ((Below.refl w.heap.size w).drew.trans hb2).alloc hb2.size _
          | exact ((Below.refl w.heap.size w).alloc (Nat.le_refl _) _).drew.trans (hb2.mono (by simp))

set_option maxHeartbeats 400000 in
theorem specNumText_any (n : Int) (w : World) :
    Calls Tryz.prog 41 #[.int .i64 n] w fun e w' => e = .returned (.string (numS n)) ∧ Below w.heap.size w w' := by
  by_cases h : 0 ≤ n ∧ n ≤ 1099511627775
  · exact specNumText_ok n.toNat n w (Nat.le_refl _) h.1 h.2
  · have HS := hid (numS_bad n h)
    go_enter Tryz.func41, Tryz.ntmps41
    go_wp2_with (go_at_call 69; refine (specNum_any n _ false (by rw [decide_eq_false h])).mono ?_; rintro e w' ⟨rfl, rfl⟩)
    go_ret
    exact ⟨by rw [HS.out]; rfl, Below.refl _ _⟩
end Go.Proofs.YtgnjknbgahickacGreatDoor
/-
  The decimal text of a number: what the program's NumText answers: the same as the model's.
-/
namespace Go.Proofs.YtgnjknbgahickacGreatDoor
open Go.RowKit

/-- The table of powers of ten that Go's strconv reads. -/
def Tab (w : World) : Prop := Lib.TabIs Tryz.prog w ((Rows.fnExactLastOfRow.laid.map (·.1)).getD 2 default) .u64 Lib.pow10Tab
theorem grow_below (w : World) (k : Nat) (os : Array Obj) : Below w.heap.size w (Sort.grow (w.drewN k) os) := by
  refine ⟨rfl, rfl, rfl, ?_, fun i hi => ?_⟩
  · show w.heap.size ≤ (w.heap ++ os).size
    simp
  · show (w.heap ++ os)[i]? = w.heap[i]?
    rw [Array.getElem?_append_left hi]
theorem Tab.below {w w' : World} {B : Nat} (h : Tab w) (hb : Below B w w') (hB : 3 < B) : Tab w' :=
  var?_below (g := 3) hb (by kernel_rfl) hB h

set_option maxHeartbeats 400000 in
theorem isNumberN_any (n : Int) (w : World) (b : Bool) (hb : b = decide (0 ≤ n ∧ n ≤ 1099511627775)) :
    Calls Tryz.prog 116 #[.int .i64 n] w fun e w' => e = .returned (.bool b) ∧ w = w' := by
  have HB : Hid (b = decide (0 ≤ n ∧ n ≤ 1099511627775)) := hb
  clear hb
  by_cases h0 : 0 ≤ n
  · by_cases h1 : n ≤ 1099511627775
    · go_enter Tryz.func116, Tryz.ntmps116
      go_wp2
      go_ret
      exact ⟨by rw [HB.out]; simp [h0, h1], rfl⟩
    · go_enter Tryz.func116, Tryz.ntmps116
      go_wp2
      go_ret
      exact ⟨by rw [HB.out]; simp [h1], rfl⟩
  · go_enter Tryz.func116, Tryz.ntmps116
    go_wp2
    go_ret
    exact ⟨by rw [HB.out, decide_eq_false (by omega)]; rfl, rfl⟩

theorem itoa_any (n : Int) (w : World) (h0 : 0 ≤ n) (h1 : n ≤ 1099511627775) (ht : Tab w) :
    Calls Tryz.prog 117 #[.int .i64 n] w fun e w' => e = .returned (.string (numS n)) ∧ Below w.heap.size w w' := by
  refine (Any.strconv_Itoa Tryz.laysM171 n (by omega) (by omega) w ht).mono ?_
  rintro e w' ⟨he, k, os, hw⟩
  refine ⟨?_, by rw [hw]; exact grow_below w k os⟩
  rw [he, numS_ok n h0 h1]
  unfold Lib.itoa
  rw [if_neg (by omega)]

set_option maxHeartbeats 400000 in
theorem implNumText_any (n : Int) (w : World) (ht : Tab w) :
    Calls Tryz.prog 73 #[.int .i64 n] w fun e w' => e = .returned (.string (numS n)) ∧ Below w.heap.size w w' := by
  have HT := hid ht
  clear ht
  by_cases h : 0 ≤ n ∧ n ≤ 1099511627775
  · obtain ⟨h0, h1⟩ := h
    go_enter Tryz.func73, Tryz.ntmps73
    go_wp2_with (first
      | (go_at_call 116; refine (isNumberN_any n _ true (by simp [h0, h1])).mono ?_; rintro e w' ⟨rfl, rfl⟩)
      | (go_at_call 117; refine (itoa_any n w h0 h1 HT.out).mono ?_; rintro e w1 ⟨rfl, hb1⟩))
    go_ret
    exact ⟨rfl, hb1⟩
  · have HS := hid (numS_bad n h)
    go_enter Tryz.func73, Tryz.ntmps73
    go_wp2_with (go_at_call 116; refine (isNumberN_any n _ false (by rw [decide_eq_false h])).mono ?_; rintro e w' ⟨rfl, rfl⟩)
    go_ret
    exact ⟨by rw [HS.out]; rfl, Below.refl _ _⟩
end Go.Proofs.YtgnjknbgahickacGreatDoor
/-
  Names of transactions as texts: TxText on both sides, and the law FnExactTxText.
-/
namespace Go.Proofs.YtgnjknbgahickacGreatDoor
open Go.RowKit
set_option linter.unusedVariables false
theorem kl3 {u v : World} {a0 a1 a2 : Addr} {x0 x1 x2 : Value} (h : KL u v [(a0, x0), (a1, x1), (a2, x2)]) : v.cell? a0 = some x0 ∧ v.cell? a1 = some x1 ∧ v.cell? a2 = some x2 ∧ KL u v [(a0, x0), (a1, x1), (a2, x2)] := ⟨h.at (by simp), h.at (by simp), h.at (by simp), h⟩
theorem kl3c {u v v' : World} {a0 a1 a2 : Addr} {x0 x1 x2 : Value} (k : Below v.heap.size v v') (h : v.cell? a0 = some x0 ∧ v.cell? a1 = some x1 ∧ v.cell? a2 = some x2 ∧ KL u v [(a0, x0), (a1, x1), (a2, x2)]) : v'.cell? a0 = some x0 ∧ v'.cell? a1 = some x1 ∧ v'.cell? a2 = some x2 ∧ KL u v' [(a0, x0), (a1, x1), (a2, x2)] := kl3 (KL.call h.2.2.2 k)
theorem kl3_bel {u v : World} {a0 a1 a2 : Addr} {x0 x1 x2 : Value} (h : v.cell? a0 = some x0 ∧ v.cell? a1 = some x1 ∧ v.cell? a2 = some x2 ∧ KL u v [(a0, x0), (a1, x1), (a2, x2)]) : Below u.heap.size u v := KL.bel h.2.2.2
theorem kl3_0 {u : World} {a0 a1 a2 : Addr} {x0 x1 x2 : Value} (h0 : u.cell? a0 = some x0) (h1 : u.cell? a1 = some x1) (h2 : u.cell? a2 = some x2) : KL u u [(a0, x0), (a1, x1), (a2, x2)] := ⟨fun p hp => by
    simp only [List.mem_cons, List.not_mem_nil, or_false] at hp
    rcases hp with rfl | rfl | rfl <;> assumption, Below.refl _ _⟩
/-- The text of a name. -/
def txT (x : TX) : ByteArray := if txOk x then numS x.1 ++ ⟨#[46]⟩ ++ numS x.2.1 ++ ⟨#[46]⟩ ++ numS x.2.2 else ⟨#[]⟩
theorem txT_yes {x : TX} (h : txOk x = true) : txT x = numS x.1 ++ ⟨#[46]⟩ ++ numS x.2.1 ++ ⟨#[46]⟩ ++ numS x.2.2 := by rw [txT, h]; rfl
theorem txT_no {x : TX} (h : txOk x = false) : txT x = ⟨#[]⟩ := by rw [txT, h]; rfl
theorem dot_size : (⟨#[46]⟩ : ByteArray).size = 1 := rfl
set_option maxHeartbeats 4000000 in
set_option maxRecDepth 20000 in
theorem implTxText_any (c e n : Int) (w : World) (ht : Tab w) (hg : 3 < w.heap.size) : Calls Tryz.prog 61 #[.agg #[.int .i64 c, .int .i64 e, .int .i64 n]] w fun r w' => r = .returned (.string (txT (c, e, n))) ∧ Below w.heap.size w w' := by
  have B0 := hid (below_new (o := .cells #[.int .i64 c, .int .i64 e, .int .i64 n] 41) (w := w) (Below.refl _ _))
  have K0 := hid (Bk.new w 41 [.int .i64 c, .int .i64 e, .int .i64 n])
  have C1 := hid (fun w => implTxOk_any c e n w)
  have CN := hid (fun n w ht => implNumText_any n w ht)
  have HT := hid ht
  have HG := hid hg
  clear ht hg
  have hnot : ∀ (x : Bool) (w : World), (Op.unary .not (.bool x)).run Tryz.prog w = .ok (.bool (!x)) w := fun _ _ => rfl
  have s1 := numS_size c
  have s2 := numS_size e
  have s3 := numS_size n
  have hd := dot_size
  have a1 : (numS c ++ ⟨#[46]⟩).size ≤ 14 := by rw [ByteArray.size_append]; omega
  have a2 : (numS c ++ ⟨#[46]⟩ ++ numS e).size ≤ 27 := by rw [ByteArray.size_append]; omega
  have a3 : (numS c ++ ⟨#[46]⟩ ++ numS e ++ ⟨#[46]⟩).size ≤ 28 := by rw [ByteArray.size_append]; omega
  have q1 : ¬ (9223372036854775807 < (numS c).size + (⟨#[46]⟩ : ByteArray).size) := by omega
  have q2 : ¬ (9223372036854775807 < (numS c ++ ⟨#[46]⟩).size + (numS e).size) := by omega
  have q3 : ¬ (9223372036854775807 < (numS c ++ ⟨#[46]⟩ ++ numS e).size + (⟨#[46]⟩ : ByteArray).size) := by omega
  have q4 : ¬ (9223372036854775807 < (numS c ++ ⟨#[46]⟩ ++ numS e ++ ⟨#[46]⟩).size + (numS n).size) := by omega
  cases hz : txOk (c, e, n) with
  | false =>
    have HV := hid (txT_no hz)
    rw [hz] at C1
    clear hz
    go_enter Tryz.func61, Tryz.ntmps61
    go_wp2_with fail
    refine (C1.out _).mono ?_
    rintro r w1 ⟨rfl, hb⟩
    have B1 := hid (B0.out.trans (hb.mono B0.out.size))
    clear hb
    go_wp2
    go_ret
    exact ⟨by rw [HV.out]; rfl, B1.out⟩
  | true =>
    have HV := hid (txT_yes hz)
    rw [hz] at C1
    clear hz
    go_enter Tryz.func61, Tryz.ntmps61
    go_wp2_with fail
    refine (C1.out _).mono ?_
    generalize w.alloc (.cells #[.int .i64 c, .int .i64 e, .int .i64 n] 41) = U at *
    rintro r w1 ⟨rfl, hb⟩
    have B1 := hid (B0.out.trans (hb.mono B0.out.size))
    have K1 := hid (K0.out.below hb)
    clear hb B0 K0
    have T1 := hid (kl3_0 (K1.out.cell (j := 0) rfl) (K1.out.cell (j := 1) rfl) (K1.out.cell (j := 2) rfl))
    go_wp2_with fail
    refine wp_region_noPanic ?_
    refine wp_region_held_drew (S := fun v => v.cell? ⟨w.heap.size, 0, none⟩ = some (.int .i64 c) ∧ v.cell? ⟨w.heap.size, 1, none⟩ = some (.int .i64 e) ∧ v.cell? ⟨w.heap.size, 2, none⟩ = some (.int .i64 n) ∧ KL w1 v [(⟨w.heap.size, 0, none⟩, .int .i64 c), (⟨w.heap.size, 1, none⟩, .int .i64 e), (⟨w.heap.size, 2, none⟩, .int .i64 n)]) (by kernel_rfl) (kl3 (T1.out.call (below_drew _))) (fun hHeld => ?_)
    simp only [List.size_toArray, List.length_cons, List.length_nil, Array.replicate_succ, Array.replicate_zero, Nat.reduceAdd, List.push_toArray, List.nil_append, List.cons_append]
    refine wpAnyH_take (i := 0) (v := (.pointer (some ⟨w.heap.size, 0, none⟩))) rfl (by kernel_rfl) (by kernel_rfl) (by kernel_rfl) (fun _ _ _ h => h) (Or.inl ⟨by rfl, ?_⟩) (by assumption) ?_
    · intro w hSw
      (try dsimp only at hSw)
      go_simp
    try simp only [List.getElem_toArray]
    try simp only [List.getElem_cons_succ]
    try simp only [List.getElem_cons_zero]
    try simp only [Act.put]
    try simp only [List.setIfInBounds_toArray]
    try simp only [List.set_cons_succ]
    try simp only [List.set_cons_zero]
    refine wpAnyH_take (i := 1) (v := (.int .i64 c)) rfl (by kernel_rfl) (by kernel_rfl) (by kernel_rfl) (fun _ _ _ h => h) (Or.inl ⟨by rfl, ?_⟩) (by assumption) ?_
    · intro w hSw
      (try dsimp only at hSw)
      go_simp
    try simp only [List.getElem_toArray]
    try simp only [List.getElem_cons_succ]
    try simp only [List.getElem_cons_zero]
    try simp only [Act.put]
    try simp only [List.setIfInBounds_toArray]
    try simp only [List.set_cons_succ]
    try simp only [List.set_cons_zero]
    refine wpAnyH_take (i := 4) (v := (.pointer (some ⟨w.heap.size, 1, none⟩))) rfl (by kernel_rfl) (by kernel_rfl) (by kernel_rfl) (fun _ _ _ h => h) (Or.inl ⟨by rfl, ?_⟩) (by assumption) ?_
    · intro w hSw
      (try dsimp only at hSw)
      go_simp
    try simp only [List.getElem_toArray]
    try simp only [List.getElem_cons_succ]
    try simp only [List.getElem_cons_zero]
    try simp only [Act.put]
    try simp only [List.setIfInBounds_toArray]
    try simp only [List.set_cons_succ]
    try simp only [List.set_cons_zero]
    refine wpAnyH_take (i := 5) (v := (.int .i64 e)) rfl (by kernel_rfl) (by kernel_rfl) (by kernel_rfl) (fun _ _ _ h => h) (Or.inl ⟨by rfl, ?_⟩) (by assumption) ?_
    · intro w hSw
      (try dsimp only at hSw)
      go_simp
    try simp only [List.getElem_toArray]
    try simp only [List.getElem_cons_succ]
    try simp only [List.getElem_cons_zero]
    try simp only [Act.put]
    try simp only [List.setIfInBounds_toArray]
    try simp only [List.set_cons_succ]
    try simp only [List.set_cons_zero]
    refine wpAnyH_take (i := 9) (v := (.pointer (some ⟨w.heap.size, 2, none⟩))) rfl (by kernel_rfl) (by kernel_rfl) (by kernel_rfl) (fun _ _ _ h => h) (Or.inl ⟨by rfl, ?_⟩) (by assumption) ?_
    · intro w hSw
      (try dsimp only at hSw)
      go_simp
    try simp only [List.getElem_toArray]
    try simp only [List.getElem_cons_succ]
    try simp only [List.getElem_cons_zero]
    try simp only [Act.put]
    try simp only [List.setIfInBounds_toArray]
    try simp only [List.set_cons_succ]
    try simp only [List.set_cons_zero]
    refine wpAnyH_take (i := 10) (v := (.int .i64 n)) rfl (by kernel_rfl) (by kernel_rfl) (by kernel_rfl) (fun _ _ _ h => h) (Or.inl ⟨by rfl, ?_⟩) (by assumption) ?_
    · intro w hSw
      (try dsimp only at hSw)
      go_simp
    try simp only [List.getElem_toArray]
    try simp only [List.getElem_cons_succ]
    try simp only [List.getElem_cons_zero]
    try simp only [Act.put]
    try simp only [List.setIfInBounds_toArray]
    try simp only [List.set_cons_succ]
    try simp only [List.set_cons_zero]
    refine wpAnyH_ready (rs := [2]) (by kernel_rfl) (by simp) ?_
    refine AllReadyH.cons rfl (fun K1 hK => ?_) AllReadyH.nil
    go_simp
    refine (CN.out c _ (HT.out.below (B1.out.trans ((kl3_bel (by assumption)).mono B1.out.size)) HG.out)).mono ?_
    rintro r w' ⟨rfl, hbC⟩
    go_wp2_with fail
    refine hK.out _ _ ?_ (fun hHeld => ?_)
    · exact kl3c hbC (by assumption)
    clear hK K1
    try simp only [List.getElem_toArray]
    try simp only [List.getElem_cons_succ]
    try simp only [List.getElem_cons_zero]
    try simp only [Act.put]
    try simp only [List.setIfInBounds_toArray]
    try simp only [List.set_cons_succ]
    try simp only [List.set_cons_zero]
    refine wpAnyH_take (i := 3) (v := (.string (numS c ++ ⟨#[46]⟩))) rfl (by kernel_rfl) (by kernel_rfl) (by kernel_rfl) (fun _ _ _ h => h) (Or.inl ⟨by rfl, ?_⟩) (by assumption) ?_
    · intro w hSw
      (try dsimp only at hSw)
      go_simp
      try omega
    try simp only [List.getElem_toArray]
    try simp only [List.getElem_cons_succ]
    try simp only [List.getElem_cons_zero]
    try simp only [Act.put]
    try simp only [List.setIfInBounds_toArray]
    try simp only [List.set_cons_succ]
    try simp only [List.set_cons_zero]
    refine wpAnyH_ready (rs := [6]) (by kernel_rfl) (by simp) ?_
    refine AllReadyH.cons rfl (fun K1 hK => ?_) AllReadyH.nil
    go_simp
    refine (CN.out e _ (HT.out.below (B1.out.trans ((kl3_bel (by assumption)).mono B1.out.size)) HG.out)).mono ?_
    rintro r w' ⟨rfl, hbC⟩
    go_wp2_with fail
    refine hK.out _ _ ?_ (fun hHeld => ?_)
    · exact kl3c hbC (by assumption)
    clear hK K1
    try simp only [List.getElem_toArray]
    try simp only [List.getElem_cons_succ]
    try simp only [List.getElem_cons_zero]
    try simp only [Act.put]
    try simp only [List.setIfInBounds_toArray]
    try simp only [List.set_cons_succ]
    try simp only [List.set_cons_zero]
    refine wpAnyH_take (i := 7) (v := (.string (numS c ++ ⟨#[46]⟩ ++ numS e))) rfl (by kernel_rfl) (by kernel_rfl) (by kernel_rfl) (fun _ _ _ h => h) (Or.inl ⟨by rfl, ?_⟩) (by assumption) ?_
    · intro w hSw
      (try dsimp only at hSw)
      go_simp
      try omega
    try simp only [List.getElem_toArray]
    try simp only [List.getElem_cons_succ]
    try simp only [List.getElem_cons_zero]
    try simp only [Act.put]
    try simp only [List.setIfInBounds_toArray]
    try simp only [List.set_cons_succ]
    try simp only [List.set_cons_zero]
    refine wpAnyH_take (i := 8) (v := (.string (numS c ++ ⟨#[46]⟩ ++ numS e ++ ⟨#[46]⟩))) rfl (by kernel_rfl) (by kernel_rfl) (by kernel_rfl) (fun _ _ _ h => h) (Or.inl ⟨by rfl, ?_⟩) (by assumption) ?_
    · intro w hSw
      (try dsimp only at hSw)
      go_simp
      try omega
    try simp only [List.getElem_toArray]
    try simp only [List.getElem_cons_succ]
    try simp only [List.getElem_cons_zero]
    try simp only [Act.put]
    try simp only [List.setIfInBounds_toArray]
    try simp only [List.set_cons_succ]
    try simp only [List.set_cons_zero]
    refine wpAnyH_ready (rs := [11]) (by kernel_rfl) (by simp) ?_
    refine AllReadyH.cons rfl (fun K1 hK => ?_) AllReadyH.nil
    go_simp
    refine (CN.out n _ (HT.out.below (B1.out.trans ((kl3_bel (by assumption)).mono B1.out.size)) HG.out)).mono ?_
    rintro r w' ⟨rfl, hbC⟩
    go_wp2_with fail
    refine hK.out _ _ ?_ (fun hHeld => ?_)
    · exact kl3c hbC (by assumption)
    clear hK K1
    try simp only [List.getElem_toArray]
    try simp only [List.getElem_cons_succ]
    try simp only [List.getElem_cons_zero]
    try simp only [Act.put]
    try simp only [List.setIfInBounds_toArray]
    try simp only [List.set_cons_succ]
    try simp only [List.set_cons_zero]
    refine wpAnyH_take (i := 12) (v := (.string (numS c ++ ⟨#[46]⟩ ++ numS e ++ ⟨#[46]⟩ ++ numS n))) rfl (by kernel_rfl) (by kernel_rfl) (by kernel_rfl) (fun _ _ _ h => h) (Or.inl ⟨by rfl, ?_⟩) (by assumption) ?_
    · intro w hSw
      (try dsimp only at hSw)
      go_simp
      try omega
    try simp only [List.getElem_toArray]
    try simp only [List.getElem_cons_succ]
    try simp only [List.getElem_cons_zero]
    try simp only [Act.put]
    try simp only [List.setIfInBounds_toArray]
    try simp only [List.set_cons_succ]
    try simp only [List.set_cons_zero]
    refine wpAnyH_take (i := 13) (v := (.string (numS c ++ ⟨#[46]⟩ ++ numS e ++ ⟨#[46]⟩ ++ numS n))) rfl (by kernel_rfl) (by kernel_rfl) (by kernel_rfl) (fun _ _ _ h => h) (Or.inl ⟨by rfl, ?_⟩) (by assumption) ?_
    · intro w hSw
      (try dsimp only at hSw)
      go_simp
    try simp only [List.getElem_toArray]
    try simp only [List.getElem_cons_succ]
    try simp only [List.getElem_cons_zero]
    try simp only [Act.put]
    try simp only [List.setIfInBounds_toArray]
    try simp only [List.set_cons_succ]
    try simp only [List.set_cons_zero]
    refine wpAnyH_done (by kernel_rfl) ?_ _
    refine NoPanic.normal ?_
    have B9 := hid (B1.out.trans ((kl3_bel (by assumption)).mono B1.out.size))
    go_wp2
    go_ret
    exact ⟨by rw [HV.out]; rfl, B9.out⟩
set_option maxHeartbeats 4000000 in
set_option maxRecDepth 20000 in
theorem specTxText_any (c e n : Int) (w : World) : Calls Tryz.prog 27 #[.agg #[.int .i64 c, .int .i64 e, .int .i64 n]] w fun r w' => r = .returned (.string (txT (c, e, n))) ∧ Below w.heap.size w w' := by
  have B0 := hid (below_new (o := .cells #[.int .i64 c, .int .i64 e, .int .i64 n] 41) (w := w) (Below.refl _ _))
  have K0 := hid (Bk.new w 41 [.int .i64 c, .int .i64 e, .int .i64 n])
  have C1 := hid (fun w => specTxOk_any c e n w)
  have CN := hid (fun n w => specNumText_any n w)
  have hnot : ∀ (x : Bool) (w : World), (Op.unary .not (.bool x)).run Tryz.prog w = .ok (.bool (!x)) w := fun _ _ => rfl
  have s1 := numS_size c
  have s2 := numS_size e
  have s3 := numS_size n
  have hd := dot_size
  have a1 : (numS c ++ ⟨#[46]⟩).size ≤ 14 := by rw [ByteArray.size_append]; omega
  have a2 : (numS c ++ ⟨#[46]⟩ ++ numS e).size ≤ 27 := by rw [ByteArray.size_append]; omega
  have a3 : (numS c ++ ⟨#[46]⟩ ++ numS e ++ ⟨#[46]⟩).size ≤ 28 := by rw [ByteArray.size_append]; omega
  have q1 : ¬ (9223372036854775807 < (numS c).size + (⟨#[46]⟩ : ByteArray).size) := by omega
  have q2 : ¬ (9223372036854775807 < (numS c ++ ⟨#[46]⟩).size + (numS e).size) := by omega
  have q3 : ¬ (9223372036854775807 < (numS c ++ ⟨#[46]⟩ ++ numS e).size + (⟨#[46]⟩ : ByteArray).size) := by omega
  have q4 : ¬ (9223372036854775807 < (numS c ++ ⟨#[46]⟩ ++ numS e ++ ⟨#[46]⟩).size + (numS n).size) := by omega
  cases hz : txOk (c, e, n) with
  | false =>
    have HV := hid (txT_no hz)
    rw [hz] at C1
    clear hz
    go_enter Tryz.func27, Tryz.ntmps27
    go_wp2_with fail
    refine (C1.out _).mono ?_
    rintro r w1 ⟨rfl, hb⟩
    have B1 := hid (B0.out.trans (hb.mono B0.out.size))
    clear hb
    go_wp2
    go_ret
    exact ⟨by rw [HV.out]; rfl, B1.out⟩
  | true =>
    have HV := hid (txT_yes hz)
    rw [hz] at C1
    clear hz
    go_enter Tryz.func27, Tryz.ntmps27
    go_wp2_with fail
    refine (C1.out _).mono ?_
    generalize w.alloc (.cells #[.int .i64 c, .int .i64 e, .int .i64 n] 41) = U at *
    rintro r w1 ⟨rfl, hb⟩
    have B1 := hid (B0.out.trans (hb.mono B0.out.size))
    have K1 := hid (K0.out.below hb)
    clear hb B0 K0
    have T1 := hid (kl3_0 (K1.out.cell (j := 0) rfl) (K1.out.cell (j := 1) rfl) (K1.out.cell (j := 2) rfl))
    go_wp2_with fail
    refine wp_region_noPanic ?_
    refine wp_region_held_drew (S := fun v => v.cell? ⟨w.heap.size, 0, none⟩ = some (.int .i64 c) ∧ v.cell? ⟨w.heap.size, 1, none⟩ = some (.int .i64 e) ∧ v.cell? ⟨w.heap.size, 2, none⟩ = some (.int .i64 n) ∧ KL w1 v [(⟨w.heap.size, 0, none⟩, .int .i64 c), (⟨w.heap.size, 1, none⟩, .int .i64 e), (⟨w.heap.size, 2, none⟩, .int .i64 n)]) (by kernel_rfl) (kl3 (T1.out.call (below_drew _))) (fun hHeld => ?_)
    simp only [List.size_toArray, List.length_cons, List.length_nil, Array.replicate_succ, Array.replicate_zero, Nat.reduceAdd, List.push_toArray, List.nil_append, List.cons_append]
    refine wpAnyH_take (i := 0) (v := (.pointer (some ⟨w.heap.size, 0, none⟩))) rfl (by kernel_rfl) (by kernel_rfl) (by kernel_rfl) (fun _ _ _ h => h) (Or.inl ⟨by rfl, ?_⟩) (by assumption) ?_
    · intro w hSw
      (try dsimp only at hSw)
      go_simp
    try simp only [List.getElem_toArray]
    try simp only [List.getElem_cons_succ]
    try simp only [List.getElem_cons_zero]
    try simp only [Act.put]
    try simp only [List.setIfInBounds_toArray]
    try simp only [List.set_cons_succ]
    try simp only [List.set_cons_zero]
    refine wpAnyH_take (i := 1) (v := (.int .i64 c)) rfl (by kernel_rfl) (by kernel_rfl) (by kernel_rfl) (fun _ _ _ h => h) (Or.inl ⟨by rfl, ?_⟩) (by assumption) ?_
    · intro w hSw
      (try dsimp only at hSw)
      go_simp
    try simp only [List.getElem_toArray]
    try simp only [List.getElem_cons_succ]
    try simp only [List.getElem_cons_zero]
    try simp only [Act.put]
    try simp only [List.setIfInBounds_toArray]
    try simp only [List.set_cons_succ]
    try simp only [List.set_cons_zero]
    refine wpAnyH_take (i := 4) (v := (.pointer (some ⟨w.heap.size, 1, none⟩))) rfl (by kernel_rfl) (by kernel_rfl) (by kernel_rfl) (fun _ _ _ h => h) (Or.inl ⟨by rfl, ?_⟩) (by assumption) ?_
    · intro w hSw
      (try dsimp only at hSw)
      go_simp
    try simp only [List.getElem_toArray]
    try simp only [List.getElem_cons_succ]
    try simp only [List.getElem_cons_zero]
    try simp only [Act.put]
    try simp only [List.setIfInBounds_toArray]
    try simp only [List.set_cons_succ]
    try simp only [List.set_cons_zero]
    refine wpAnyH_take (i := 5) (v := (.int .i64 e)) rfl (by kernel_rfl) (by kernel_rfl) (by kernel_rfl) (fun _ _ _ h => h) (Or.inl ⟨by rfl, ?_⟩) (by assumption) ?_
    · intro w hSw
      (try dsimp only at hSw)
      go_simp
    try simp only [List.getElem_toArray]
    try simp only [List.getElem_cons_succ]
    try simp only [List.getElem_cons_zero]
    try simp only [Act.put]
    try simp only [List.setIfInBounds_toArray]
    try simp only [List.set_cons_succ]
    try simp only [List.set_cons_zero]
    refine wpAnyH_take (i := 9) (v := (.pointer (some ⟨w.heap.size, 2, none⟩))) rfl (by kernel_rfl) (by kernel_rfl) (by kernel_rfl) (fun _ _ _ h => h) (Or.inl ⟨by rfl, ?_⟩) (by assumption) ?_
    · intro w hSw
      (try dsimp only at hSw)
      go_simp
    try simp only [List.getElem_toArray]
    try simp only [List.getElem_cons_succ]
    try simp only [List.getElem_cons_zero]
    try simp only [Act.put]
    try simp only [List.setIfInBounds_toArray]
    try simp only [List.set_cons_succ]
    try simp only [List.set_cons_zero]
    refine wpAnyH_take (i := 10) (v := (.int .i64 n)) rfl (by kernel_rfl) (by kernel_rfl) (by kernel_rfl) (fun _ _ _ h => h) (Or.inl ⟨by rfl, ?_⟩) (by assumption) ?_
    · intro w hSw
      (try dsimp only at hSw)
      go_simp
    try simp only [List.getElem_toArray]
    try simp only [List.getElem_cons_succ]
    try simp only [List.getElem_cons_zero]
    try simp only [Act.put]
    try simp only [List.setIfInBounds_toArray]
    try simp only [List.set_cons_succ]
    try simp only [List.set_cons_zero]
    refine wpAnyH_ready (rs := [2]) (by kernel_rfl) (by simp) ?_
    refine AllReadyH.cons rfl (fun K1 hK => ?_) AllReadyH.nil
    go_simp
    refine (CN.out c _).mono ?_
    rintro r w' ⟨rfl, hbC⟩
    go_wp2_with fail
    refine hK.out _ _ ?_ (fun hHeld => ?_)
    · exact kl3c hbC (by assumption)
    clear hK K1
    try simp only [List.getElem_toArray]
    try simp only [List.getElem_cons_succ]
    try simp only [List.getElem_cons_zero]
    try simp only [Act.put]
    try simp only [List.setIfInBounds_toArray]
    try simp only [List.set_cons_succ]
    try simp only [List.set_cons_zero]
    refine wpAnyH_take (i := 3) (v := (.string (numS c ++ ⟨#[46]⟩))) rfl (by kernel_rfl) (by kernel_rfl) (by kernel_rfl) (fun _ _ _ h => h) (Or.inl ⟨by rfl, ?_⟩) (by assumption) ?_
    · intro w hSw
      (try dsimp only at hSw)
      go_simp
      try omega
    try simp only [List.getElem_toArray]
    try simp only [List.getElem_cons_succ]
    try simp only [List.getElem_cons_zero]
    try simp only [Act.put]
    try simp only [List.setIfInBounds_toArray]
    try simp only [List.set_cons_succ]
    try simp only [List.set_cons_zero]
    refine wpAnyH_ready (rs := [6]) (by kernel_rfl) (by simp) ?_
    refine AllReadyH.cons rfl (fun K1 hK => ?_) AllReadyH.nil
    go_simp
    refine (CN.out e _).mono ?_
    rintro r w' ⟨rfl, hbC⟩
    go_wp2_with fail
    refine hK.out _ _ ?_ (fun hHeld => ?_)
    · exact kl3c hbC (by assumption)
    clear hK K1
    try simp only [List.getElem_toArray]
    try simp only [List.getElem_cons_succ]
    try simp only [List.getElem_cons_zero]
    try simp only [Act.put]
    try simp only [List.setIfInBounds_toArray]
    try simp only [List.set_cons_succ]
    try simp only [List.set_cons_zero]
    refine wpAnyH_take (i := 7) (v := (.string (numS c ++ ⟨#[46]⟩ ++ numS e))) rfl (by kernel_rfl) (by kernel_rfl) (by kernel_rfl) (fun _ _ _ h => h) (Or.inl ⟨by rfl, ?_⟩) (by assumption) ?_
    · intro w hSw
      (try dsimp only at hSw)
      go_simp
      try omega
    try simp only [List.getElem_toArray]
    try simp only [List.getElem_cons_succ]
    try simp only [List.getElem_cons_zero]
    try simp only [Act.put]
    try simp only [List.setIfInBounds_toArray]
    try simp only [List.set_cons_succ]
    try simp only [List.set_cons_zero]
    refine wpAnyH_take (i := 8) (v := (.string (numS c ++ ⟨#[46]⟩ ++ numS e ++ ⟨#[46]⟩))) rfl (by kernel_rfl) (by kernel_rfl) (by kernel_rfl) (fun _ _ _ h => h) (Or.inl ⟨by rfl, ?_⟩) (by assumption) ?_
    · intro w hSw
      (try dsimp only at hSw)
      go_simp
      try omega
    try simp only [List.getElem_toArray]
    try simp only [List.getElem_cons_succ]
    try simp only [List.getElem_cons_zero]
    try simp only [Act.put]
    try simp only [List.setIfInBounds_toArray]
    try simp only [List.set_cons_succ]
    try simp only [List.set_cons_zero]
    refine wpAnyH_ready (rs := [11]) (by kernel_rfl) (by simp) ?_
    refine AllReadyH.cons rfl (fun K1 hK => ?_) AllReadyH.nil
    go_simp
    refine (CN.out n _).mono ?_
    rintro r w' ⟨rfl, hbC⟩
    go_wp2_with fail
    refine hK.out _ _ ?_ (fun hHeld => ?_)
    · exact kl3c hbC (by assumption)
    clear hK K1
    try simp only [List.getElem_toArray]
    try simp only [List.getElem_cons_succ]
    try simp only [List.getElem_cons_zero]
    try simp only [Act.put]
    try simp only [List.setIfInBounds_toArray]
    try simp only [List.set_cons_succ]
    try simp only [List.set_cons_zero]
    refine wpAnyH_take (i := 12) (v := (.string (numS c ++ ⟨#[46]⟩ ++ numS e ++ ⟨#[46]⟩ ++ numS n))) rfl (by kernel_rfl) (by kernel_rfl) (by kernel_rfl) (fun _ _ _ h => h) (Or.inl ⟨by rfl, ?_⟩) (by assumption) ?_
    · intro w hSw
      (try dsimp only at hSw)
      go_simp
      try omega
    try simp only [List.getElem_toArray]
    try simp only [List.getElem_cons_succ]
    try simp only [List.getElem_cons_zero]
    try simp only [Act.put]
    try simp only [List.setIfInBounds_toArray]
    try simp only [List.set_cons_succ]
    try simp only [List.set_cons_zero]
    refine wpAnyH_take (i := 13) (v := (.string (numS c ++ ⟨#[46]⟩ ++ numS e ++ ⟨#[46]⟩ ++ numS n))) rfl (by kernel_rfl) (by kernel_rfl) (by kernel_rfl) (fun _ _ _ h => h) (Or.inl ⟨by rfl, ?_⟩) (by assumption) ?_
    · intro w hSw
      (try dsimp only at hSw)
      go_simp
    try simp only [List.getElem_toArray]
    try simp only [List.getElem_cons_succ]
    try simp only [List.getElem_cons_zero]
    try simp only [Act.put]
    try simp only [List.setIfInBounds_toArray]
    try simp only [List.set_cons_succ]
    try simp only [List.set_cons_zero]
    refine wpAnyH_done (by kernel_rfl) ?_ _
    refine NoPanic.normal ?_
    have B9 := hid (B1.out.trans ((kl3_bel (by assumption)).mono B1.out.size))
    go_wp2
    go_ret
    exact ⟨by rw [HV.out]; rfl, B9.out⟩
end Go.Proofs.YtgnjknbgahickacGreatDoor
/-
  The keys under which a transaction's records and its coordinator's last stand, on both sides.
-/
namespace Go.Proofs.YtgnjknbgahickacGreatDoor
open Go.RowKit
set_option linter.unusedVariables false
def pKey (t : TX) (i : Int) : ByteArray := ⟨#[112]⟩ ++ txT t ++ ⟨#[46]⟩ ++ numS i
def lKey (c : Int) : ByteArray := ⟨#[104]⟩ ++ numS c
theorem btE {u v w : World} (h : Below u.heap.size u v) (k : Below v.heap.size v w) : Below u.heap.size u w := h.trans (k.mono h.size)
theorem txT_small (x : TX) : (txT x).size ≤ 41 := by
  unfold txT
  split
  · simp only [ByteArray.size_append, dot_size]
    have h1 := numS_size x.1
    have h2 := numS_size x.2.1
    have h3 := numS_size x.2.2
    omega
  · decide
set_option maxHeartbeats 4000000 in
theorem implLKey_any (c : Int) (w : World) (ht : Tab w) : Calls Tryz.prog 44 #[.int .i64 c] w fun r w' => r = .returned (.string (lKey c)) ∧ Below w.heap.size w w' := by
  have HV : Hid (lKey c = ⟨#[104]⟩ ++ numS c) := rfl
  have s2 := numS_size c
  have p1 : (⟨#[104]⟩ : ByteArray).size = 1 := rfl
  have C2 := hid (implNumText_any c w ht)
  generalize numS c = u at *
  have q1 : ¬ (9223372036854775807 < (⟨#[104]⟩ : ByteArray).size + u.size) := by omega
  clear p1 ht
  go_enter Tryz.func44, Tryz.ntmps44
  go_wp2_with fail
  refine C2.out.mono ?_
  rintro r w2 ⟨rfl, hb⟩
  have B2 := hid hb
  clear hb
  go_wp2
  go_ret
  exact ⟨by rw [HV.out]; rfl, B2.out⟩
end Go.Proofs.YtgnjknbgahickacGreatDoor
/-
  What a row's list of errors gives: the variable's cell holds an error.
-/
namespace Go.Proofs.YtgnjknbgahickacGreatDoor
open Go.RowKit Go.ChangeShapes

/-- The variable at block v holds an error. -/
def Err (w : World) (v : Nat) : Prop := ∃ t x, w.cell? ⟨v, 0, none⟩ = some (.iface t x)
theorem Err.below {w w' : World} {v g : Nat} (h : Err w v) (hb : Below g w w') (hv : v < g) : Err w' v := by
  obtain ⟨t, x, hc⟩ := h
  exact ⟨t, x, by rw [hb.cell (p := ⟨v, 0, none⟩) hv]; exact hc⟩
theorem laid_err {P : Program} {n nm : String} {d : DataW Unit} {r : List (String × DataW Unit)} {W : World} {g : Nat} {ti : TypeId} {ms : Array (String × TypeId)}
    (h : laidMet P ((n, .iface nm d) :: r) W) (hg : P.globalNamed n = some g) (ht : (P.globals[g]?).map (·.type) = some ti) (hi : P.underlying ti = some (.interface ms)) : Err W g := by
  obtain ⟨ps, ⟨g0, t0, cs0, f0, p0, q0, hg0, ht0, hv0, hd0, _, e0⟩, _, hrows⟩ := h
  obtain rfl := Option.some.inj (hg.symm.trans hg0)
  obtain rfl := Option.some.inj (ht.symm.trans ht0)
  obtain ⟨f1, u, v, hcs, hn, h1⟩ := iface_of_trod hi hd0
  have hc : cs0 = #[.iface u v] := by
    cases cs0
    simp_all
  subst hc
  exact ⟨u, v, by simpa using World.var?_cell hg0 hv0 0⟩
theorem Err.lt {w : World} {g : Nat} (h : Err w g) : g < w.heap.size := by
  obtain ⟨t, x, hc⟩ := h
  exact block_lt hc
end Go.Proofs.YtgnjknbgahickacGreatDoor
/-
  The number of a decimal text: what both TextNums answer, for every string.
-/
namespace Go.Proofs.YtgnjknbgahickacGreatDoor
open Go.RowKit

def isDig (c : UInt8) : Prop := 48 ≤ c.toNat ∧ c.toNat ≤ 57
/-- What digits spell behind a. -/
def dval (a : Nat) (l : List UInt8) : Nat := l.foldl (fun a c => a * 10 + (c.toNat - 48)) a
theorem dval_cons (a : Nat) (c : UInt8) (l : List UInt8) : dval a (c :: l) = dval (a * 10 + (c.toNat - 48)) l := by simp only [dval, List.foldl_cons]
theorem dval_snoc (a : Nat) (l : List UInt8) (c : UInt8) : dval a (l ++ [c]) = dval a l * 10 + (c.toNat - 48) := by simp [dval]
theorem dval_ge (l : List UInt8) : ∀ a, a ≤ dval a l := by
  induction l with
  | nil => intro a; exact Nat.le_refl _
  | cons c l ih =>
    intro a
    rw [dval_cons]
    have := ih (a * 10 + (c.toNat - 48))
    omega
theorem dval_lt (l : List UInt8) : ∀ (_ : ∀ c ∈ l, isDig c) (a : Nat), dval a l + 1 ≤ (a + 1) * 10 ^ l.length := by
  induction l with
  | nil => intro _ a; simp [dval]
  | cons c l ih =>
    intro h a
    rw [dval_cons]
    have hc := h c List.mem_cons_self
    have := ih (fun c hc => h c (List.mem_cons_of_mem _ hc)) (a * 10 + (c.toNat - 48))
    have h2 : (a * 10 + (c.toNat - 48) + 1) * 10 ^ l.length ≤ ((a + 1) * 10) * 10 ^ l.length := Nat.mul_le_mul_right _ (by have := hc.1; have := hc.2; omega)
    rw [List.length_cons, Nat.pow_succ, Nat.mul_comm (10 ^ l.length) 10, ← Nat.mul_assoc]
    omega
theorem pu_ok (l : List UInt8) : ∀ a : Nat, (∀ c ∈ l, isDig c) → dval a l < 1844674407370955162 → Lib.parseUint10 a l = .ok (dval a l) := by
  induction l with
  | nil => intro a _ _; rfl
  | cons c l ih =>
    intro a h hv
    have hc := h c List.mem_cons_self
    rw [dval_cons] at hv ⊢
    have hge := dval_ge l (a * 10 + (c.toNat - 48))
    unfold Lib.parseUint10
    rw [if_pos (show 48 ≤ c.toNat ∧ c.toNat ≤ 57 from hc), if_neg (by omega), if_neg (by omega)]
    exact ih _ (fun c hc => h c (List.mem_cons_of_mem _ hc)) hv
theorem dec_dig (k : Nat) : ∀ u : Nat, u ≤ k → (∀ c ∈ Lib.decDigits u, isDig c) ∧ dval 0 (Lib.decDigits u) = u ∧ Lib.decDigits u ≠ [] := by
  induction k with
  | zero =>
    intro u hu
    have : u = 0 := by omega
    subst this
    rw [Lib.decDigits, dif_pos (by omega)]
    refine ⟨?_, rfl, by simp⟩
    intro c hc
    simp at hc
    subst hc
    exact ⟨by decide, by decide⟩
  | succ k ih =>
    intro u hu
    rw [Lib.decDigits]
    split
    · rename_i h
      have e : (UInt8.ofNat (48 + u)).toNat = 48 + u := by rw [UInt8.toNat_ofNat']; omega
      refine ⟨?_, ?_, by simp⟩
      · intro c hc
        simp only [List.mem_singleton] at hc
        subst hc
        exact ⟨by omega, by omega⟩
      · show 0 * 10 + ((UInt8.ofNat (48 + u)).toNat - 48) = u
        omega
    · rename_i h
      obtain ⟨h1, h2, h3⟩ := ih (u / 10) (by omega)
      have e : (UInt8.ofNat (48 + u % 10)).toNat = 48 + u % 10 := by rw [UInt8.toNat_ofNat']; omega
      refine ⟨?_, ?_, by simp⟩
      · intro c hc
        rcases List.mem_append.1 hc with a | a
        · exact h1 c a
        · simp only [List.mem_singleton] at a
          subst a
          exact ⟨by omega, by omega⟩
      · rw [dval_snoc, h2, e]
        omega
theorem atoi_dec (u : Nat) (hu : u ≤ 1099511627775) : Lib.atoiAll (Lib.decDigits u) = .ok (u : Int) := by
  obtain ⟨h1, h2, h3⟩ := dec_dig u u (Nat.le_refl _)
  cases hd : Lib.decDigits u with
  | nil => exact absurd hd h3
  | cons c r =>
    rw [hd] at h1 h2
    have hc := h1 c List.mem_cons_self
    rw [Lib.atoiAll_plain c r (by have := hc.1; omega) (by have := hc.1; omega)]
    unfold Lib.parseMag
    rw [if_neg (by simp), pu_ok _ 0 h1 (by omega), h2]
    unfold Lib.signless
    simp only
    rw [if_neg (by omega)]

/-- What TextNum answers. -/
def tn (s : ByteArray) : Option Int := if numS (dval 0 s.data.toList : Int) = s ∧ 1 ≤ s.size then some (dval 0 s.data.toList : Int) else none
theorem numS_inv (n : Int) (s : ByteArray) (h : numS n = s) (hs : 1 ≤ s.size) : 0 ≤ n ∧ n ≤ 1099511627775 ∧ s.data.toList = Lib.decDigits n.toNat := by
  by_cases hn : 0 ≤ n ∧ n ≤ 1099511627775
  · rw [numS_ok n hn.1 hn.2] at h
    exact ⟨hn.1, hn.2, by rw [← h]⟩
  · rw [numS_bad n hn] at h
    rw [← h] at hs
    exact absurd hs (by decide)
theorem tn_of (n : Int) (s : ByteArray) (h : numS n = s) (hs : 1 ≤ s.size) : tn s = some n := by
  obtain ⟨h0, h1, h2⟩ := numS_inv n s h hs
  have e : (dval 0 s.data.toList : Int) = n := by rw [h2, (dec_dig _ _ (Nat.le_refl _)).2.1]; omega
  unfold tn
  rw [e, if_pos ⟨h, hs⟩]
theorem tn_some (n : Int) (s : ByteArray) (h : tn s = some n) : numS n = s ∧ 1 ≤ s.size := by
  unfold tn at h
  split at h
  · rename_i hc
    cases h
    exact hc
  · cases h
theorem tn_atoi (n : Int) (s : ByteArray) (h : tn s = some n) : Lib.atoiAll s.data.toList = .ok n := by
  obtain ⟨a, b⟩ := tn_some n s h
  obtain ⟨h0, h1, h2⟩ := numS_inv n s a b
  rw [h2, atoi_dec n.toNat (by omega)]
  congr 1
  omega
theorem tn_digits (n : Int) (s : ByteArray) (h : tn s = some n) : s.size ≤ 13 ∧ ∀ c ∈ s.data.toList, isDig c := by
  obtain ⟨a, b⟩ := tn_some n s h
  obtain ⟨h0, h1, h2⟩ := numS_inv n s a b
  refine ⟨by rw [← a]; exact numS_size n, ?_⟩
  rw [h2]
  exact (dec_dig _ _ (Nat.le_refl _)).1
theorem take_snoc (s : ByteArray) (k : Nat) (h : k < s.size) : s.data.toList.take (k + 1) = s.data.toList.take k ++ [s[k]] := by
  rw [List.take_succ_eq_append_getElem (by simpa using h)]; rfl
theorem str_ne {a b : ByteArray} (h : a ≠ b) : (a.toList == b.toList) = false := by
  rw [beq_eq_false_iff_ne]
  intro e
  rw [ByteArray.toList_eq, ByteArray.toList_eq] at e
  exact h (Go.WideShapes.bytes_inj e)

set_option maxHeartbeats 1000000 in
theorem specTextNum_any (s : ByteArray) (w : World) (hs : s.size ≤ 1048576) :
    Calls Tryz.prog 51 #[.string s] w fun e w' => e = .returned (.tuple #[.int .i64 ((tn s).getD 0), .bool (tn s).isSome]) ∧ Below w.heap.size w w' := by
  have none_of : ∀ (_ : s.size < 1 ∨ 13 < s.size), tn s = none := by
    intro h
    cases hu : tn s with
    | none => rfl
    | some n =>
      have := (tn_digits n s hu).1
      have := (tn_some n s hu).2
      omega
  by_cases h1 : s.size < 1
  · have HU := hid (none_of (.inl h1))
    have h1' : (s.size : Int) < 1 := by omega
    clear none_of
    go_enter Tryz.func51, Tryz.ntmps51
    go_wp2
    go_ret2
    exact ⟨by rw [HU.out]; rfl, Below.refl _ _⟩
  · have h1' : ¬ (s.size : Int) < 1 := by omega
    by_cases h2 : 13 < s.size
    · have HU := hid (none_of (.inr h2))
      have h2' : (13 : Int) < (s.size : Int) := by omega
      clear none_of
      go_enter Tryz.func51, Tryz.ntmps51
      go_wp2
      go_ret2
      exact ⟨by rw [HU.out]; rfl, Below.refl _ _⟩
    · have h2' : ¬ (13 : Int) < (s.size : Int) := by omega
      clear none_of
      go_enter Tryz.func51, Tryz.ntmps51
      go_wp2
      go_loop [4, 5] (fun t i => ∃ (k : Nat) (n : Nat), k ≤ s.size ∧ i = .int .i64 k ∧ t = .int .i64 (n : Int) ∧ n = dval 0 (s.data.toList.take k) ∧ (∀ c ∈ s.data.toList.take k, isDig c) ∧ n < 10 ^ k) (fun _ i => s.size - (intOf i).toNat)
      case atStart => exact ⟨0, 0, Nat.zero_le _, rfl, rfl, rfl, by simp, by simp⟩
      case round =>
        obtain ⟨k, n, hk, rfl, rfl, hn, hd, hlt10⟩ := hrel
        have HN := hid hn
        have HD := hid hd
        have hp : 10 ^ k ≤ 10 ^ 13 := Nat.pow_le_pow_right (by omega) (by omega)
        have hn13 : n < 10000000000000 := by omega
        have HP := hid hlt10
        clear hn hd hp hlt10
        by_cases hlt : k < s.size
        · have hlt' : (k : Int) < (s.size : Int) := by omega
          by_cases hdig : 48 ≤ s[k].toNat ∧ s[k].toNat ≤ 57
          · have HT := hid (take_snoc s k hlt)
            have d1 : ¬ (s[k].toNat : Int) < 48 := by omega
            have d2 : ¬ (57 : Int) < (s[k].toNat : Int) := by omega
            have HN2 : Hid (n * 10 + (s[k].toNat - 48) = dval 0 (s.data.toList.take (k + 1))) := by
              show n * 10 + (s[k].toNat - 48) = dval 0 (s.data.toList.take (k + 1))
              rw [HT.out, dval_snoc, ← HN.out]
            have HD2 : Hid (∀ c ∈ s.data.toList.take (k + 1), isDig c) := by
              intro c hc
              rw [HT.out] at hc
              rcases List.mem_append.1 hc with a | a
              · exact HD.out c a
              · simp only [List.mem_singleton] at a
                subst a
                exact hdig
            have HP2 : Hid (n * 10 + (s[k].toNat - 48) < 10 ^ (k + 1)) := by
              show n * 10 + (s[k].toNat - 48) < 10 ^ (k + 1)
              have := HP.out
              rw [Nat.pow_succ]
              omega
            have hcast : ((n * 10 + (s[k].toNat - 48) : Nat) : Int) = (n : Int) * 10 + ((s[k].toNat : Int) - 48) := by omega
            have HCA := hid hcast
            clear hcast hdig
            go_wp2
            go_round
            case rel => exact ⟨k + 1, n * 10 + (s[k].toNat - 48), by omega, by go_num, by rw [HCA.out], HN2.out, HD2.out, HP2.out⟩
            case measure => simp [intOf]; omega
          · have HU : Hid (tn s = none) := by
              show tn s = none
              cases hu : tn s with
              | none => rfl
              | some m =>
                exact absurd ((tn_digits m s hu).2 s[k] (by
                  have : s[k] = s.data.toList[k]'(by simpa using hlt) := rfl
                  rw [this]; exact List.getElem_mem _)) hdig
            rcases (by omega : (s[k].toNat : Int) < 48 ∨ (¬ (s[k].toNat : Int) < 48 ∧ (57 : Int) < (s[k].toNat : Int))) with d1 | ⟨d1, d2⟩
            all_goals
              clear hdig
              go_wp2
              go_ret2
              exact ⟨by rw [HU.out]; rfl, Below.refl _ _⟩
        · have hlt' : ¬ (k : Int) < (s.size : Int) := by omega
          have HV : Hid (n = dval 0 s.data.toList) := by
            show n = dval 0 s.data.toList
            rw [HN.out, List.take_of_length_le (by simp; omega)]
          by_cases hmax : (n : Int) ≤ 1099511627775
          · have HS := hid (specNumText_any (n : Int) w)
            by_cases hq : numS (n : Int) = s
            · have HU := hid (tn_of (n : Int) s hq (by omega))
              rw [hq] at HS
              clear hq
              go_wp2_with (first
                | (go_at_call 69; refine (specNum_any (n : Int) _ true (by rw [decide_eq_true]; exact ⟨by omega, hmax⟩)).mono ?_; rintro e w' ⟨rfl, rfl⟩)
                | (go_at_call 41; refine HS.out.mono ?_; rintro e w1 ⟨rfl, hb1⟩))
              go_ret2
              exact ⟨by rw [HU.out]; rfl, hb1⟩
            · have HU : Hid (tn s = none) := by
                show tn s = none
                unfold tn
                rw [← HV.out]
                exact if_neg (fun x => hq x.1)
              have hne := str_ne hq
              clear hq
              go_wp2_with (first
                | (go_at_call 69; refine (specNum_any (n : Int) _ true (by rw [decide_eq_true]; exact ⟨by omega, hmax⟩)).mono ?_; rintro e w' ⟨rfl, rfl⟩)
                | (go_at_call 41; refine HS.out.mono ?_; rintro e w1 ⟨rfl, hb1⟩))
              go_ret2
              exact ⟨by rw [HU.out]; rfl, hb1⟩
          · have HU : Hid (tn s = none) := by
              show tn s = none
              cases hu : tn s with
              | none => rfl
              | some m =>
                obtain ⟨a, b⟩ := tn_some m s hu
                obtain ⟨h0, hm1, hm2⟩ := numS_inv m s a b
                have : n = m.toNat := by rw [HV.out, hm2, (dec_dig _ _ (Nat.le_refl _)).2.1]
                omega
            go_wp2_with (go_at_call 69; refine (specNum_any (n : Int) _ false (by rw [decide_eq_false]; omega)).mono ?_; rintro e w' ⟨rfl, rfl⟩)
            go_ret2
            exact ⟨by rw [HU.out]; rfl, Below.refl _ _⟩

theorem atoi_any (s : ByteArray) (w : World) (hs : s.size ≤ 1048576) (e1 : Err w 1) (e2 : Err w 2) :
    Calls Tryz.prog 119 #[.string s] w fun e w' => Below w.heap.size w w' ∧ ((∃ v, Lib.atoiAll s.data.toList = .ok v ∧ e = .returned (.tuple #[.int .i64 v, .nilIface])) ∨ (tn s = none ∧ ∃ n t x, e = .returned (.tuple #[.int .i64 n, .iface t x]))) := by
  obtain ⟨t1, x1, c1⟩ := e1
  obtain ⟨t2, x2, c2⟩ := e2
  have nn : ∀ (_ : ∀ v, Lib.atoiAll s.data.toList ≠ .ok v), tn s = none := by
    intro h
    cases hu : tn s with
    | none => rfl
    | some n => exact absurd (tn_atoi n s hu) (h n)
  rcases hc : Lib.atoiAll s.data.toList with v | _ | _
  · refine (Any.strconv_Atoi_ok Tryz.laysC172 s (by omega) v hc w).mono ?_
    rintro e w' ⟨he, hw⟩
    refine ⟨?_, .inl ⟨v, rfl, he⟩⟩
    rcases hw with rfl | ⟨t, rfl⟩
    · exact Below.refl _ _
    · exact Lib.bytesWorld_below _ _ _
  · refine (Any.strconv_Atoi_syntax Tryz.laysC172 s (by omega) hc _ w c1 (.inr ⟨t1, x1, rfl⟩)).mono ?_
    rintro e w' ⟨N, he, _, _, hb⟩
    exact ⟨hb, .inr ⟨nn (by rw [hc]; intro v; simp), _, _, _, he⟩⟩
  · refine (Any.strconv_Atoi_range Tryz.laysC172 s (by omega) hc _ w c2 (.inr ⟨t2, x2, rfl⟩)).mono ?_
    rintro e w' ⟨N, he, _, _, hb⟩
    exact ⟨hb, .inr ⟨nn (by rw [hc]; intro v; simp), _, _, _, he⟩⟩

set_option maxHeartbeats 800000 in
theorem implTextNum_any (s : ByteArray) (w : World) (hs : s.size ≤ 1048576) (ht : Tab w) (e1 : Err w 1) (e2 : Err w 2) (hg : 3 < w.heap.size) :
    Calls Tryz.prog 75 #[.string s] w fun e w' => e = .returned (.tuple #[.int .i64 ((tn s).getD 0), .bool (tn s).isSome]) ∧ Below w.heap.size w w' := by
  have HT := hid ht
  have HG := hid hg
  have HA := hid (atoi_any s w hs e1 e2)
  clear ht hg e1 e2
  go_enter Tryz.func75, Tryz.ntmps75
  go_wp2_with fail
  refine HA.out.mono ?_
  rintro e w1 ⟨hb1, ⟨v, hv, rfl⟩ | ⟨hnone, n, t, x, rfl⟩⟩
  · have HB := hid hb1
    have HN := hid (implNumText_any v w1 (HT.out.below hb1 HG.out))
    by_cases hq : numS v = s
    · have hpos : 1 ≤ s.size := by
        rcases Nat.eq_zero_or_pos s.size with h | h
        · have : s.data.toList = [] := List.eq_nil_of_length_eq_zero (by simpa using h)
          rw [this] at hv
          cases hv
        · exact h
      have HU := hid (tn_of v s hq hpos)
      rw [hq] at HN
      clear hq hv hb1
      go_wp2_with (go_at_call 73; refine HN.out.mono ?_; rintro e w2 ⟨rfl, hb2⟩)
      go_ret2
      exact ⟨by rw [HU.out]; rfl, HB.out.trans (hb2.mono HB.out.size)⟩
    · have HU : Hid (tn s = none) := by
        show tn s = none
        cases hu : tn s with
        | none => rfl
        | some m =>
          exfalso
          have := tn_atoi m s hu
          rw [hv] at this
          cases this
          exact hq (tn_some v s hu).1
      have hne := str_ne hq
      clear hq hv hb1
      go_wp2_with (go_at_call 73; refine HN.out.mono ?_; rintro e w2 ⟨rfl, hb2⟩)
      go_ret2
      exact ⟨by rw [HU.out]; rfl, HB.out.trans (hb2.mono HB.out.size)⟩
  · have HU := hid hnone
    have HB := hid hb1
    clear hnone hb1
    go_wp2
    go_ret2
    exact ⟨by rw [HU.out]; rfl, HB.out⟩
end Go.Proofs.YtgnjknbgahickacGreatDoor
/-
  Names of transactions read from texts, in plain: what is cut at the dots, and that the text of a right name is read again.
-/
namespace Go.Proofs.YtgnjknbgahickacGreatDoor
open Go.RowKit
set_option linter.unusedVariables false
theorem index_dot (ys : List UInt8) : ∀ xs : List UInt8, (∀ c ∈ xs, c ≠ 46) → Lib.index (xs ++ 46 :: ys) [46] = xs.length := by
  intro xs
  induction xs with
  | nil => intro _; simp [Lib.index, List.isPrefixOf]
  | cons x xs ih =>
    intro h
    have hx : x ≠ 46 := h x (by simp)
    have hi := ih (fun c hc => h c (by simp [hc]))
    rw [List.cons_append]
    unfold Lib.index
    rw [if_neg (by simp [List.isPrefixOf, Ne.symm hx]), hi, if_neg (by simp <;> omega)]
    simp
theorem cut_dot (xs ys : List UInt8) (h : ∀ c ∈ xs, c ≠ 46) : Lib.cut (xs ++ 46 :: ys) [46] = (xs, ys, true) := by
  unfold Lib.cut
  rw [index_dot ys xs h]
  simp
/-- What strings.Cut at a dot tells ahead of it, and behind it. -/
def pcA (s : ByteArray) : ByteArray := ⟨(Lib.cut s.data.toList [46]).1.toArray⟩
def pcB (s : ByteArray) : ByteArray := ⟨(Lib.cut s.data.toList [46]).2.1.toArray⟩
def tgN (s : ByteArray) : Int := (tn s).getD 0
/-- The three numbers that are read. -/
def ptx (s : ByteArray) : TX := (tgN (pcA s), tgN (pcA (pcB s)), tgN (pcB (pcB s)))
theorem numS_dig (n : Int) (h0 : 0 ≤ n) (h1 : n ≤ 1099511627775) : tn (numS n) = some n ∧ ∀ c ∈ (numS n).data.toList, c ≠ 46 := by
  have hs : 1 ≤ (numS n).size := by
    rw [numS_ok n h0 h1]
    have := (dec_dig n.toNat n.toNat (Nat.le_refl _)).2.2
    show 1 ≤ (Lib.decDigits n.toNat).toArray.size
    simp
    cases h : Lib.decDigits n.toNat with
    | nil => exact absurd h this
    | cons a l => simp
  have ht := tn_of n (numS n) rfl hs
  refine ⟨ht, fun c hc e => ?_⟩
  have hd := (tn_digits n (numS n) ht).2 c hc
  subst e
  exact absurd hd.1 (by decide)
theorem txT_data (x : TX) (h : txOk x = true) : (txT x).data.toList = (numS x.1).data.toList ++ 46 :: ((numS x.2.1).data.toList ++ 46 :: (numS x.2.2).data.toList) := by
  rw [txT_yes h]
  simp [ByteArray.data_append]
theorem ptx_txT (x : TX) (h : txOk x = true) : ptx (txT x) = x := by
  obtain ⟨k0, k1, k2, k3, k4, k5⟩ := (txOk_iff x).1 h
  have a := numS_dig x.1 k0 (by omega)
  have b := numS_dig x.2.1 (by omega) (by omega)
  have c := numS_dig x.2.2 (by omega) (by omega)
  have e1 : pcA (txT x) = numS x.1 := by unfold pcA; rw [txT_data x h, cut_dot _ _ a.2]
  have e2 : (pcB (txT x)).data.toList = (numS x.2.1).data.toList ++ 46 :: (numS x.2.2).data.toList := by unfold pcB; rw [txT_data x h, cut_dot _ _ a.2]
  have e3 : pcA (pcB (txT x)) = numS x.2.1 := by unfold pcA; rw [e2, cut_dot _ _ b.2]
  have e4 : pcB (pcB (txT x)) = numS x.2.2 := by unfold pcB at e2 ⊢; rw [e2, cut_dot _ _ b.2]
  unfold ptx tgN
  rw [e1, e3, e4, a.1, b.1, c.1]
  rfl
theorem txT_inj {x y : TX} (hx : txOk x = true) (hy : txOk y = true) (h : txT x = txT y) : x = y := by
  rw [← ptx_txT x hx, h, ptx_txT y hy]
/-- TextTx of the program in plain: a right name whose text is s, or none. -/
def ttV (s : ByteArray) : Option TX := if txOk (ptx s) = true ∧ txT (ptx s) = s then some (ptx s) else none
theorem ttV_some {s : ByteArray} {x : TX} : ttV s = some x ↔ txOk x = true ∧ txT x = s := by
  unfold ttV
  constructor
  · intro h
    split at h
    · rename_i q
      cases h
      exact q
    · cases h
  · rintro ⟨h1, rfl⟩
    rw [ptx_txT x h1, if_pos ⟨h1, rfl⟩]
end Go.Proofs.YtgnjknbgahickacGreatDoor
/-
  TextTx of the program.
-/
namespace Go.Proofs.YtgnjknbgahickacGreatDoor
open Go.RowKit
set_option linter.unusedVariables false
theorem cut_le (s sep : List UInt8) : (Lib.cut s sep).1.length ≤ s.length ∧ (Lib.cut s sep).2.1.length ≤ s.length := by
  unfold Lib.cut
  split
  · simp; omega
  · simp
theorem pc_size (s : ByteArray) : (pcA s).size ≤ s.size ∧ (pcB s).size ≤ s.size := by
  have := cut_le s.data.toList [46]
  have e : s.data.toList.length = s.size := by show s.data.toList.length = s.data.size; exact Array.length_toList
  rw [e] at this
  refine ⟨?_, ?_⟩
  · show (Lib.cut s.data.toList [46]).1.toArray.size ≤ _
    simpa using this.1
  · show (Lib.cut s.data.toList [46]).2.1.toArray.size ≤ _
    simpa using this.2
/-- What the library's functions want of the world. -/
structure GD (w : World) : Prop where
  tab : Tab w
  e1 : Err w 1
  e2 : Err w 2
  ml : ∃ m, w.cell? ⟨0, 0, none⟩ = some (.int .i64 m)
  g : 3 < w.heap.size
theorem GD.below {w w' : World} (h : GD w) (hb : Below w.heap.size w w') : GD w' := by
  obtain ⟨m, hm⟩ := h.ml
  exact ⟨h.tab.below hb h.g, h.e1.below hb h.e1.lt, h.e2.below hb h.e2.lt, ⟨m, (hb.cell (p := ⟨0, 0, none⟩) (block_lt hm)).trans hm⟩, Nat.lt_of_lt_of_le h.g hb.size⟩
theorem cutDot_any (s : ByteArray) (w : World) (hs : s.size ≤ 1048576) (h : GD w) : Calls Tryz.prog 74 #[.string s, .string ⟨#[46]⟩] w fun e w' => (∃ z, e = .returned (.tuple #[.string (pcA s), .string (pcB s), .bool z])) ∧ Below w.heap.size w w' := by
  obtain ⟨m, hm⟩ := h.ml
  refine (Any.strings_Cut Tryz.lays145 s ⟨#[46]⟩ m w (by omega) hm).mono ?_
  rintro e w' ⟨he, n, rfl⟩
  exact ⟨⟨_, he⟩, Below.drewN' (Below.refl _ _) n⟩
theorem results_txb {fn : Func} {p q : Tmp} (h : fn.results = #[.cell p 41, .tmp q]) (tmps : Array Value) (w : World) (g : Nat) {c e n : Int} {z : Value} (hp : tmps.getD p undef = .pointer (some ⟨g, 0, none⟩)) (hq : tmps.getD q undef = z)
    (c0 : w.cell? ⟨g, 0, none⟩ = some (.int .i64 c)) (c1 : w.cell? ⟨g, 1, none⟩ = some (.int .i64 e)) (c2 : w.cell? ⟨g, 2, none⟩ = some (.int .i64 n)) : (results fn tmps).run Tryz.prog w = .ok (.tuple #[.agg #[.int .i64 c, .int .i64 e, .int .i64 n], z]) w := by
  have hp' : tmps[p]?.getD undef = .pointer (some ⟨g, 0, none⟩) := by simpa using hp
  have hq' : tmps[q]?.getD undef = z := by simpa using hq
  simp [results, h, hp', hq', asAddr, load_tx0 c0 c1 c2, Result.andThen]
/-- What TextTx answers. -/
def ttA (s : ByteArray) : TX := (ttV s).getD (0, 0, 0)
theorem ttA_no {s : ByteArray} (h : ¬ (txOk (ptx s) = true ∧ txT (ptx s) = s)) : ttA s = (0, 0, 0) ∧ (ttV s).isSome = false := by
  unfold ttA ttV
  rw [if_neg h]
  exact ⟨rfl, rfl⟩
theorem ttA_yes {s : ByteArray} (h : txOk (ptx s) = true ∧ txT (ptx s) = s) : ttA s = ptx s ∧ (ttV s).isSome = true := by
  unfold ttA ttV
  rw [if_pos h]
  exact ⟨rfl, rfl⟩
set_option maxHeartbeats 8000000 in
set_option maxRecDepth 20000 in
theorem implTextTx_any (s : ByteArray) (w : World) (hs : s.size ≤ 1048576) (h : GD w) :
    Calls Tryz.prog 45 #[.string s] w fun r w' => r = .returned (.tuple #[.agg #[.int .i64 (ttA s).1, .int .i64 (ttA s).2.1, .int .i64 (ttA s).2.2], .bool (ttV s).isSome]) ∧ Below w.heap.size w w' := by
  have G0 := hid h
  have hb0 := below_new (o := .cells #[.int .i64 0, .int .i64 0, .int .i64 0] 41) (w := w) (Below.refl _ _)
  have G1 := hid (h.below hb0)
  have B1 := hid hb0
  have R1 := hid (Bk.new w 41 [.int .i64 0, .int .i64 0, .int .i64 0])
  have p1 := pc_size s
  have p2 := pc_size (pcB s)
  have hnot : ∀ (x : Bool) (w : World), (Op.unary .not (.bool x)).run Tryz.prog w = .ok (.bool (!x)) w := fun _ _ => rfl
  have HV1 := hid (fun h => ttA_no (s := s) h)
  have HV2 := hid (fun h => ttA_yes (s := s) h)
  have HP : Hid (ptx s = (tgN (pcA s), tgN (pcA (pcB s)), tgN (pcB (pcB s)))) := rfl
  have C1 := hid (fun v hv => cutDot_any s v hs hv)
  have C2 := hid (fun v hv => cutDot_any (pcB s) v (by omega) hv)
  have C3 : Hid (∀ v, GD v → Calls Tryz.prog 75 #[.string (pcA s)] v fun e w' => e = .returned (.tuple #[.int .i64 (tgN (pcA s)), .bool (tn (pcA s)).isSome]) ∧ Below v.heap.size v w') := fun v hv => implTextNum_any _ v (by omega) hv.tab hv.e1 hv.e2 hv.g
  have C4 : Hid (∀ v, GD v → Calls Tryz.prog 75 #[.string (pcA (pcB s))] v fun e w' => e = .returned (.tuple #[.int .i64 (tgN (pcA (pcB s))), .bool (tn (pcA (pcB s))).isSome]) ∧ Below v.heap.size v w') := fun v hv => implTextNum_any _ v (by omega) hv.tab hv.e1 hv.e2 hv.g
  have C5 : Hid (∀ v, GD v → Calls Tryz.prog 75 #[.string (pcB (pcB s))] v fun e w' => e = .returned (.tuple #[.int .i64 (tgN (pcB (pcB s))), .bool (tn (pcB (pcB s))).isSome]) ∧ Below v.heap.size v w') := fun v hv => implTextNum_any _ v (by omega) hv.tab hv.e1 hv.e2 hv.g
  generalize (tn (pcA s)).isSome = b1 at *
  generalize (tn (pcA (pcB s))).isSome = b2 at *
  generalize (tn (pcB (pcB s))).isSome = b3 at *
  generalize tgN (pcA s) = c at *
  generalize tgN (pcA (pcB s)) = e at *
  generalize tgN (pcB (pcB s)) = n at *
  rw [HP.out] at HV1 HV2
  generalize pcA (pcB s) = s2 at *
  generalize pcB (pcB s) = s3 at *
  generalize pcA s = s1 at *
  generalize pcB s = s4 at *
  clear h hb0 p1 p2 HP
  go_enter Tryz.func45, Tryz.ntmps45
  go_wp2_with fail
  refine (C1.out _ G1.out).mono ?_
  generalize w.alloc (.cells #[.int .i64 0, .int .i64 0, .int .i64 0] 41) = U at *
  rintro r w1 ⟨⟨q1, rfl⟩, hb⟩
  have G2 := hid (G1.out.below hb)
  have R2 := hid (R1.out.below hb)
  have B2 := hid (B1.out.trans (hb.mono B1.out.size))
  clear hb G1 R1 B1
  go_wp2_with fail
  refine (C2.out _ G2.out).mono ?_
  rintro r w2 ⟨⟨q2, rfl⟩, hb0⟩
  have hb := hb0.trans ((below_new (o := .cells #[.int .i64 0, .int .i64 0, .int .i64 0] 41) (w := w2) (Below.refl _ _)).mono hb0.size)
  have G3 := hid (G2.out.below hb)
  have R3 := hid (R2.out.below hb)
  have B3 := hid (B2.out.trans (hb.mono B2.out.size))
  have X3 := hid (Bk.new w2 41 [.int .i64 0, .int .i64 0, .int .i64 0])
  have SX : Hid (w.heap.size < w2.heap.size) := by have h1 := (R2.out.below hb0).lt; exact h1
  clear hb hb0 G2 R2 B2
  go_wp2_with fail
  refine (C3.out _ G3.out).mono ?_
  generalize w2.alloc (.cells #[.int .i64 0, .int .i64 0, .int .i64 0] 41) = V3 at *
  generalize w2.heap.size = gx at *
  rintro r w4 ⟨rfl, hb⟩
  have G4 := hid (G3.out.below hb)
  have R4 := hid (R3.out.below hb)
  have X4 := hid (X3.out.below hb)
  have B4 := hid (B3.out.trans (hb.mono B3.out.size))
  clear hb G3 R3 X3 B3
  have o4 : Only (fun y => y = gx) w4 (w4.setCell ⟨gx, 0, none⟩ (.int .i64 c)) := only_set (R := fun y => y = gx) (p := ⟨gx, 0, none⟩) rfl _
  have x0 := X4.out.cell (j := 0) rfl
  have f0 := X4.out.free 0
  have X5 : Hid (Bk (w4.setCell ⟨gx, 0, none⟩ (.int .i64 c)) gx 41 [.int .i64 c, .int .i64 0, .int .i64 0]) := X4.out.set 0 _
  have R5 : Hid (Bk (w4.setCell ⟨gx, 0, none⟩ (.int .i64 c)) w.heap.size 41 [.int .i64 0, .int .i64 0, .int .i64 0]) := R4.out.to o4 (by have := SX.out; omega)
  have B5 : Hid (Below w.heap.size w (w4.setCell ⟨gx, 0, none⟩ (.int .i64 c))) := B4.out.trans (o4.below B4.out.size (fun b hb q => by have := SX.out; omega))
  have G5 : Hid (GD (w4.setCell ⟨gx, 0, none⟩ (.int .i64 c))) := G0.out.below B5.out
  clear o4 G4 R4 X4 B4
  go_wp2_with fail
  refine (C4.out _ G5.out).mono ?_
  generalize w4.setCell ⟨gx, 0, none⟩ (.int .i64 c) = V5 at *
  rintro r w6 ⟨rfl, hb⟩
  clear x0 f0
  have G6 := hid (G5.out.below hb)
  have R6 := hid (R5.out.below hb)
  have X6 := hid (X5.out.below hb)
  have B6 := hid (B5.out.trans (hb.mono B5.out.size))
  clear hb G5 R5 X5 B5
  have o6 : Only (fun y => y = gx) w6 (w6.setCell ⟨gx, 1, none⟩ (.int .i64 e)) := only_set (R := fun y => y = gx) (p := ⟨gx, 1, none⟩) rfl _
  have x1 := X6.out.cell (j := 1) rfl
  have f1 := X6.out.free 1
  have X7 : Hid (Bk (w6.setCell ⟨gx, 1, none⟩ (.int .i64 e)) gx 41 [.int .i64 c, .int .i64 e, .int .i64 0]) := X6.out.set 1 _
  have R7 : Hid (Bk (w6.setCell ⟨gx, 1, none⟩ (.int .i64 e)) w.heap.size 41 [.int .i64 0, .int .i64 0, .int .i64 0]) := R6.out.to o6 (by have := SX.out; omega)
  have B7 : Hid (Below w.heap.size w (w6.setCell ⟨gx, 1, none⟩ (.int .i64 e))) := B6.out.trans (o6.below B6.out.size (fun b hb q => by have := SX.out; omega))
  have G7 : Hid (GD (w6.setCell ⟨gx, 1, none⟩ (.int .i64 e))) := G0.out.below B7.out
  clear o6 G6 R6 X6 B6
  go_wp2_with fail
  refine (C5.out _ G7.out).mono ?_
  generalize w6.setCell ⟨gx, 1, none⟩ (.int .i64 e) = V7 at *
  rintro r w8 ⟨rfl, hb⟩
  clear x1 f1
  have G8 := hid (G7.out.below hb)
  have R8 := hid (R7.out.below hb)
  have X8 := hid (X7.out.below hb)
  have B8 := hid (B7.out.trans (hb.mono B7.out.size))
  clear hb G7 R7 X7 B7
  have o8 : Only (fun y => y = gx) w8 (w8.setCell ⟨gx, 2, none⟩ (.int .i64 n)) := only_set (R := fun y => y = gx) (p := ⟨gx, 2, none⟩) rfl _
  have x2 := X8.out.cell (j := 2) rfl
  have f2 := X8.out.free 2
  have X9 : Hid (Bk (w8.setCell ⟨gx, 2, none⟩ (.int .i64 n)) gx 41 [.int .i64 c, .int .i64 e, .int .i64 n]) := X8.out.set 2 _
  have R9 : Hid (Bk (w8.setCell ⟨gx, 2, none⟩ (.int .i64 n)) w.heap.size 41 [.int .i64 0, .int .i64 0, .int .i64 0]) := R8.out.to o8 (by have := SX.out; omega)
  have B9 : Hid (Below w.heap.size w (w8.setCell ⟨gx, 2, none⟩ (.int .i64 n))) := B8.out.trans (o8.below B8.out.size (fun b hb q => by have := SX.out; omega))
  have G9 : Hid (GD (w8.setCell ⟨gx, 2, none⟩ (.int .i64 n))) := G0.out.below B9.out
  clear o8 G8 R8 X8 B8
  have y0 := X9.out.cell (j := 0) rfl
  have y1 := X9.out.cell (j := 1) rfl
  have y2 := X9.out.cell (j := 2) rfl
  have CO := hid (fun w => implTxOk_any c e n w)
  have CT := hid (fun w ht hg => implTxText_any c e n w ht hg)
  have HW : Hid ((w8.setCell ⟨gx, 2, none⟩ (.int .i64 n)).heap.size = w8.heap.size) := by show _ = _; simp [World.setCell]
  cases hz : txOk (c, e, n) with
  | false =>
    have HA := hid (HV1.out (fun q => by rw [hz] at q; exact absurd q.1 (by decide)))
    rw [hz] at CO
    clear hz
    go_wp2_with fail
    refine (CO.out _).mono ?_
    generalize w8.setCell ⟨gx, 2, none⟩ (.int .i64 n) = V9 at *
    rintro r w10 ⟨rfl, hb⟩
    have R10 := hid (R9.out.below hb)
    have B10 := hid (B9.out.trans (hb.mono B9.out.size))
    clear hb y0 y1 y2 x2 f2
    have z0 := R10.out.cell (j := 0) rfl
    have z1 := R10.out.cell (j := 1) rfl
    have z2 := R10.out.cell (j := 2) rfl
    have e0 := R10.out.free 0
    have e1 := R10.out.free 1
    have e2 := R10.out.free 2
    go_wp2
    try simp only [Exit.inBlock, Exit.then]
    refine bodyPost_ret (v := .tuple #[.agg #[.int .i64 0, .int .i64 0, .int .i64 0], .bool false]) ?_ rfl ?_
    · exact results_txb rfl _ _ w.heap.size rfl rfl (by go_simp) (by go_simp) (by go_simp)
    · rw [HA.out.1, HA.out.2]
      exact ⟨rfl, ((B10.out.setCell (p := ⟨w.heap.size, 0, none⟩) (Nat.le_refl _) _).setCell (p := ⟨w.heap.size, 1, none⟩) (Nat.le_refl _) _).setCell (p := ⟨w.heap.size, 2, none⟩) (Nat.le_refl _) _⟩
  | true =>
    rw [hz] at CO
    go_wp2_with fail
    refine (CO.out _).mono ?_
    generalize w8.setCell ⟨gx, 2, none⟩ (.int .i64 n) = V9 at *
    rintro r w10 ⟨rfl, hb⟩
    have R10 := hid (R9.out.below hb)
    have X10 := hid (X9.out.below hb)
    have G10 := hid (G9.out.below hb)
    have B10 := hid (B9.out.trans (hb.mono B9.out.size))
    clear hb y0 y1 y2 x2 f2 R9 X9 G9 B9
    have y0 := X10.out.cell (j := 0) rfl
    have y1 := X10.out.cell (j := 1) rfl
    have y2 := X10.out.cell (j := 2) rfl
    go_wp2_with fail
    refine (CT.out _ G10.out.tab G10.out.g).mono ?_
    rintro r w11 ⟨rfl, hb⟩
    have R11 := hid (R10.out.below hb)
    have X11 := hid (X10.out.below hb)
    have B11 := hid (B10.out.trans (hb.mono B10.out.size))
    clear hb y0 y1 y2 R10 X10 G10 B10
    by_cases ht : txT (c, e, n) = s
    · have HA := hid (HV2.out ⟨hz, ht⟩)
      rw [ht]
      have hss : (s.toList != s.toList) = false := by simp
      clear hz ht HV1 HV2 CO CT
      have y0 := X11.out.cell (j := 0) rfl
      have y1 := X11.out.cell (j := 1) rfl
      have y2 := X11.out.cell (j := 2) rfl
      have z0 := R11.out.cell (j := 0) rfl
      have z1 := R11.out.cell (j := 1) rfl
      have z2 := R11.out.cell (j := 2) rfl
      have e0 := R11.out.free 0
      have e1 := R11.out.free 1
      have e2 := R11.out.free 2
      have d1 : ¬ gx = w.heap.size := by have := SX.out; omega
      have d2 : ¬ w.heap.size = gx := by have := SX.out; omega
      go_wp2
      try simp only [Exit.inBlock, Exit.then]
      refine bodyPost_ret (v := .tuple #[.agg #[.int .i64 c, .int .i64 e, .int .i64 n], .bool true]) ?_ rfl ?_
      · exact results_txb rfl _ _ w.heap.size rfl rfl (by go_simp) (by go_simp) (by go_simp)
      · rw [HA.out.1, HA.out.2]
        exact ⟨rfl, ((B11.out.setCell (p := ⟨w.heap.size, 0, none⟩) (Nat.le_refl _) _).setCell (p := ⟨w.heap.size, 1, none⟩) (Nat.le_refl _) _).setCell (p := ⟨w.heap.size, 2, none⟩) (Nat.le_refl _) _⟩
    · have HA := hid (HV1.out (fun q => ht q.2))
      have hss := str_ne ht
      have hs2 : (((txT (c, e, n)).toList != s.toList)) = true := by rw [bne, hss]; rfl
      clear hz HV1 HV2 CO CT
      generalize txT (c, e, n) = tt at *
      have z0 := R11.out.cell (j := 0) rfl
      have z1 := R11.out.cell (j := 1) rfl
      have z2 := R11.out.cell (j := 2) rfl
      have e0 := R11.out.free 0
      have e1 := R11.out.free 1
      have e2 := R11.out.free 2
      go_wp2
      try simp only [Exit.inBlock, Exit.then]
      refine bodyPost_ret (v := .tuple #[.agg #[.int .i64 0, .int .i64 0, .int .i64 0], .bool false]) ?_ rfl ?_
      · exact results_txb rfl _ _ w.heap.size rfl rfl (by go_simp) (by go_simp) (by go_simp)
      · rw [HA.out.1, HA.out.2]
        exact ⟨rfl, ((B11.out.setCell (p := ⟨w.heap.size, 0, none⟩) (Nat.le_refl _) _).setCell (p := ⟨w.heap.size, 1, none⟩) (Nat.le_refl _) _).setCell (p := ⟨w.heap.size, 2, none⟩) (Nat.le_refl _) _⟩
end Go.Proofs.YtgnjknbgahickacGreatDoor
/-
  Rows that are appended to, of any element; of strings and of numbers.
-/
namespace Go.Proofs.YtgnjknbgahickacGreatDoor
open Go.RowKit
/-- append(dst, src...), and where the new row lies. -/
theorem wpList_append_st1 {w : World} {ops : Array Oper} {rest : List Oper} {o : Oper} {a : Act} {Q : Exit → Act → World → Prop} (hgd : o.guard = none) (s x : Operand)
    (ho : o.op = .call { callee := .builtin .append, args := #[s, x], argTypes := #[86, 86] }) (v : Value) (n : Nat) (xs : List Value) (hs : a.eval s = v) (hown : w.ownsRow 0 9 1 v n xs)
    (g : Nat) (z : ByteArray) (hx : a.eval x = .slice (some ⟨g, 0, none⟩) 1 1) (hB : Bk w g 9 [.string z]) (hb : n ≤ 1048576)
    (h : ∀ a' n' c' w', w'.ownsRow 0 9 1 (.slice a' n' c') (n + 1) (xs ++ [.string z]) → w.grownBy w' v.ownBlock → ((Value.slice a' n' c').ownBlock = v.ownBlock ∨ (Value.slice a' n' c').ownBlock = some w.heap.size) → wpList Tryz.prog ops Q rest (a.put o.dst (.slice a' n' c')) w') : wpList Tryz.prog ops Q (o :: rest) a w := by
  obtain ⟨i, hi, hz, hsz, hby⟩ := info_of infoStr'
  refine wpList_append_row_at hgd s x 86 ho 0 9 i _ 1 16 Tryz.underlying86 hi hz hsz hby rfl (by decide) v n xs hs hown (fun _ => True) _ 1 [.string z] hx (hB.rw (Nat.le_refl _) (by omega) (fun h => by omega) _ trivial) rfl
    (by intro u hu; simp at hu; subst hu; rfl) (by unfold maxLen; omega) (by omega) (Nat.zero_le _) ?_
  intro v' w' k1 k2 k3
  obtain ⟨a', c', rfl⟩ := own_shape k1
  exact h a' _ c' w' k1 k2 k3
theorem wpList_append_in1 {w : World} {ops : Array Oper} {rest : List Oper} {o : Oper} {a : Act} {Q : Exit → Act → World → Prop} (hgd : o.guard = none) (s x : Operand)
    (ho : o.op = .call { callee := .builtin .append, args := #[s, x], argTypes := #[87, 87] }) (v : Value) (n : Nat) (xs : List Value) (hs : a.eval s = v) (hown : w.ownsRow 0 3 1 v n xs)
    (g : Nat) (z : Int) (hx : a.eval x = .slice (some ⟨g, 0, none⟩) 1 1) (hB : Bk w g 3 [.int .i64 z]) (hb : n ≤ 1048576)
    (h : ∀ a' n' c' w', w'.ownsRow 0 3 1 (.slice a' n' c') (n + 1) (xs ++ [.int .i64 z]) → w.grownBy w' v.ownBlock → ((Value.slice a' n' c').ownBlock = v.ownBlock ∨ (Value.slice a' n' c').ownBlock = some w.heap.size) → wpList Tryz.prog ops Q rest (a.put o.dst (.slice a' n' c')) w') : wpList Tryz.prog ops Q (o :: rest) a w := by
  obtain ⟨i, hi, hz, hsz, hby⟩ := info_of infoInt'
  refine wpList_append_row_at hgd s x 87 ho 0 3 i _ 1 8 Tryz.underlying87 hi hz hsz hby rfl (by decide) v n xs hs hown (fun _ => True) _ 1 [.int .i64 z] hx (hB.rw (Nat.le_refl _) (by omega) (fun h => by omega) _ trivial) rfl
    (by intro u hu; simp at hu; subst hu; rfl) (by unfold maxLen; omega) (by omega) (Nat.zero_le _) ?_
  intro v' w' k1 k2 k3
  obtain ⟨a', c', rfl⟩ := own_shape k1
  exact h a' _ c' w' k1 k2 k3
end Go.Proofs.YtgnjknbgahickacGreatDoor
/-
  A text cut at each dot: l07Parts of the specification, and what the parts of a name's text are.
-/
namespace Go.Proofs.YtgnjknbgahickacGreatDoor
open Go.RowKit
set_option linter.unusedVariables false
/-- What is cut at each dot, acc being what stands ahead. -/
def spl : List UInt8 → List UInt8 → List (List UInt8)
  | acc, [] => [acc]
  | acc, c :: l => if c = 46 then acc :: spl [] l else spl (acc ++ [c]) l
theorem spl_dot (rest : List UInt8) : ∀ (xs acc : List UInt8), (∀ c ∈ xs, c ≠ 46) → spl acc (xs ++ 46 :: rest) = (acc ++ xs) :: spl [] rest := by
  intro xs
  induction xs with
  | nil => intro acc _; simp [spl]
  | cons x xs ih =>
    intro acc h
    have hx : x ≠ 46 := h x (by simp)
    rw [List.cons_append, show spl acc (x :: (xs ++ 46 :: rest)) = spl (acc ++ [x]) (xs ++ 46 :: rest) from if_neg hx, ih _ (fun c hc => h c (by simp [hc]))]
    simp
theorem spl_end : ∀ (xs acc : List UInt8), (∀ c ∈ xs, c ≠ 46) → spl acc xs = [acc ++ xs] := by
  intro xs
  induction xs with
  | nil => intro acc _; simp [spl]
  | cons x xs ih =>
    intro acc h
    have hx : x ≠ 46 := h x (by simp)
    rw [show spl acc (x :: xs) = spl (acc ++ [x]) xs from if_neg hx, ih _ (fun c hc => h c (by simp [hc]))]
    simp
/-- The parts of a text. -/
def prt (s : ByteArray) : List ByteArray := (spl [] s.data.toList).map fun l => ⟨l.toArray⟩
theorem prt_txT (x : TX) (h : txOk x = true) : prt (txT x) = [numS x.1, numS x.2.1, numS x.2.2] := by
  obtain ⟨k0, k1, k2, k3, k4, k5⟩ := (txOk_iff x).1 h
  have a := (numS_dig x.1 k0 (by omega)).2
  have b := (numS_dig x.2.1 (by omega) (by omega)).2
  have c := (numS_dig x.2.2 (by omega) (by omega)).2
  unfold prt
  rw [txT_data x h, spl_dot _ _ _ a, spl_dot _ _ _ b, spl_end _ _ c]
  rfl
def gAt (ps : List ByteArray) (i : Nat) : Int := if i < ps.length then tgN (ps[i]?.getD ⟨#[]⟩) else 0
/-- The three numbers that the specification reads. -/
def qtx (s : ByteArray) : TX := (gAt (prt s) 0, gAt (prt s) 1, gAt (prt s) 2)
theorem qtx_txT (x : TX) (h : txOk x = true) : qtx (txT x) = x := by
  obtain ⟨k0, k1, k2, k3, k4, k5⟩ := (txOk_iff x).1 h
  unfold qtx gAt
  rw [prt_txT x h]
  simp [tgN, (numS_dig x.1 k0 (by omega)).1, (numS_dig x.2.1 (by omega) (by omega)).1, (numS_dig x.2.2 (by omega) (by omega)).1]
theorem numS_len (n : Int) (f : Nat) (h : n.toNat < 10 ^ (f + 1)) (h0 : 0 ≤ n) (h1 : n ≤ 1099511627775) : (numS n).size ≤ f + 1 := by
  rw [numS_ok n h0 h1]
  have := dec_len f n.toNat h
  show (Lib.decDigits n.toNat).toArray.size ≤ f + 1
  simpa using this
theorem txT_size (x : TX) (h : txOk x = true) : (txT x).size ≤ 9 ∧ 0 < (txT x).size := by
  obtain ⟨k0, k1, k2, k3, k4, k5⟩ := (txOk_iff x).1 h
  have a := numS_len x.1 0 (by omega) k0 (by omega)
  have b := numS_len x.2.1 2 (by omega) (by omega) (by omega)
  have c := numS_len x.2.2 2 (by omega) (by omega) (by omega)
  have hd := dot_size
  rw [txT_yes h]
  simp only [ByteArray.size_append]
  omega
/-- What the specification finds is what the program finds. -/
theorem spec_tt (s : ByteArray) : ((s.size ≤ 9 ∧ 0 < s.size ∧ txT (qtx s) = s) → ttV s = some (qtx s)) ∧ (¬ (s.size ≤ 9 ∧ 0 < s.size ∧ txT (qtx s) = s) → ttV s = none) := by
  constructor
  · rintro ⟨h1, h2, h3⟩
    refine ttV_some.2 ⟨?_, h3⟩
    cases e : txOk (qtx s) with
    | true => rfl
    | false =>
      rw [txT_no e] at h3
      rw [← h3] at h2
      exact absurd h2 (by decide)
  · intro h
    cases e : ttV s with
    | none => rfl
    | some x =>
      obtain ⟨h1, rfl⟩ := ttV_some.1 e
      exact absurd ⟨(txT_size x h1).1, (txT_size x h1).2, by rw [qtx_txT x h1]⟩ h
theorem spl_step (l acc : List UInt8) (i : Nat) (h : i < l.length) : spl acc (l.drop i) = if l[i] = 46 then acc :: spl [] (l.drop (i + 1)) else spl (acc ++ [l[i]]) (l.drop (i + 1)) := by
  rw [List.drop_eq_getElem_cons h]
  rfl
end Go.Proofs.YtgnjknbgahickacGreatDoor
/-
  l07Parts of the specification.
-/
namespace Go.Proofs.YtgnjknbgahickacGreatDoor
open Go.RowKit
set_option linter.unusedVariables false
theorem wpList_append_sB {w : World} {ops : Array Oper} {rest : List Oper} {o : Oper} {a : Act} {Q : Exit → Act → World → Prop} (hgd : o.guard = none) (s x : Operand)
    (ho : o.op = .call { callee := .builtin .append, args := #[s, x], argTypes := #[86, 86] }) (B : Nat) (v : Value) (n : Nat) (xs : List Value) (hs : a.eval s = v) (hown : w.ownsRow B 9 1 v n xs)
    (g : Nat) (z : ByteArray) (hx : a.eval x = .slice (some ⟨g, 0, none⟩) 1 1) (hB : Bk w g 9 [.string z]) (hb : n ≤ 1048576) (hbase : B ≤ w.heap.size)
    (h : ∀ a' n' c' w', w'.ownsRow B 9 1 (.slice a' n' c') (n + 1) (xs ++ [.string z]) → w.grownBy w' v.ownBlock → wpList Tryz.prog ops Q rest (a.put o.dst (.slice a' n' c')) w') : wpList Tryz.prog ops Q (o :: rest) a w := by
  obtain ⟨i, hi, hz, hsz, hby⟩ := info_of infoStr'
  refine wpList_append_row_at hgd s x 86 ho B 9 i _ 1 16 Tryz.underlying86 hi hz hsz hby rfl (by decide) v n xs hs hown (fun _ => True) _ 1 [.string z] hx (hB.rw (Nat.le_refl _) (by omega) (fun h => by omega) _ trivial) rfl
    (by intro u hu; simp at hu; subst hu; rfl) (by unfold maxLen; omega) (by omega) hbase ?_
  intro v' w' k1 k2 k3
  obtain ⟨a', c', rfl⟩ := own_shape k1
  exact h a' _ c' w' k1 k2
theorem ext_data (s : ByteArray) (f i : Nat) : (⟨((s.data.toList.drop f).take (i - f)).toArray⟩ : ByteArray) = s.extract f i := by
  rw [Lib.extract_eq]
/-- What l07Parts leaves: a row of its own with the parts. -/
def PrPost (s : ByteArray) (w : World) (e : Ending) (w' : World) : Prop := ∃ a n c, e = .returned (.slice a n c) ∧ w'.ownsRow w.heap.size 9 1 (.slice a n c) (prt s).length ((prt s).map Value.string) ∧ Below w.heap.size w w'
set_option maxHeartbeats 4000000 in
theorem l07Parts_any (s : ByteArray) (w : World) (hs : s.size ≤ 1048576) : Calls Tryz.prog 50 #[.string s, .int .u8 46] w fun e w' => PrPost s w e w' := by
  unfold PrPost
  have SD : Hid (s.data.toList.length = s.size) := by show s.data.toList.length = s.data.size; exact Array.length_toList
  have O0 : Hid ((w.alloc (.cells #[] 9)).ownsRow w.heap.size 9 1 (.slice (some ⟨w.heap.size, 0, none⟩) 0 0) 0 []) := ⟨rfl, .inr ⟨w.heap.size, 0, #[], rfl, Nat.le_refl _, heap_alloc_new w _, Nat.le_refl _, by decide, rfl, rfl⟩⟩
  have B0 : Hid (Below w.heap.size w (w.alloc (.cells #[] 9))) := below_new (Below.refl _ _)
  go_enter Tryz.func50, Tryz.ntmps50
  go_wp2_with fail
  go_loopw [5, 6, 7] (fun x y i wr => ∃ (k f : Nat) (os : List (List UInt8)) (a : Option Addr) (n c : Nat), x = .slice a n c ∧ y = .int .i64 f ∧ i = .int .i64 k ∧ f ≤ k ∧ k ≤ s.size ∧ Hid (os.length ≤ k) ∧ Hid (Below w.heap.size w wr) ∧ Hid (wr.ownsRow w.heap.size 9 1 (.slice a n c) os.length (os.map fun l => Value.string ⟨l.toArray⟩)) ∧ Hid (spl [] s.data.toList = os ++ spl ((s.data.toList.drop f).take (k - f)) (s.data.toList.drop k))) (fun _ _ i _ => s.size - (intOf i).toNat)
  case atStart => exact ⟨0, 0, [], some ⟨w.heap.size, 0, none⟩, 0, 0, rfl, rfl, rfl, Nat.le_refl _, Nat.zero_le _, Nat.le_refl _, B0.out, O0.out, by show _ = _; simp⟩
  case round =>
    clear O0 B0
    obtain ⟨k, f, os, a, n, c, rfl, rfl, rfl, hfk, hk, HL, HB, HO, HS⟩ := hrel
    by_cases hlt : k < s.size
    · have hlt' : (k : Int) < (s.size : Int) := by omega
      have hkl : k < s.data.toList.length := by rw [SD.out]; exact hlt
      have HST := hid (spl_step s.data.toList ((s.data.toList.drop f).take (k - f)) k hkl)
      have HE : Hid (s.data.toList[k] = s[k]) := rfl
      by_cases hd : s[k] = 46
      · have d1 : ((s[k].toNat : Int) == 46) = true := by rw [hd]; rfl
        have d2 : (s[k].toNat : Int) = 46 := by rw [hd]; rfl
        have HS2 : Hid (spl [] s.data.toList = (os ++ [(s.data.toList.drop f).take (k - f)]) ++ spl ((s.data.toList.drop (k + 1)).take (k + 1 - (k + 1))) (s.data.toList.drop (k + 1))) := by
          show _ = _
          rw [HS.out, HST.out, if_pos (by rw [HE.out]; exact hd)]
          simp
        have hb := below_new (o := .cells #[.string (s.extract f k)] 9) (w := wr) (Below.refl _ _)
        have B2 := hid (HB.out.trans (hb.mono HB.out.size))
        have O2 := hid (own_kept HO.out (only_of_below hb (fun _ => False)) (fun _ _ h => h))
        have NB := hid (Bk.new wr 9 [.string (s.extract f k)])
        have hol : os.length ≤ 1048576 := by have := HL.out; omega
        have hfk' : (f : Int) ≤ (k : Int) := by omega
        have hks : (k : Int) ≤ (s.size : Int) := by omega
        clear hb HST HE HO HB HS hd
        go_wp2_with (at_builtin; refine wpList_append_sB rfl _ _ rfl w.heap.size _ _ _ rfl O2.out wr.heap.size (s.extract f k) rfl NB.out hol B2.out.size ?_)
        intro a' n' c' w4 hO4 hg4
        have B4 : Hid (Below w.heap.size w w4) := B2.out.trans ((only_of_grown hg4 (R := fun y => (Value.slice a n c).ownBlock = some y) (fun k q => q)).below B2.out.size (fun b hb q => by have := (World.ownsRow.lt O2.out b q).1; omega))
        have O4 : Hid (w4.ownsRow w.heap.size 9 1 (.slice a' n' c') (os ++ [(s.data.toList.drop f).take (k - f)]).length ((os ++ [(s.data.toList.drop f).take (k - f)]).map fun l => Value.string ⟨l.toArray⟩)) := by
          show World.ownsRow _ _ _ _ _ _ _
          rw [List.map_append, List.length_append, List.map_cons, List.map_nil, ext_data]
          exact hO4
        have L4 : Hid ((os ++ [(s.data.toList.drop f).take (k - f)]).length ≤ k + 1) := by have := HL.out; show _ ≤ _; simp; omega
        clear hO4 hg4 O2 B2 NB
        go_wp2
        go_roundw
        case rel => exact ⟨k + 1, k + 1, _, a', n', c', rfl, by go_num, by go_num, Nat.le_refl _, by omega, L4.out, B4.out, O4.out, HS2.out⟩
        case measure => simp [intOf]; omega
      · have d0 : s[k].toNat ≠ 46 := fun q => hd (by apply UInt8.toNat_inj.1; rw [q]; rfl)
        have d1 : ((s[k].toNat : Int) == 46) = false := by simp; omega
        have d2 : ¬ (s[k].toNat : Int) = 46 := by omega
        have HS2 : Hid (spl [] s.data.toList = os ++ spl ((s.data.toList.drop f).take (k + 1 - f)) (s.data.toList.drop (k + 1))) := by
          show _ = _
          rw [HS.out, HST.out, if_neg (by rw [HE.out]; exact hd)]
          congr 2
          rw [show k + 1 - f = (k - f) + 1 by omega, List.take_succ_eq_append_getElem (by rw [List.length_drop]; omega)]
          simp [show f + (k - f) = k by omega]
        have L4 : Hid (os.length ≤ k + 1) := by have := HL.out; show _ ≤ _; omega
        clear HST HE HS hd d0
        go_wp2
        go_roundw
        case rel => exact ⟨k + 1, f, os, a, n, c, rfl, rfl, by go_num, by omega, by omega, L4.out, HB.out, HO.out, HS2.out⟩
        case measure => simp [intOf]; omega
    · have hks : k = s.size := by omega
      subst hks
      have HP : Hid (prt s = (os ++ [(s.data.toList.drop f).take (s.size - f)]).map fun l => ⟨l.toArray⟩) := by
        show _ = _
        unfold prt
        rw [HS.out, List.drop_eq_nil_of_le (Nat.le_of_eq SD.out)]
        rfl
      have hb := below_new (o := .cells #[.string (s.extract f s.size)] 9) (w := wr) (Below.refl _ _)
      have B2 := hid (HB.out.trans (hb.mono HB.out.size))
      have O2 := hid (own_kept HO.out (only_of_below hb (fun _ => False)) (fun _ _ h => h))
      have NB := hid (Bk.new wr 9 [.string (s.extract f s.size)])
      have hol : os.length ≤ 1048576 := by have := HL.out; omega
      have hfk' : (f : Int) ≤ (s.size : Int) := by omega
      clear hb HO HB HS
      go_wp2_with (at_builtin; refine wpList_append_sB rfl _ _ rfl w.heap.size _ _ _ rfl O2.out wr.heap.size (s.extract f s.size) rfl NB.out hol B2.out.size ?_)
      intro a' n' c' w4 hO4 hg4
      have B4 : Hid (Below w.heap.size w w4) := B2.out.trans ((only_of_grown hg4 (R := fun y => (Value.slice a n c).ownBlock = some y) (fun k q => q)).below B2.out.size (fun b hb q => by have := (World.ownsRow.lt O2.out b q).1; omega))
      have O4 : Hid (w4.ownsRow w.heap.size 9 1 (.slice a' n' c') (prt s).length ((prt s).map Value.string)) := by
        show World.ownsRow _ _ _ _ _ _ _
        rw [HP.out, List.map_map, List.length_map, List.map_append, List.length_append, List.map_cons, List.map_nil]
        show World.ownsRow _ _ _ _ _ _ ((os.map fun l => Value.string ⟨l.toArray⟩) ++ [Value.string ⟨((s.data.toList.drop f).take (s.size - f)).toArray⟩])
        rw [ext_data]
        exact hO4
      clear hO4 hg4 O2 B2 NB
      go_wp2
      go_ret
      exact ⟨a', n', c', rfl, O4.out, B4.out⟩
end Go.Proofs.YtgnjknbgahickacGreatDoor
/-
  TextTx of the specification.
-/
namespace Go.Proofs.YtgnjknbgahickacGreatDoor
open Go.RowKit
set_option linter.unusedVariables false
theorem spl_len : ∀ (l acc : List UInt8), ∀ p ∈ spl acc l, p.length ≤ acc.length + l.length := by
  intro l
  induction l with
  | nil => intro acc p hp; simp [spl] at hp; subst hp; simp
  | cons c l ih =>
    intro acc p hp
    unfold spl at hp
    split at hp
    · rcases List.mem_cons.1 hp with rfl | q
      · simp
      · have := ih [] p q
        simp at this ⊢
        omega
    · have := ih _ p hp
      simp at this ⊢
      omega
theorem prt_size (s : ByteArray) (i : Nat) : ((prt s)[i]?.getD ⟨#[]⟩).size ≤ s.size := by
  by_cases h : i < (prt s).length
  · have hm : (prt s)[i] ∈ prt s := List.getElem_mem h
    unfold prt at hm
    obtain ⟨p, hp, e⟩ := List.mem_map.1 hm
    have hl := spl_len s.data.toList [] p hp
    have e2 : s.data.toList.length = s.size := by show s.data.toList.length = s.data.size; exact Array.length_toList
    rw [e2] at hl
    have e3 : (prt s)[i]?.getD ⟨#[]⟩ = ⟨p.toArray⟩ := by rw [List.getElem?_eq_getElem h]; exact e.symm
    rw [e3]
    show p.toArray.size ≤ _
    simpa using hl
  · rw [List.getElem?_eq_none (by omega)]
    exact Nat.zero_le _
/-- What stands at place j when k parts have been read. -/
def vk (s : ByteArray) (k j : Nat) : Int := if j < k then gAt (prt s) j else 0
theorem vk_all (s : ByteArray) (j : Nat) : vk s (prt s).length j = gAt (prt s) j := by
  unfold vk gAt
  split <;> simp
theorem vk_next (s : ByteArray) (k j : Nat) (h : j ≠ k) : vk s (k + 1) j = vk s k j := by
  unfold vk
  by_cases e : j < k
  · rw [if_pos e, if_pos (by omega)]
  · rw [if_neg e, if_neg (by omega)]
theorem vk_at (s : ByteArray) (k : Nat) (h : k < (prt s).length) : vk s (k + 1) k = tgN ((prt s)[k]?.getD ⟨#[]⟩) := by
  unfold vk gAt
  rw [if_pos (by omega), if_pos h]
def vrow (s : ByteArray) (k : Nat) : List Value := [.int .i64 (vk s k 0), .int .i64 (vk s k 1), .int .i64 (vk s k 2)]
theorem vrow_set (s : ByteArray) (k : Nat) (hk : k < 3) (h : k < (prt s).length) : (vrow s k).set k (.int .i64 (tgN ((prt s)[k]?.getD ⟨#[]⟩))) = vrow s (k + 1) := by
  unfold vrow
  rw [← vk_at s k h]
  have h3 : k = 0 ∨ k = 1 ∨ k = 2 := by omega
  rcases h3 with rfl | rfl | rfl
  · simp [vk_next s 0 1 (by omega), vk_next s 0 2 (by omega)]
  · simp [vk_next s 1 0 (by omega), vk_next s 1 2 (by omega)]
  · simp [vk_next s 2 0 (by omega), vk_next s 2 1 (by omega)]
theorem vrow_skip (s : ByteArray) (k : Nat) (hk : 3 ≤ k) : vrow s (k + 1) = vrow s k := by
  unfold vrow
  rw [vk_next s k 0 (by omega), vk_next s k 1 (by omega), vk_next s k 2 (by omega)]
theorem vrow_some (s : ByteArray) (k j : Nat) (h : j < 3) : ∃ z : Int, (vrow s k)[j]? = some (.int .i64 z) := by
  have h3 : j = 0 ∨ j = 1 ∨ j = 2 := by omega
  rcases h3 with rfl | rfl | rfl
  · exact ⟨_, rfl⟩
  · exact ⟨_, rfl⟩
  · exact ⟨_, rfl⟩
end Go.Proofs.YtgnjknbgahickacGreatDoor
/-
  TextTx of the specification: the walk.
-/
namespace Go.Proofs.YtgnjknbgahickacGreatDoor
open Go.RowKit
set_option linter.unusedVariables false
theorem bnil {s : ByteArray} : s.toList = [] ↔ s.size = 0 := by
  rw [ByteArray.toList_eq, ← List.length_eq_zero_iff, Array.length_toList]; rfl
theorem tt_none {s : ByteArray} (h : ttV s = none) : ttA s = (0, 0, 0) ∧ (ttV s).isSome = false := by unfold ttA; rw [h]; exact ⟨rfl, rfl⟩
theorem tt_some {s : ByteArray} {x : TX} (h : ttV s = some x) : ttA s = x ∧ (ttV s).isSome = true := by unfold ttA; rw [h]; exact ⟨rfl, rfl⟩
set_option maxHeartbeats 8000000 in
set_option maxRecDepth 20000 in
theorem specTextTx_any (s : ByteArray) (w : World) (hs : s.size ≤ 1048576) :
    Calls Tryz.prog 42 #[.string s] w fun r w' => r = .returned (.tuple #[.agg #[.int .i64 (ttA s).1, .int .i64 (ttA s).2.1, .int .i64 (ttA s).2.2], .bool (ttV s).isSome]) ∧ Below w.heap.size w w' := by
  have HST := hid (spec_tt s)
  have hb0 := below_new (o := .cells #[.int .i64 0, .int .i64 0, .int .i64 0] 41) (w := w) (Below.refl _ _)
  have B1 := hid hb0
  have R1 := hid (Bk.new w 41 [.int .i64 0, .int .i64 0, .int .i64 0])
  by_cases h9 : 9 < s.size
  · have h9' : (9 : Int) < (s.size : Int) := by omega
    have HA := hid (tt_none (HST.out.2 (fun q => by omega)))
    clear hb0
    go_enter Tryz.func42, Tryz.ntmps42
    go_wp2
    try simp only [Exit.inBlock, Exit.then]
    refine bodyPost_ret (v := .tuple #[.agg #[.int .i64 0, .int .i64 0, .int .i64 0], .bool false]) ?_ rfl ?_
    · exact results_txb rfl _ _ w.heap.size rfl rfl (by go_simp) (by go_simp) (by go_simp)
    · rw [HA.out.1, HA.out.2]
      exact ⟨rfl, by first | exact B1.out | exact ((B1.out.setCell (p := ⟨w.heap.size, 0, none⟩) (Nat.le_refl _) _).setCell (p := ⟨w.heap.size, 1, none⟩) (Nat.le_refl _) _).setCell (p := ⟨w.heap.size, 2, none⟩) (Nat.le_refl _) _⟩
  · have h9' : ¬ (9 : Int) < (s.size : Int) := by omega
    clear hb0
    have hbv := below_new (o := .cells #[.int .i64 0, .int .i64 0, .int .i64 0] 3) (w := w.alloc (.cells #[.int .i64 0, .int .i64 0, .int .i64 0] 41)) (Below.refl _ _)
    have R2 := hid (R1.out.below hbv)
    have B2 := hid (B1.out.trans (hbv.mono B1.out.size))
    have V2 : Hid (Bk ((w.alloc (.cells #[.int .i64 0, .int .i64 0, .int .i64 0] 41)).alloc (.cells #[.int .i64 0, .int .i64 0, .int .i64 0] 3)) (w.heap.size + 1) 3 (vrow s 0)) := by
      have := Bk.new (w.alloc (.cells #[.int .i64 0, .int .i64 0, .int .i64 0] 41)) 3 [.int .i64 0, .int .i64 0, .int .i64 0]
      rw [show (w.alloc (.cells #[.int .i64 0, .int .i64 0, .int .i64 0] 41)).heap.size = w.heap.size + 1 by simp] at this
      exact this
    have CP := hid (fun v => l07Parts_any s v hs)
    unfold PrPost at CP
    clear hbv R1 B1
    go_enter Tryz.func42, Tryz.ntmps42
    go_wp2_with fail
    refine (CP.out _).mono ?_
    generalize (w.alloc (.cells #[.int .i64 0, .int .i64 0, .int .i64 0] 41)).alloc (.cells #[.int .i64 0, .int .i64 0, .int .i64 0] 3) = U at *
    generalize hgv : w.heap.size + 1 = gv at *
    have HGV := hid hgv
    clear hgv
    rintro r w3 ⟨a, n, c, rfl, hO, hb⟩
    have R3 := hid (R2.out.below hb)
    have V3 := hid (V2.out.below hb)
    have B3 := hid (B2.out.trans (hb.mono B2.out.size))
    have P3 : Hid (Rw w3 (fun y => y ≠ gv ∧ y ≠ w.heap.size) (.slice a n c) (prt s).length ((prt s).map Value.string)) := rw_own hO (fun k q h1 h2 => by have := V2.out.lt; have := HGV.out; omega)
    have HN := hid (Rw.len P3.out).1
    have bk := (Rw.len P3.out).2
    clear hO hb R2 V2 B2 CP
    go_wp2_with fail
    go_loopw [16] (fun i wr => ∃ k : Nat, k ≤ n ∧ i = .int .i64 k ∧ Hid (Below w.heap.size w wr) ∧ Hid (Bk wr w.heap.size 41 [.int .i64 0, .int .i64 0, .int .i64 0]) ∧ Hid (Bk wr gv 3 (vrow s k)) ∧ Hid (Rw wr (fun y => y ≠ gv ∧ y ≠ w.heap.size) (.slice a n c) (prt s).length ((prt s).map Value.string))) (fun i _ => n - (intOf i).toNat)
    case atStart => exact ⟨0, Nat.zero_le _, rfl, B3.out, R3.out, V3.out, P3.out⟩
    case round =>
      clear R3 V3 B3 P3
      obtain ⟨k, hk, rfl, HB, HR, HV, HP⟩ := hrel
      by_cases hlt : k < n
      · have hlt' : (k : Int) < (n : Int) := by omega
        have hkl : k < (prt s).length := by rw [← HN.out]; exact hlt
        obtain ⟨b, off, ha', -, -, hcell⟩ := Rw.at HP.out (by omega)
        subst ha'
        have hc0 := hcell k (.string ((prt s)[k]?.getD ⟨#[]⟩)) (by rw [List.getElem?_map]; simp [hkl])
        have hps := prt_size s k
        clear hcell
        by_cases h3 : k < 3
        · have h3' : (k : Int) < 3 := by omega
          have CN : Hid (∀ v, Calls Tryz.prog 51 #[.string ((prt s)[k]?.getD ⟨#[]⟩)] v fun e w' => e = .returned (.tuple #[.int .i64 (tgN ((prt s)[k]?.getD ⟨#[]⟩)), .bool (tn ((prt s)[k]?.getD ⟨#[]⟩)).isSome]) ∧ Below v.heap.size v w') := fun v => specTextNum_any _ v (by omega)
          have HSET := hid (vrow_set s k h3 hkl)
          generalize tgN ((prt s)[k]?.getD ⟨#[]⟩) = z at *
          generalize (tn ((prt s)[k]?.getD ⟨#[]⟩)).isSome = zb at *
          generalize (prt s)[k]?.getD ⟨#[]⟩ = pp at *
          clear hps
          go_wp2_with fail
          refine (CN.out _).mono ?_
          rintro r w5 ⟨rfl, hb⟩
          have B5 := hid (HB.out.trans (hb.mono HB.out.size))
          have R5 := hid (HR.out.below hb)
          have V5 := hid (HV.out.below hb)
          have P5 := hid (HP.out.below hb)
          clear hb HB HR HV HP hc0
          obtain ⟨old, hold⟩ := vrow_some s k k h3
          have v0 := V5.out.cell hold
          have f0 := V5.out.free k
          have ow : Only (fun y => y = gv) w5 (w5.setCell ⟨gv, k, none⟩ (.int .i64 z)) := only_set (R := fun y => y = gv) (p := ⟨gv, k, none⟩) rfl _
          have V6 : Hid (Bk (w5.setCell ⟨gv, k, none⟩ (.int .i64 z)) gv 3 (vrow s (k + 1))) := by show Bk _ _ _ _; rw [← HSET.out]; exact V5.out.set k _
          have R6 := hid (R5.out.to ow (by have := HGV.out; omega))
          have B6 := hid (B5.out.trans (ow.below B5.out.size (fun b hb q => by have := HGV.out; omega)))
          have P6 := hid (Rw.to P5.out ow (fun b hb _ q => hb.1 q))
          clear ow V5 R5 B5 P5 HSET hold
          go_wp2
          go_roundw
          case rel => exact ⟨k + 1, by omega, by go_num, B6.out, R6.out, V6.out, P6.out⟩
          case measure => simp [intOf]; omega
        · have h3' : ¬ (k : Int) < 3 := by omega
          have HSK := hid (vrow_skip s k (by omega))
          go_wp2
          go_roundw
          case rel => exact ⟨k + 1, by omega, by go_num, HB.out, HR.out, by rw [HSK.out]; exact HV.out, HP.out⟩
          case measure => simp [intOf]; omega
      · have HVA : Hid (vrow s k = [.int .i64 (qtx s).1, .int .i64 (qtx s).2.1, .int .i64 (qtx s).2.2]) := by
          show _ = _
          rw [show k = (prt s).length by rw [← HN.out]; omega]
          unfold vrow qtx
          rw [vk_all, vk_all, vk_all]
        rw [HVA.out] at HV
        have HQ : Hid (qtx s = ((qtx s).1, (qtx s).2.1, (qtx s).2.2)) := rfl
        generalize hq0 : (qtx s).1 = c0 at *
        generalize hq1 : (qtx s).2.1 = e0 at *
        generalize hq2 : (qtx s).2.2 = n0 at *
        clear hq0 hq1 hq2 HVA
        have v0 := HV.out.cell (j := 0) rfl
        have v1 := HV.out.cell (j := 1) rfl
        have v2 := HV.out.cell (j := 2) rfl
        go_wp2_with fail
        go_cut [7] (fun x v => ∃ gx, x = .pointer (some ⟨gx, 0, none⟩) ∧ Below wr.heap.size wr v ∧ Bk v gx 41 [.int .i64 c0, .int .i64 e0, .int .i64 n0] ∧ wr.heap.size ≤ gx)
        case first =>
          have T0 := hid (kl3_0 v0 v1 v2)
          refine wp_region_noPanic ?_
          refine wp_region_held_drew (S := fun v => v.cell? ⟨gv, 0, none⟩ = some (.int .i64 c0) ∧ v.cell? ⟨gv, 1, none⟩ = some (.int .i64 e0) ∧ v.cell? ⟨gv, 2, none⟩ = some (.int .i64 n0) ∧ KL wr v [(⟨gv, 0, none⟩, .int .i64 c0), (⟨gv, 1, none⟩, .int .i64 e0), (⟨gv, 2, none⟩, .int .i64 n0)]) (by kernel_rfl) (kl3 (T0.out.call (below_drew _))) (fun hHeld => ?_)
          simp only [List.size_toArray, List.length_cons, List.length_nil, Array.replicate_succ, Array.replicate_zero, Nat.reduceAdd, List.push_toArray, List.nil_append, List.cons_append]
          refine wpAnyH_take (i := 0) (v := (.slice (some ⟨gv, 0, none⟩) 3 3)) rfl (by kernel_rfl) (by kernel_rfl) (by kernel_rfl) (fun _ _ _ h => h) (Or.inl ⟨by rfl, ?_⟩) (by assumption) ?_
          · intro w hSw
            (try dsimp only at hSw)
            go_simp
          try simp only [List.getElem_toArray]
          try simp only [List.getElem_cons_succ]
          try simp only [List.getElem_cons_zero]
          try simp only [Act.put]
          try simp only [List.setIfInBounds_toArray]
          try simp only [List.set_cons_succ]
          try simp only [List.set_cons_zero]
          refine wpAnyH_take (i := 1) (v := (.pointer (some ⟨gv, 0, none⟩))) rfl (by kernel_rfl) (by kernel_rfl) (by kernel_rfl) (fun _ _ _ h => h) (Or.inl ⟨by rfl, ?_⟩) (by assumption) ?_
          · intro w hSw
            (try dsimp only at hSw)
            go_simp
          try simp only [List.getElem_toArray]
          try simp only [List.getElem_cons_succ]
          try simp only [List.getElem_cons_zero]
          try simp only [Act.put]
          try simp only [List.setIfInBounds_toArray]
          try simp only [List.set_cons_succ]
          try simp only [List.set_cons_zero]
          refine wpAnyH_take (i := 2) (v := (.int .i64 c0)) rfl (by kernel_rfl) (by kernel_rfl) (by kernel_rfl) (fun _ _ _ h => h) (Or.inl ⟨by rfl, ?_⟩) (by assumption) ?_
          · intro w hSw
            (try dsimp only at hSw)
            go_simp
          try simp only [List.getElem_toArray]
          try simp only [List.getElem_cons_succ]
          try simp only [List.getElem_cons_zero]
          try simp only [Act.put]
          try simp only [List.setIfInBounds_toArray]
          try simp only [List.set_cons_succ]
          try simp only [List.set_cons_zero]
          refine wpAnyH_take (i := 3) (v := (.slice (some ⟨gv, 0, none⟩) 3 3)) rfl (by kernel_rfl) (by kernel_rfl) (by kernel_rfl) (fun _ _ _ h => h) (Or.inl ⟨by rfl, ?_⟩) (by assumption) ?_
          · intro w hSw
            (try dsimp only at hSw)
            go_simp
          try simp only [List.getElem_toArray]
          try simp only [List.getElem_cons_succ]
          try simp only [List.getElem_cons_zero]
          try simp only [Act.put]
          try simp only [List.setIfInBounds_toArray]
          try simp only [List.set_cons_succ]
          try simp only [List.set_cons_zero]
          refine wpAnyH_take (i := 4) (v := (.pointer (some ⟨gv, 1, none⟩))) rfl (by kernel_rfl) (by kernel_rfl) (by kernel_rfl) (fun _ _ _ h => h) (Or.inl ⟨by rfl, ?_⟩) (by assumption) ?_
          · intro w hSw
            (try dsimp only at hSw)
            go_simp
          try simp only [List.getElem_toArray]
          try simp only [List.getElem_cons_succ]
          try simp only [List.getElem_cons_zero]
          try simp only [Act.put]
          try simp only [List.setIfInBounds_toArray]
          try simp only [List.set_cons_succ]
          try simp only [List.set_cons_zero]
          refine wpAnyH_take (i := 5) (v := (.int .i64 e0)) rfl (by kernel_rfl) (by kernel_rfl) (by kernel_rfl) (fun _ _ _ h => h) (Or.inl ⟨by rfl, ?_⟩) (by assumption) ?_
          · intro w hSw
            (try dsimp only at hSw)
            go_simp
          try simp only [List.getElem_toArray]
          try simp only [List.getElem_cons_succ]
          try simp only [List.getElem_cons_zero]
          try simp only [Act.put]
          try simp only [List.setIfInBounds_toArray]
          try simp only [List.set_cons_succ]
          try simp only [List.set_cons_zero]
          refine wpAnyH_take (i := 6) (v := (.slice (some ⟨gv, 0, none⟩) 3 3)) rfl (by kernel_rfl) (by kernel_rfl) (by kernel_rfl) (fun _ _ _ h => h) (Or.inl ⟨by rfl, ?_⟩) (by assumption) ?_
          · intro w hSw
            (try dsimp only at hSw)
            go_simp
          try simp only [List.getElem_toArray]
          try simp only [List.getElem_cons_succ]
          try simp only [List.getElem_cons_zero]
          try simp only [Act.put]
          try simp only [List.setIfInBounds_toArray]
          try simp only [List.set_cons_succ]
          try simp only [List.set_cons_zero]
          refine wpAnyH_take (i := 7) (v := (.pointer (some ⟨gv, 2, none⟩))) rfl (by kernel_rfl) (by kernel_rfl) (by kernel_rfl) (fun _ _ _ h => h) (Or.inl ⟨by rfl, ?_⟩) (by assumption) ?_
          · intro w hSw
            (try dsimp only at hSw)
            go_simp
          try simp only [List.getElem_toArray]
          try simp only [List.getElem_cons_succ]
          try simp only [List.getElem_cons_zero]
          try simp only [Act.put]
          try simp only [List.setIfInBounds_toArray]
          try simp only [List.set_cons_succ]
          try simp only [List.set_cons_zero]
          refine wpAnyH_take (i := 8) (v := (.int .i64 n0)) rfl (by kernel_rfl) (by kernel_rfl) (by kernel_rfl) (fun _ _ _ h => h) (Or.inl ⟨by rfl, ?_⟩) (by assumption) ?_
          · intro w hSw
            (try dsimp only at hSw)
            go_simp
          try simp only [List.getElem_toArray]
          try simp only [List.getElem_cons_succ]
          try simp only [List.getElem_cons_zero]
          try simp only [Act.put]
          try simp only [List.setIfInBounds_toArray]
          try simp only [List.set_cons_succ]
          try simp only [List.set_cons_zero]
          refine wpAnyH_take (i := 9) (v := (.agg #[.int .i64 c0, .int .i64 e0, .int .i64 n0])) rfl (by kernel_rfl) (by kernel_rfl) (by kernel_rfl) (fun _ _ _ h => h) (Or.inl ⟨by rfl, ?_⟩) (by assumption) ?_
          · intro w hSw
            (try dsimp only at hSw)
            go_simp
          try simp only [List.getElem_toArray]
          try simp only [List.getElem_cons_succ]
          try simp only [List.getElem_cons_zero]
          try simp only [Act.put]
          try simp only [List.setIfInBounds_toArray]
          try simp only [List.set_cons_succ]
          try simp only [List.set_cons_zero]
          refine wpAnyH_ready (rs := [10]) (by kernel_rfl) (by simp) ?_
          refine AllReadyH.cons rfl (fun K1 hK => ?_) AllReadyH.nil
          go_simp
          try go_wp2_with fail
          have h0 := below_new (o := .cells #[.int .i64 0, .int .i64 0, .int .i64 0] 41) (w := wr) (below_drew _)
          have hbC : Below wr.drew.heap.size wr.drew (wr.alloc (.cells #[.int .i64 0, .int .i64 0, .int .i64 0] 41)).drew := ⟨h0.os, h0.tape, h0.output, h0.size, h0.block⟩
          have E0 : Hid (Bk (wr.alloc (.cells #[.int .i64 0, .int .i64 0, .int .i64 0] 41)).drew wr.heap.size 41 [.int .i64 0, .int .i64 0, .int .i64 0]) := (Bk.new wr 41 [.int .i64 0, .int .i64 0, .int .i64 0]).below (below_drew _)
          have BW := hid h0
          refine hK.out _ _ ?_ (fun hHeld => ?_)
          · exact kl3c hbC (by assumption)
          clear hK K1
          try simp only [List.getElem_toArray]
          try simp only [List.getElem_cons_succ]
          try simp only [List.getElem_cons_zero]
          try simp only [Act.put]
          try simp only [List.setIfInBounds_toArray]
          try simp only [List.set_cons_succ]
          try simp only [List.set_cons_zero]
          clear hbC h0
          generalize (wr.alloc (.cells #[.int .i64 0, .int .i64 0, .int .i64 0] 41)).drew = v6 at *
          have z0 := E0.out.cell (j := 0) rfl
          have z1 := E0.out.cell (j := 1) rfl
          have z2 := E0.out.cell (j := 2) rfl
          have e0' := E0.out.free 0
          have e1' := E0.out.free 1
          have e2' := E0.out.free 2
          have X9 : Hid (Bk (((v6.setCell ⟨wr.heap.size, 0, none⟩ (.int .i64 c0)).setCell ⟨wr.heap.size, 1, none⟩ (.int .i64 e0)).setCell ⟨wr.heap.size, 2, none⟩ (.int .i64 n0)) wr.heap.size 41 [.int .i64 c0, .int .i64 e0, .int .i64 n0]) := ((E0.out.set 0 _).set 1 _).set 2 _
          have B9 : Hid (Below wr.heap.size wr (((v6.setCell ⟨wr.heap.size, 0, none⟩ (.int .i64 c0)).setCell ⟨wr.heap.size, 1, none⟩ (.int .i64 e0)).setCell ⟨wr.heap.size, 2, none⟩ (.int .i64 n0))) := ((BW.out.setCell (p := ⟨wr.heap.size, 0, none⟩) (Nat.le_refl _) _).setCell (p := ⟨wr.heap.size, 1, none⟩) (Nat.le_refl _) _).setCell (p := ⟨wr.heap.size, 2, none⟩) (Nat.le_refl _) _
          have s9 := kl3 (KL.mk T0.out.cells B9.out)
          refine wpAnyH_ready (rs := [11]) (by kernel_rfl) (by simp) ?_
          refine AllReadyH.cons rfl (fun K1 hK => ?_) AllReadyH.nil
          go_simp
          try go_wp2_with fail
          refine hK.out _ _ ?_ (fun hHeld => ?_)
          · exact s9
          clear hK K1
          try simp only [List.getElem_toArray]
          try simp only [List.getElem_cons_succ]
          try simp only [List.getElem_cons_zero]
          try simp only [Act.put]
          try simp only [List.setIfInBounds_toArray]
          try simp only [List.set_cons_succ]
          try simp only [List.set_cons_zero]
          refine wpAnyH_done (by kernel_rfl) ?_ _
          refine NoPanic.normal ?_
          go_wp2_with fail
          go_meet
          exact ⟨_, by simp, B9.out, X9.out, Nat.le_refl _⟩
        case rest =>
          obtain ⟨gx, rfl, hb, hbk, hgx⟩ := hcut
          have X7 := hid hbk
          have R7 := hid (HR.out.below hb)
          have B7 := hid (HB.out.trans (hb.mono HB.out.size))
          have SX : Hid (w.heap.size < gx) := by have := HR.out.lt; show _ < _; omega
          clear hb hbk hgx v0 v1 v2 HV HP HB HR
          have CT := hid (fun v => specTxText_any c0 e0 n0 v)
          by_cases hse : s.size = 0
          · have hse1 : s.toList = [] := bnil.2 hse
            have HA := hid (tt_none (HST.out.2 (fun q => by omega)))
            have z0 := R7.out.cell (j := 0) rfl
            have z1 := R7.out.cell (j := 1) rfl
            have z2 := R7.out.cell (j := 2) rfl
            have e0 := R7.out.free 0
            have e1 := R7.out.free 1
            have e2 := R7.out.free 2
            go_wp2
            try simp only [Exit.inBlock, Exit.then]
            refine bodyPost_ret (v := .tuple #[.agg #[.int .i64 0, .int .i64 0, .int .i64 0], .bool false]) ?_ rfl ?_
            · exact results_txb rfl _ _ w.heap.size rfl rfl (by go_simp) (by go_simp) (by go_simp)
            · rw [HA.out.1, HA.out.2]
              exact ⟨rfl, ((B7.out.setCell (p := ⟨w.heap.size, 0, none⟩) (Nat.le_refl _) _).setCell (p := ⟨w.heap.size, 1, none⟩) (Nat.le_refl _) _).setCell (p := ⟨w.heap.size, 2, none⟩) (Nat.le_refl _) _⟩
          · have hne : ¬ s.toList = [] := fun q => hse (bnil.1 q)
            have hne2 : s.toList.isEmpty = false := by simpa using hne
            have y0 := X7.out.cell (j := 0) rfl
            have y1 := X7.out.cell (j := 1) rfl
            have y2 := X7.out.cell (j := 2) rfl
            go_wp2_with fail
            refine (CT.out _).mono ?_
            rintro r w8 ⟨rfl, hb⟩
            have R8 := hid (R7.out.below hb)
            have X8 := hid (X7.out.below hb)
            have B8 := hid (B7.out.trans (hb.mono B7.out.size))
            clear hb y0 y1 y2 R7 X7 B7
            by_cases ht : txT (c0, e0, n0) = s
            · have HA := hid (tt_some (HST.out.1 ⟨by omega, by omega, by rw [HQ.out]; exact ht⟩))
              rw [HQ.out] at HA
              rw [ht]
              have hss : (s.toList != s.toList) = false := by simp
              clear ht
              have y0 := X8.out.cell (j := 0) rfl
              have y1 := X8.out.cell (j := 1) rfl
              have y2 := X8.out.cell (j := 2) rfl
              have z0 := R8.out.cell (j := 0) rfl
              have z1 := R8.out.cell (j := 1) rfl
              have z2 := R8.out.cell (j := 2) rfl
              have f0 := R8.out.free 0
              have f1 := R8.out.free 1
              have f2 := R8.out.free 2
              have d1 : ¬ gx = w.heap.size := by have := SX.out; omega
              have d2 : ¬ w.heap.size = gx := by have := SX.out; omega
              go_wp2
              try simp only [Exit.inBlock, Exit.then]
              refine bodyPost_ret (v := .tuple #[.agg #[.int .i64 c0, .int .i64 e0, .int .i64 n0], .bool true]) ?_ rfl ?_
              · exact results_txb rfl _ _ w.heap.size rfl rfl (by go_simp) (by go_simp) (by go_simp)
              · rw [HA.out.1, HA.out.2]
                exact ⟨rfl, ((B8.out.setCell (p := ⟨w.heap.size, 0, none⟩) (Nat.le_refl _) _).setCell (p := ⟨w.heap.size, 1, none⟩) (Nat.le_refl _) _).setCell (p := ⟨w.heap.size, 2, none⟩) (Nat.le_refl _) _⟩
            · have HA := hid (tt_none (HST.out.2 (fun q => ht (by have := q.2.2; rw [HQ.out] at this; exact this))))
              have hss := str_ne ht
              have hs2 : (((txT (c0, e0, n0)).toList != s.toList)) = true := by rw [bne, hss]; rfl
              generalize txT (c0, e0, n0) = tt at *
              have z0 := R8.out.cell (j := 0) rfl
              have z1 := R8.out.cell (j := 1) rfl
              have z2 := R8.out.cell (j := 2) rfl
              have e0 := R8.out.free 0
              have e1 := R8.out.free 1
              have e2 := R8.out.free 2
              go_wp2
              try simp only [Exit.inBlock, Exit.then]
              refine bodyPost_ret (v := .tuple #[.agg #[.int .i64 0, .int .i64 0, .int .i64 0], .bool false]) ?_ rfl ?_
              · exact results_txb rfl _ _ w.heap.size rfl rfl (by go_simp) (by go_simp) (by go_simp)
              · rw [HA.out.1, HA.out.2]
                exact ⟨rfl, ((B8.out.setCell (p := ⟨w.heap.size, 0, none⟩) (Nat.le_refl _) _).setCell (p := ⟨w.heap.size, 1, none⟩) (Nat.le_refl _) _).setCell (p := ⟨w.heap.size, 2, none⟩) (Nat.le_refl _) _⟩
end Go.Proofs.YtgnjknbgahickacGreatDoor
/-
  LastOf of the program and of the specification.
-/
namespace Go.Proofs.YtgnjknbgahickacGreatDoor
open Go.RowKit
set_option linter.unusedVariables false
theorem pOkF_memL (l : List PB) : ∀ f k, pOkF l f k = true → ∀ i, k ≤ i → i < k + f → kOk (pAtB l i).1 = true ∧ vOk (pAtB l i).2 = true
  | 0, k, _, i, h1, h2 => by omega
  | f + 1, k, h, i, h1, h2 => by
    rw [pOkF] at h
    simp only [Bool.and_eq_true] at h
    by_cases e : i = k
    · rw [e]; exact ⟨h.1.1.1, h.1.1.2⟩
    · exact pOkF_memL l f (k + 1) h.2 i (by omega) (by omega)
theorem getV_small {ns : List NB} {k v : ByteArray} (h : getV ns k = some v) : v.size ≤ 1048576 := by
  unfold getV at h
  split at h
  · unfold fnd at h
    obtain ⟨p, hp, hq⟩ := List.exists_of_findSome?_eq_some h
    split at hq
    · cases hq
      unfold alV at hp
      split at hp
      · cases hp
      · rename_i t ht
        have hok := (okT_facts ht).ok
        simp only [pOk, Bool.and_eq_true] at hok
        obtain ⟨i, hi, rfl⟩ := List.mem_iff_getElem.1 hp
        have := (pOkF_memL _ _ 0 hok.2 i (by omega) (by omega)).2
        rw [pAtB_lt hi] at this
        simp [vOk] at this
        omega
    · cases hq
  · cases h
theorem txT_fullL {x : TX} (h : txOk x = true) : ¬ (txT x).toList = [] := by
  intro q
  have hd := txT_data x h
  rw [ByteArray.toList_eq] at q
  rw [q] at hd
  have := congrArg List.length hd
  simp at this
theorem ttA_emptyL : ttA ⟨#[]⟩ = (0, 0, 0) ∧ (ttV ⟨#[]⟩).isSome = false := by
  by_cases h : txOk (ptx ⟨#[]⟩) = true ∧ txT (ptx ⟨#[]⟩) = ⟨#[]⟩
  · exact absurd (by rw [h.2, ByteArray.toList_eq]) (txT_fullL h.1)
  · exact ttA_no h
theorem ttA_noneL {s : ByteArray} (h : (ttV s).isSome = false) : ttA s = (0, 0, 0) := by
  unfold ttA
  cases e : ttV s with
  | none => rfl
  | some x => rw [e] at h; cases h
/-- What TreeGet hands on. -/
def gS (ns : List NB) (c : Int) : ByteArray := (getV ns (lKey c)).getD ⟨#[]⟩
def lastV (ns : List NB) (c : Int) : TX := if c < 0 then (0, 0, 0) else ttA (gS ns c)
theorem gotV_gS (ns : List NB) (c : Int) : gotV (getV ns (lKey c)) = .tuple #[.string (gS ns c), .bool (getV ns (lKey c)).isSome] := by
  unfold gS
  cases getV ns (lKey c) <;> rfl
theorem gS_small (ns : List NB) (c : Int) : (gS ns c).size ≤ 1048576 := by
  unfold gS
  cases h : getV ns (lKey c) with
  | none => decide
  | some v => exact getV_small h
theorem gS_none {ns : List NB} {c : Int} (h : (getV ns (lKey c)).isSome = false) : ttA (gS ns c) = (0, 0, 0) := by
  unfold gS
  cases e : getV ns (lKey c) with
  | none => exact ttA_emptyL.1
  | some v => rw [e] at h; cases h
set_option maxHeartbeats 8000000 in
set_option maxRecDepth 20000 in
theorem implLastOf_any (S : Nat → Prop) (an : Option Addr) (nn cn : Nat) (ns : List NB) (c : Int) (w : World) (hN : Nr w S (.slice an nn cn) ns) (h : GD w) :
    Calls Tryz.prog 22 #[.agg #[.slice an nn cn], .int .i64 c] w fun r w' => r = .returned (.agg #[.int .i64 (lastV ns c).1, .int .i64 (lastV ns c).2.1, .int .i64 (lastV ns c).2.2]) ∧ Below w.heap.size w w' := by
  have HV : Hid (lastV ns c = if c < 0 then (0, 0, 0) else ttA (gS ns c)) := rfl
  have B0 := hid (below_new (o := .cells #[.slice an nn cn] 30) (w := w) (below_new (o := .cells #[.int .i64 0, .int .i64 0, .int .i64 0] 41) (w := w.alloc (.cells #[.slice an nn cn] 30)) (Below.refl _ _)))
  have K0 := hid ((Bk.new w 30 [.slice an nn cn]).alloc (.cells #[.int .i64 0, .int .i64 0, .int .i64 0] 41))
  have J0 := hid (Bk.new (w.alloc (.cells #[.slice an nn cn] 30)) 41 [.int .i64 0, .int .i64 0, .int .i64 0])
  rw [show (w.alloc (.cells #[.slice an nn cn] 30)).heap.size = w.heap.size + 1 by simp] at J0
  have H0 := hid hN
  have HGN := hid (gotV_gS ns c)
  have HSM := hid (gS_small ns c)
  have HNO := hid (gS_none (ns := ns) (c := c))
  have HGD := hid h
  have CG := hid (fun S w h => implTreeGet_any S an nn cn ns (lKey c) w h)
  rw [HGN.out] at CG
  have CL := hid (fun w h => implLKey_any c w h)
  have CT := hid (fun w h => implTextTx_any (gS ns c) w HSM.out h)
  clear hN h HGN
  generalize (getV ns (lKey c)).isSome = z at *
  generalize (ttV (gS ns c)).isSome = zi at *
  generalize httx : ttA (gS ns c) = tx at *
  clear httx
  generalize gS ns c = gs at *
  obtain ⟨xc, xe, xn⟩ := tx
  generalize lKey c = lk at *
  by_cases hc : c < 0
  · rw [if_pos hc] at HV
    go_enter Tryz.func22, Tryz.ntmps22
    go_wp2
    try simp only [Exit.inBlock, Exit.then]
    refine bodyPost_ret (v := .agg #[.int .i64 0, .int .i64 0, .int .i64 0]) ?_ rfl ?_
    · exact results_tx rfl _ _ (w.heap.size + 1) rfl (by go_simp) (by go_simp) (by go_simp)
    · exact ⟨by rw [HV.out], B0.out⟩
  · rw [if_neg hc] at HV
    go_enter Tryz.func22, Tryz.ntmps22
    go_wp2_with fail
    generalize (w.alloc (.cells #[.slice an nn cn] 30)).alloc (.cells #[.int .i64 0, .int .i64 0, .int .i64 0] 41) = U at *
    have HNU := hid (H0.out.below B0.out)
    have hk0 : U.cell? ⟨w.heap.size, 0, none⟩ = some (.slice an nn cn) := K0.out.cell (j := 0) rfl
    have GU := hid ((HGD.out.below B0.out).below (below_drew U))
    refine wp_region_noPanic ?_
    refine wp_region_held_drew (S := fun v => v.cell? ⟨w.heap.size, 0, none⟩ = some (.slice an nn cn)) (by kernel_rfl) (cell_kept hk0 (below_drew _)) (fun hHeld => ?_)
    simp only [List.size_toArray, List.length_cons, List.length_nil, Array.replicate_succ, Array.replicate_zero, Nat.reduceAdd, List.push_toArray, List.nil_append, List.cons_append]
    refine wpAnyH_take (i := 0) (v := (.agg #[.slice an nn cn])) rfl (by kernel_rfl) (by kernel_rfl) (by kernel_rfl) (fun _ _ _ h => h) (Or.inl ⟨by rfl, ?_⟩) (by assumption) ?_
    · intro w hSw
      (try dsimp only at hSw)
      go_simp
    try simp only [List.getElem_toArray]
    try simp only [List.getElem_cons_succ]
    try simp only [List.getElem_cons_zero]
    try simp only [Act.put]
    try simp only [List.setIfInBounds_toArray]
    try simp only [List.set_cons_succ]
    try simp only [List.set_cons_zero]
    refine wpAnyH_take (i := 1) (v := (.int .i64 c)) rfl (by kernel_rfl) (by kernel_rfl) (by kernel_rfl) (fun _ _ _ h => h) (Or.inl ⟨by rfl, ?_⟩) (by assumption) ?_
    · intro w hSw
      (try dsimp only at hSw)
      go_simp
    try simp only [List.getElem_toArray]
    try simp only [List.getElem_cons_succ]
    try simp only [List.getElem_cons_zero]
    try simp only [Act.put]
    try simp only [List.setIfInBounds_toArray]
    try simp only [List.set_cons_succ]
    try simp only [List.set_cons_zero]
    have BB0 := hid (below_drew U)
    refine wpAnyH_ready (rs := [2]) (by kernel_rfl) (by simp) ?_
    refine AllReadyH.cons rfl (fun K1 hK => ?_) AllReadyH.nil
    go_simp
    refine (CL.out _ GU.out.tab).mono ?_
    rintro r q1 ⟨rfl, hbC⟩
    have BB1 := hid (btE BB0.out hbC)
    have G1 := hid (GU.out.below hbC)
    go_wp2_with fail
    refine hK.out _ _ ?_ (fun hHeld => ?_)
    · exact cell_kept (by assumption) hbC
    clear hK K1
    try simp only [List.getElem_toArray]
    try simp only [List.getElem_cons_succ]
    try simp only [List.getElem_cons_zero]
    try simp only [Act.put]
    try simp only [List.setIfInBounds_toArray]
    try simp only [List.set_cons_succ]
    try simp only [List.set_cons_zero]
    clear hbC
    refine wpAnyH_ready (rs := [3]) (by kernel_rfl) (by simp) ?_
    refine AllReadyH.cons rfl (fun K1 hK => ?_) AllReadyH.nil
    go_simp
    refine (CG.out S _ (HNU.out.below BB1.out)).mono ?_
    rintro r q2 ⟨rfl, hbC⟩
    have BB2 := hid (btE BB1.out hbC)
    have G2 := hid (G1.out.below hbC)
    go_wp2_with fail
    refine hK.out _ _ ?_ (fun hHeld => ?_)
    · exact cell_kept (by assumption) hbC
    clear hK K1
    try simp only [List.getElem_toArray]
    try simp only [List.getElem_cons_succ]
    try simp only [List.getElem_cons_zero]
    try simp only [Act.put]
    try simp only [List.setIfInBounds_toArray]
    try simp only [List.set_cons_succ]
    try simp only [List.set_cons_zero]
    clear hbC
    refine wpAnyH_take (i := 4) (v := (.tuple #[.string gs, .bool z])) rfl (by kernel_rfl) (by kernel_rfl) (by kernel_rfl) (fun _ _ _ h => h) (Or.inl ⟨by rfl, ?_⟩) (by assumption) ?_
    · intro w hSw
      (try dsimp only at hSw)
      go_simp
    try simp only [List.getElem_toArray]
    try simp only [List.getElem_cons_succ]
    try simp only [List.getElem_cons_zero]
    try simp only [Act.put]
    try simp only [List.setIfInBounds_toArray]
    try simp only [List.set_cons_succ]
    try simp only [List.set_cons_zero]
    refine wpAnyH_take (i := 5) (v := (.string gs)) rfl (by kernel_rfl) (by kernel_rfl) (by kernel_rfl) (fun _ _ _ h => h) (Or.inl ⟨by rfl, ?_⟩) (by assumption) ?_
    · intro w hSw
      (try dsimp only at hSw)
      go_simp
    try simp only [List.getElem_toArray]
    try simp only [List.getElem_cons_succ]
    try simp only [List.getElem_cons_zero]
    try simp only [Act.put]
    try simp only [List.setIfInBounds_toArray]
    try simp only [List.set_cons_succ]
    try simp only [List.set_cons_zero]
    refine wpAnyH_take (i := 6) (v := (.bool z)) rfl (by kernel_rfl) (by kernel_rfl) (by kernel_rfl) (fun _ _ _ h => h) (Or.inl ⟨by rfl, ?_⟩) (by assumption) ?_
    · intro w hSw
      (try dsimp only at hSw)
      go_simp
    try simp only [List.getElem_toArray]
    try simp only [List.getElem_cons_succ]
    try simp only [List.getElem_cons_zero]
    try simp only [Act.put]
    try simp only [List.setIfInBounds_toArray]
    try simp only [List.set_cons_succ]
    try simp only [List.set_cons_zero]
    refine wpAnyH_take (i := 7) (v := (.string gs)) rfl (by kernel_rfl) (by kernel_rfl) (by kernel_rfl) (fun _ _ _ h => h) (Or.inl ⟨by rfl, ?_⟩) (by assumption) ?_
    · intro w hSw
      (try dsimp only at hSw)
      go_simp
    try simp only [List.getElem_toArray]
    try simp only [List.getElem_cons_succ]
    try simp only [List.getElem_cons_zero]
    try simp only [Act.put]
    try simp only [List.setIfInBounds_toArray]
    try simp only [List.set_cons_succ]
    try simp only [List.set_cons_zero]
    refine wpAnyH_take (i := 8) (v := (.bool z)) rfl (by kernel_rfl) (by kernel_rfl) (by kernel_rfl) (fun _ _ _ h => h) (Or.inl ⟨by rfl, ?_⟩) (by assumption) ?_
    · intro w hSw
      (try dsimp only at hSw)
      go_simp
    try simp only [List.getElem_toArray]
    try simp only [List.getElem_cons_succ]
    try simp only [List.getElem_cons_zero]
    try simp only [Act.put]
    try simp only [List.setIfInBounds_toArray]
    try simp only [List.set_cons_succ]
    try simp only [List.set_cons_zero]
    refine wpAnyH_done (by kernel_rfl) ?_ _
    refine NoPanic.normal ?_
    have J2 := hid (J0.out.below BB2.out)
    have B2 := hid (btE B0.out BB2.out)
    clear J0 K0 B0 hk0 HNU
    go_wp2_with fail
    refine (CT.out _ G2.out).mono ?_
    rintro r q3 ⟨rfl, hbC⟩
    have J3 := hid (J2.out.below hbC)
    have B3 := hid (btE B2.out hbC)
    clear hbC J2 B2
    have hlt : w.heap.size + 1 < q3.heap.size := J3.out.lt
    have d1 : ¬ w.heap.size + 1 = q3.heap.size := by omega
    have d2 : ¬ q3.heap.size = w.heap.size + 1 := by omega
    have z0 := J3.out.cell (j := 0) rfl
    have z1 := J3.out.cell (j := 1) rfl
    have z2 := J3.out.cell (j := 2) rfl
    have f0 := J3.out.free 0
    have f1 := J3.out.free 1
    have f2 := J3.out.free 2
    go_wp2
    try simp only [Exit.inBlock, Exit.then]
    refine bodyPost_ret (v := .agg #[.int .i64 xc, .int .i64 xe, .int .i64 xn]) ?_ rfl ?_
    · exact results_tx rfl _ _ (w.heap.size + 1) rfl (by go_simp) (by go_simp) (by go_simp)
    · refine ⟨by rw [HV.out], ?_⟩
      exact Below.alloc (Below.setCell (p := ⟨w.heap.size + 1, 2, none⟩) (Below.setCell (p := ⟨w.heap.size + 1, 1, none⟩) (Below.setCell (p := ⟨w.heap.size + 1, 0, none⟩) B3.out (Nat.le_succ _) _) (Nat.le_succ _) _) (Nat.le_succ _) _) (by simp; omega) _
set_option maxHeartbeats 8000000 in
set_option maxRecDepth 20000 in
theorem specLastOf_any (S : Nat → Prop) (an : Option Addr) (nn cn : Nat) (ns : List NB) (hlen : ns.length ≤ 1048576) (hsm : smallN ns) (c : Int) (w : World) (hN : Nr w S (.slice an nn cn) ns) :
    Calls Tryz.prog 21 #[.agg #[.slice an nn cn], .int .i64 c] w fun r w' => r = .returned (.agg #[.int .i64 (lastV ns c).1, .int .i64 (lastV ns c).2.1, .int .i64 (lastV ns c).2.2]) ∧ Below w.heap.size w w' := by
  have HV : Hid (lastV ns c = if c < 0 then (0, 0, 0) else ttA (gS ns c)) := rfl
  have B0 := hid (below_new (o := .cells #[.slice an nn cn] 30) (w := w) (below_new (o := .cells #[.int .i64 0, .int .i64 0, .int .i64 0] 41) (w := w.alloc (.cells #[.slice an nn cn] 30)) (Below.refl _ _)))
  have K0 := hid ((Bk.new w 30 [.slice an nn cn]).alloc (.cells #[.int .i64 0, .int .i64 0, .int .i64 0] 41))
  have J0 := hid (Bk.new (w.alloc (.cells #[.slice an nn cn] 30)) 41 [.int .i64 0, .int .i64 0, .int .i64 0])
  rw [show (w.alloc (.cells #[.slice an nn cn] 30)).heap.size = w.heap.size + 1 by simp] at J0
  have H0 := hid hN
  have HGN := hid (gotV_gS ns c)
  have HSM := hid (gS_small ns c)
  have HNO := hid (gS_none (ns := ns) (c := c))
  have CG := hid (fun S w h => specTreeGet_any ns hlen hsm S an nn cn (lKey c) w h)
  rw [HGN.out] at CG
  have CL := hid (fun w => specNumText_any c w)
  have HLK : Hid (lKey c = ⟨#[104]⟩ ++ numS c) := rfl
  have s2 := numS_size c
  have p1 : (⟨#[104]⟩ : ByteArray).size = 1 := rfl
  have CT := hid (fun w => specTextTx_any (gS ns c) w HSM.out)
  have HNN := hid (fun q => ttA_noneL (s := gS ns c) q)
  clear hN HGN hlen hsm
  generalize (getV ns (lKey c)).isSome = z at *
  rw [HLK.out] at CG
  generalize numS c = nc at *
  have q1 : ¬ (9223372036854775807 < (⟨#[104]⟩ : ByteArray).size + nc.size) := by omega
  have q1b : 1 + nc.size ≤ 9223372036854775807 := by omega
  generalize hlk : (⟨#[104]⟩ ++ nc : ByteArray) = lk at *
  clear p1 s2 HLK
  generalize (ttV (gS ns c)).isSome = zi at *
  generalize httx : ttA (gS ns c) = tx at *
  clear httx
  generalize gS ns c = gs at *
  obtain ⟨xc, xe, xn⟩ := tx
  go_enter Tryz.func21, Tryz.ntmps21
  go_wp2_with fail
  generalize (w.alloc (.cells #[.slice an nn cn] 30)).alloc (.cells #[.int .i64 0, .int .i64 0, .int .i64 0] 41) = U at *
  have HNU := hid (H0.out.below B0.out)
  have hk0 : U.cell? ⟨w.heap.size, 0, none⟩ = some (.slice an nn cn) := K0.out.cell (j := 0) rfl
  refine wp_region_noPanic ?_
  refine wp_region_held_drew (S := fun v => v.cell? ⟨w.heap.size, 0, none⟩ = some (.slice an nn cn)) (by kernel_rfl) (cell_kept hk0 (below_drew _)) (fun hHeld => ?_)
  simp only [List.size_toArray, List.length_cons, List.length_nil, Array.replicate_succ, Array.replicate_zero, Nat.reduceAdd, List.push_toArray, List.nil_append, List.cons_append]
  refine wpAnyH_take (i := 0) (v := (.agg #[.slice an nn cn])) rfl (by kernel_rfl) (by kernel_rfl) (by kernel_rfl) (fun _ _ _ h => h) (Or.inl ⟨by rfl, ?_⟩) (by assumption) ?_
  · intro w hSw
    (try dsimp only at hSw)
    go_simp
  try simp only [List.getElem_toArray]
  try simp only [List.getElem_cons_succ]
  try simp only [List.getElem_cons_zero]
  try simp only [Act.put]
  try simp only [List.setIfInBounds_toArray]
  try simp only [List.set_cons_succ]
  try simp only [List.set_cons_zero]
  refine wpAnyH_take (i := 1) (v := (.int .i64 c)) rfl (by kernel_rfl) (by kernel_rfl) (by kernel_rfl) (fun _ _ _ h => h) (Or.inl ⟨by rfl, ?_⟩) (by assumption) ?_
  · intro w hSw
    (try dsimp only at hSw)
    go_simp
  try simp only [List.getElem_toArray]
  try simp only [List.getElem_cons_succ]
  try simp only [List.getElem_cons_zero]
  try simp only [Act.put]
  try simp only [List.setIfInBounds_toArray]
  try simp only [List.set_cons_succ]
  try simp only [List.set_cons_zero]
  have BB0 := hid (below_drew U)
  refine wpAnyH_ready (rs := [2]) (by kernel_rfl) (by simp) ?_
  refine AllReadyH.cons rfl (fun K1 hK => ?_) AllReadyH.nil
  go_simp
  refine (CL.out _).mono ?_
  rintro r q1 ⟨rfl, hbC⟩
  have BB1 := hid (btE BB0.out hbC)
  go_wp2_with fail
  refine hK.out _ _ ?_ (fun hHeld => ?_)
  · exact cell_kept (by assumption) hbC
  clear hK K1
  try simp only [List.getElem_toArray]
  try simp only [List.getElem_cons_succ]
  try simp only [List.getElem_cons_zero]
  try simp only [Act.put]
  try simp only [List.setIfInBounds_toArray]
  try simp only [List.set_cons_succ]
  try simp only [List.set_cons_zero]
  clear hbC
  refine wpAnyH_take (i := 3) (v := (.string lk)) rfl (by kernel_rfl) (by kernel_rfl) (by kernel_rfl) (fun _ _ _ h => h) (Or.inl ⟨by rfl, ?_⟩) (by assumption) ?_
  · intro w hSw
    (try dsimp only at hSw)
    go_simp
  try simp only [List.getElem_toArray]
  try simp only [List.getElem_cons_succ]
  try simp only [List.getElem_cons_zero]
  try simp only [Act.put]
  try simp only [List.setIfInBounds_toArray]
  try simp only [List.set_cons_succ]
  try simp only [List.set_cons_zero]
  refine wpAnyH_ready (rs := [4]) (by kernel_rfl) (by simp) ?_
  refine AllReadyH.cons rfl (fun K1 hK => ?_) AllReadyH.nil
  go_simp
  refine (CG.out S _ (HNU.out.below BB1.out)).mono ?_
  rintro r q2 ⟨rfl, hbC⟩
  have BB2 := hid (btE BB1.out hbC)
  go_wp2_with fail
  refine hK.out _ _ ?_ (fun hHeld => ?_)
  · exact cell_kept (by assumption) hbC
  clear hK K1
  try simp only [List.getElem_toArray]
  try simp only [List.getElem_cons_succ]
  try simp only [List.getElem_cons_zero]
  try simp only [Act.put]
  try simp only [List.setIfInBounds_toArray]
  try simp only [List.set_cons_succ]
  try simp only [List.set_cons_zero]
  clear hbC
  refine wpAnyH_take (i := 5) (v := (.tuple #[.string gs, .bool z])) rfl (by kernel_rfl) (by kernel_rfl) (by kernel_rfl) (fun _ _ _ h => h) (Or.inl ⟨by rfl, ?_⟩) (by assumption) ?_
  · intro w hSw
    (try dsimp only at hSw)
    go_simp
  try simp only [List.getElem_toArray]
  try simp only [List.getElem_cons_succ]
  try simp only [List.getElem_cons_zero]
  try simp only [Act.put]
  try simp only [List.setIfInBounds_toArray]
  try simp only [List.set_cons_succ]
  try simp only [List.set_cons_zero]
  refine wpAnyH_take (i := 6) (v := (.string gs)) rfl (by kernel_rfl) (by kernel_rfl) (by kernel_rfl) (fun _ _ _ h => h) (Or.inl ⟨by rfl, ?_⟩) (by assumption) ?_
  · intro w hSw
    (try dsimp only at hSw)
    go_simp
  try simp only [List.getElem_toArray]
  try simp only [List.getElem_cons_succ]
  try simp only [List.getElem_cons_zero]
  try simp only [Act.put]
  try simp only [List.setIfInBounds_toArray]
  try simp only [List.set_cons_succ]
  try simp only [List.set_cons_zero]
  refine wpAnyH_take (i := 7) (v := (.bool z)) rfl (by kernel_rfl) (by kernel_rfl) (by kernel_rfl) (fun _ _ _ h => h) (Or.inl ⟨by rfl, ?_⟩) (by assumption) ?_
  · intro w hSw
    (try dsimp only at hSw)
    go_simp
  try simp only [List.getElem_toArray]
  try simp only [List.getElem_cons_succ]
  try simp only [List.getElem_cons_zero]
  try simp only [Act.put]
  try simp only [List.setIfInBounds_toArray]
  try simp only [List.set_cons_succ]
  try simp only [List.set_cons_zero]
  refine wpAnyH_take (i := 8) (v := (.string gs)) rfl (by kernel_rfl) (by kernel_rfl) (by kernel_rfl) (fun _ _ _ h => h) (Or.inl ⟨by rfl, ?_⟩) (by assumption) ?_
  · intro w hSw
    (try dsimp only at hSw)
    go_simp
  try simp only [List.getElem_toArray]
  try simp only [List.getElem_cons_succ]
  try simp only [List.getElem_cons_zero]
  try simp only [Act.put]
  try simp only [List.setIfInBounds_toArray]
  try simp only [List.set_cons_succ]
  try simp only [List.set_cons_zero]
  refine wpAnyH_take (i := 9) (v := (.bool z)) rfl (by kernel_rfl) (by kernel_rfl) (by kernel_rfl) (fun _ _ _ h => h) (Or.inl ⟨by rfl, ?_⟩) (by assumption) ?_
  · intro w hSw
    (try dsimp only at hSw)
    go_simp
  try simp only [List.getElem_toArray]
  try simp only [List.getElem_cons_succ]
  try simp only [List.getElem_cons_zero]
  try simp only [Act.put]
  try simp only [List.setIfInBounds_toArray]
  try simp only [List.set_cons_succ]
  try simp only [List.set_cons_zero]
  refine wpAnyH_done (by kernel_rfl) ?_ _
  refine NoPanic.normal ?_
  have J2 := hid (J0.out.below BB2.out)
  have B2 := hid (btE B0.out BB2.out)
  clear J0 K0 B0 hk0 HNU
  go_wp2_with fail
  refine (CT.out _).mono ?_
  rintro r q3 ⟨rfl, hbC⟩
  have J3 := hid (J2.out.below hbC)
  have B3 := hid (btE B2.out hbC)
  clear hbC J2 B2
  have hlt : w.heap.size + 1 < q3.heap.size := J3.out.lt
  have d1 : ¬ w.heap.size + 1 = q3.heap.size := by omega
  have d2 : ¬ q3.heap.size = w.heap.size + 1 := by omega
  have z0 := J3.out.cell (j := 0) rfl
  have z1 := J3.out.cell (j := 1) rfl
  have z2 := J3.out.cell (j := 2) rfl
  have f0 := J3.out.free 0
  have f1 := J3.out.free 1
  have f2 := J3.out.free 2
  by_cases hall : z = true ∧ zi = true ∧ ¬ c < 0
  · obtain ⟨rfl, rfl, hc⟩ := hall
    rw [if_neg hc] at HV
    go_wp2
    try simp only [Exit.inBlock, Exit.then]
    refine bodyPost_ret (v := .agg #[.int .i64 xc, .int .i64 xe, .int .i64 xn]) ?_ rfl ?_
    · exact results_tx rfl _ _ (w.heap.size + 1) rfl (by go_simp) (by go_simp) (by go_simp)
    · refine ⟨by rw [HV.out], ?_⟩
      exact Below.alloc (Below.setCell (p := ⟨w.heap.size + 1, 2, none⟩) (Below.setCell (p := ⟨w.heap.size + 1, 1, none⟩) (Below.setCell (p := ⟨w.heap.size + 1, 0, none⟩) B3.out (Nat.le_succ _) _) (Nat.le_succ _) _) (Nat.le_succ _) _) (by simp; omega) _
  · have HZ : Hid (lastV ns c = (0, 0, 0)) := by
      show _ = _
      rw [HV.out]
      by_cases hc : c < 0
      · rw [if_pos hc]
      · rw [if_neg hc]
        cases z with
        | false => exact HNO.out rfl
        | true =>
          cases zi with
          | false => exact HNN.out rfl
          | true => exact absurd ⟨rfl, rfl, hc⟩ hall
    clear HV HNO HNN
    have HV := HZ
    clear HZ
    cases z with
    | false =>
      clear hall
      go_wp2
      try simp only [Exit.inBlock, Exit.then]
      refine bodyPost_ret (v := .agg #[.int .i64 0, .int .i64 0, .int .i64 0]) ?_ rfl ?_
      · exact results_tx rfl _ _ (w.heap.size + 1) rfl (by go_simp) (by go_simp) (by go_simp)
      · refine ⟨by rw [HV.out], ?_⟩
        exact Below.alloc (Below.setCell (p := ⟨w.heap.size + 1, 2, none⟩) (Below.setCell (p := ⟨w.heap.size + 1, 1, none⟩) (Below.setCell (p := ⟨w.heap.size + 1, 0, none⟩) B3.out (Nat.le_succ _) _) (Nat.le_succ _) _) (Nat.le_succ _) _) (by simp; omega) _
    | true =>
      cases zi with
      | false =>
        clear hall
        go_wp2
        try simp only [Exit.inBlock, Exit.then]
        refine bodyPost_ret (v := .agg #[.int .i64 0, .int .i64 0, .int .i64 0]) ?_ rfl ?_
        · exact results_tx rfl _ _ (w.heap.size + 1) rfl (by go_simp) (by go_simp) (by go_simp)
        · refine ⟨by rw [HV.out], ?_⟩
          exact Below.alloc (Below.setCell (p := ⟨w.heap.size + 1, 2, none⟩) (Below.setCell (p := ⟨w.heap.size + 1, 1, none⟩) (Below.setCell (p := ⟨w.heap.size + 1, 0, none⟩) B3.out (Nat.le_succ _) _) (Nat.le_succ _) _) (Nat.le_succ _) _) (by simp; omega) _
      | true =>
        have hc : c < 0 := by
          by_cases hc : c < 0
          · exact hc
          · exact absurd ⟨rfl, rfl, hc⟩ hall
        clear hall
        go_wp2
        try simp only [Exit.inBlock, Exit.then]
        refine bodyPost_ret (v := .agg #[.int .i64 0, .int .i64 0, .int .i64 0]) ?_ rfl ?_
        · exact results_tx rfl _ _ (w.heap.size + 1) rfl (by go_simp) (by go_simp) (by go_simp)
        · refine ⟨by rw [HV.out], ?_⟩
          exact Below.alloc (Below.setCell (p := ⟨w.heap.size + 1, 2, none⟩) (Below.setCell (p := ⟨w.heap.size + 1, 1, none⟩) (Below.setCell (p := ⟨w.heap.size + 1, 0, none⟩) B3.out (Nat.le_succ _) _) (Nat.le_succ _) _) (Nat.le_succ _) _) (by simp; omega) _
end Go.Proofs.YtgnjknbgahickacGreatDoor
/-
  Nodes and trees held against each other.
-/
namespace Go.Proofs.YtgnjknbgahickacGreatDoor
open Go.RowKit
set_option maxHeartbeats 2000000 in
theorem eqNode_any (S S' : Nat → Prop) (ap ax ai ap' ax' ai' : Option Addr) (np cp nx cx ni ci np' cp' nx' cx' ni' ci' : Nat) (x y : NB) (w : World)
    (hP : Pr w S (.slice ap np cp) x.ps) (hS : Sr w S (.slice ax nx cx) x.keys) (hI : Ir w S (.slice ai ni ci) x.kids) (hP' : Pr w S' (.slice ap' np' cp') y.ps) (hS' : Sr w S' (.slice ax' nx' cx') y.keys) (hI' : Ir w S' (.slice ai' ni' ci') y.kids) :
    Calls Tryz.prog 64 #[.agg #[.slice ap np cp, .slice ax nx cx, .slice ai ni ci], .agg #[.slice ap' np' cp', .slice ax' nx' cx', .slice ai' ni' ci']] w fun e w' => e = .returned (.bool (decide (x = y))) ∧ Below w.heap.size w w' := by
  have HP := hid hP
  have HS := hid hS
  have HI := hid hI
  have HP' := hid hP'
  have HS' := hid hS'
  have HI' := hid hI'
  clear hP hS hI hP' hS' hI'
  have HB0 : Hid (Below w.heap.size w ((w.alloc (.cells #[.slice ap np cp, .slice ax nx cx, .slice ai ni ci] 104)).alloc (.cells #[.slice ap' np' cp', .slice ax' nx' cx', .slice ai' ni' ci'] 104))) := below_new (below_new (Below.refl _ _))
  have KA : Hid (Bk ((w.alloc (.cells #[.slice ap np cp, .slice ax nx cx, .slice ai ni ci] 104)).alloc (.cells #[.slice ap' np' cp', .slice ax' nx' cx', .slice ai' ni' ci'] 104)) w.heap.size 104 [.slice ap np cp, .slice ax nx cx, .slice ai ni ci]) := (Bk.new w 104 [.slice ap np cp, .slice ax nx cx, .slice ai ni ci]).alloc _
  have KB : Hid (Bk ((w.alloc (.cells #[.slice ap np cp, .slice ax nx cx, .slice ai ni ci] 104)).alloc (.cells #[.slice ap' np' cp', .slice ax' nx' cx', .slice ai' ni' ci'] 104)) (w.heap.size + 1) 104 [.slice ap' np' cp', .slice ax' nx' cx', .slice ai' ni' ci']) := by
    have := Bk.new (w.alloc (.cells #[.slice ap np cp, .slice ax nx cx, .slice ai ni ci] 104)) 104 [.slice ap' np' cp', .slice ax' nx' cx', .slice ai' ni' ci']
    show Bk _ _ _ _
    simpa using this
  go_enter Tryz.func64, Tryz.ntmps64
  go_wp2_with fail
  refine (eqPairS_at S S' ap ap' np np' cp cp' x.ps y.ps _ (HP.out.below HB0.out) (HP'.out.below HB0.out)).mono ?_
  generalize (w.alloc (.cells #[.slice ap np cp, .slice ax nx cx, .slice ai ni ci] 104)).alloc (.cells #[.slice ap' np' cp', .slice ax' nx' cx', .slice ai' ni' ci'] 104) = W at *
  rintro e w1 ⟨rfl, hb1⟩
  have HB1 := hid (HB0.out.trans (hb1.mono HB0.out.size))
  have KA1 := hid (KA.out.below hb1)
  have KB1 := hid (KB.out.below hb1)
  clear hb1 HB0 KA KB
  by_cases h1 : x.ps = y.ps
  · rw [decide_eq_true h1]
    have HH1 := hid h1
    clear h1
    have c0 := KA1.out.cell (j := 1) rfl
    have d0 := KB1.out.cell (j := 1) rfl
    go_wp2_with fail
    refine (eqStringS_at S S' ax ax' nx nx' cx cx' x.keys y.keys _ (HS.out.below HB1.out) (HS'.out.below HB1.out)).mono ?_
    rintro e w2 ⟨rfl, hb2⟩
    have HB2 := hid (HB1.out.trans (hb2.mono HB1.out.size))
    have KA2 := hid (KA1.out.below hb2)
    have KB2 := hid (KB1.out.below hb2)
    clear hb2 HB1 KA1 KB1 c0 d0
    by_cases h2 : x.keys = y.keys
    · rw [decide_eq_true h2]
      have HH2 := hid h2
      clear h2
      have c0 := KA2.out.cell (j := 2) rfl
      have d0 := KB2.out.cell (j := 2) rfl
      go_wp2_with fail
      refine (eqIntS_at S S' ai ai' ni ni' ci ci' x.kids y.kids _ (HI.out.below HB2.out) (HI'.out.below HB2.out)).mono ?_
      rintro e w3 ⟨rfl, hb3⟩
      have HB3 := hid (HB2.out.trans (hb3.mono HB2.out.size))
      clear hb3 HB2 KA2 KB2 c0 d0
      by_cases h3 : x.kids = y.kids
      · rw [decide_eq_true h3]
        have HF : Hid (decide (x = y) = true) := by
          show _ = _
          rw [decide_eq_true_eq]
          have e1 := HH1.out
          have e2 := HH2.out
          cases x; cases y; simp_all
        clear h3
        go_wp2
        go_ret
        exact ⟨by rw [HF.out]; rfl, HB3.out⟩
      · rw [decide_eq_false h3]
        have HF : Hid (decide (x = y) = false) := by
          show _ = _
          rw [decide_eq_false_iff_not]
          rintro rfl
          exact h3 rfl
        clear h3
        go_wp2
        go_ret
        exact ⟨by rw [HF.out]; rfl, HB3.out⟩
    · rw [decide_eq_false h2]
      have HF : Hid (decide (x = y) = false) := by
        show _ = _
        rw [decide_eq_false_iff_not]
        rintro rfl
        exact h2 rfl
      clear h2
      go_wp2
      go_ret
      exact ⟨by rw [HF.out]; rfl, HB2.out⟩
  · rw [decide_eq_false h1]
    have HF : Hid (decide (x = y) = false) := by
      show _ = _
      rw [decide_eq_false_iff_not]
      rintro rfl
      exact h1 rfl
    clear h1
    go_wp2
    go_ret
    exact ⟨by rw [HF.out]; rfl, HB1.out⟩
set_option maxHeartbeats 4000000 in
theorem eqNodeS_at (S S' : Nat → Prop) (a a' : Option Addr) (n n' c c' : Nat) (l l' : List NB) (w : World) (h : Nr w S (.slice a n c) l) (h' : Nr w S' (.slice a' n' c') l') :
    Calls Tryz.prog 33 #[.slice a n c, .slice a' n' c'] w fun e w' => e = .returned (.bool (decide (l = l'))) ∧ Below w.heap.size w w' := by
  obtain ⟨hn, hnc, hcc⟩ := h.len
  obtain ⟨hn', hnc', hcc'⟩ := h'.len
  have HN := hid hn
  have HN' := hid hn'
  have H0 := hid h
  have H0' := hid h'
  clear h h' hn hn'
  by_cases hne : n = n'
  · subst hne
    have hz : ((n : Int) != (n : Int)) = false := by simp
    go_enter Tryz.func33, Tryz.ntmps33
    go_wp2
    go_loopw [5] (fun i wr => ∃ k : Nat, k ≤ n ∧ i = .int .i64 k ∧ Hid (Below w.heap.size w wr) ∧ Hid (l.take k = l'.take k)) (fun i _ => n - (intOf i).toNat)
    case atStart => exact ⟨0, Nat.zero_le _, rfl, Below.refl _ _, rfl⟩
    case round =>
      obtain ⟨k, hk, rfl, HB, HT⟩ := hrel
      by_cases hlt : k < n
      · have hlt' : (k : Int) < (n : Int) := by omega
        have HP := hid (H0.out.below HB.out)
        have HP' := hid (H0'.out.below HB.out)
        obtain ⟨b, off, rfl, _, hbw, hcell⟩ := HP.out.at (by omega)
        obtain ⟨b', off', rfl, _, hbw', hcell'⟩ := HP'.out.at (by omega)
        obtain ⟨ap, np, cp, ax, nx, cx, ai, ni, ci, c0, c1, c2, hp, hx, hi⟩ := hcell k hlt
        obtain ⟨ap', np', cp', ax', nx', cx', ai', ni', ci', d0, d1, d2, hp', hx', hi'⟩ := hcell' k hlt
        have HC : Hid (∀ v, Below wr.heap.size wr v → Calls Tryz.prog 64 #[.agg #[.slice ap np cp, .slice ax nx cx, .slice ai ni ci], .agg #[.slice ap' np' cp', .slice ax' nx' cx', .slice ai' ni' ci']] v fun e w' => e = .returned (.bool (decide (nAt l k = nAt l' k))) ∧ Below v.heap.size v w') := fun v hv =>
          eqNode_any S S' ap ax ai ap' ax' ai' np cp nx cx ni ci np' cp' nx' cx' ni' ci' (nAt l k) (nAt l' k) v (hp.below hv) (hx.below hv) (hi.below hv) (hp'.below hv) (hx'.below hv) (hi'.below hv)
        have HS : Hid (nAt l k = nAt l' k → l.take (k + 1) = l'.take (k + 1)) := by
          intro e
          have hl : k < l.length := by rw [← HN.out]; exact hlt
          have hl' : k < l'.length := by rw [← HN'.out]; exact hlt
          rw [List.take_succ_eq_append_getElem hl, List.take_succ_eq_append_getElem hl', HT.out]
          simp [nAt, hl, hl'] at e
          rw [e]
        have HF : Hid (nAt l k ≠ nAt l' k → decide (l = l') = false) := by
          intro e
          rw [decide_eq_false_iff_not]
          intro e'
          exact e (by rw [e'])
        have T0 := hid (kc0_6 c0 c1 c2 d0 d1 d2)
        clear hcell hcell' hbw hbw' HP HP' HT hp hx hi hp' hx' hi' c0 c1 c2 d0 d1 d2
        generalize nAt l k = cx1 at *
        generalize nAt l' k = cx2 at *
        by_cases he : cx1 = cx2
        · have HS1 := hid (HS.out he)
          rw [decide_eq_true he] at HC
          clear he HS HF
          go_wp2_with fail
          go_region_held3 (fun v => v.cell? ⟨b, off + k * 3, none⟩ = some (.slice ap np cp) ∧ v.cell? ⟨b, off + k * 3 + 1, none⟩ = some (.slice ax nx cx) ∧ v.cell? ⟨b, off + k * 3 + 2, none⟩ = some (.slice ai ni ci) ∧ v.cell? ⟨b', off' + k * 3, none⟩ = some (.slice ap' np' cp') ∧ v.cell? ⟨b', off' + k * 3 + 1, none⟩ = some (.slice ax' nx' cx') ∧ v.cell? ⟨b', off' + k * 3 + 2, none⟩ = some (.slice ai' ni' ci') ∧ KC wr v [(⟨b, off + k * 3, none⟩, .slice ap np cp), (⟨b, off + k * 3 + 1, none⟩, .slice ax nx cx), (⟨b, off + k * 3 + 2, none⟩, .slice ai ni ci), (⟨b', off' + k * 3, none⟩, .slice ap' np' cp'), (⟨b', off' + k * 3 + 1, none⟩, .slice ax' nx' cx'), (⟨b', off' + k * 3 + 2, none⟩, .slice ai' ni' ci')])
            (first | assumption | exact kc6 (T0.out.call (below_drew _)) | exact kc6c hbC (by assumption))
            (first | (go_at_call 64; refine (HC.out _ (KC.bel (by first | exact (by assumption : _ ∧ _ ∧ _ ∧ _ ∧ _ ∧ _ ∧ _).2.2.2.2.2.2))).mono ?_; rintro e w' ⟨rfl, hbC⟩))
          all_goals (rename_i hS; have HB1 := hid (Below.then' HB.out hS.2.2.2.2.2.2.bel (Nat.le_refl _)); clear hS; go_wp2)
          go_roundw
          case rel => exact ⟨k + 1, by omega, by go_num, HB1.out, HS1.out⟩
          case measure => simp [intOf]; omega
        · have HF1 := hid (HF.out he)
          rw [decide_eq_false he] at HC
          clear he HS HF
          go_wp2_with fail
          go_region_held3 (fun v => v.cell? ⟨b, off + k * 3, none⟩ = some (.slice ap np cp) ∧ v.cell? ⟨b, off + k * 3 + 1, none⟩ = some (.slice ax nx cx) ∧ v.cell? ⟨b, off + k * 3 + 2, none⟩ = some (.slice ai ni ci) ∧ v.cell? ⟨b', off' + k * 3, none⟩ = some (.slice ap' np' cp') ∧ v.cell? ⟨b', off' + k * 3 + 1, none⟩ = some (.slice ax' nx' cx') ∧ v.cell? ⟨b', off' + k * 3 + 2, none⟩ = some (.slice ai' ni' ci') ∧ KC wr v [(⟨b, off + k * 3, none⟩, .slice ap np cp), (⟨b, off + k * 3 + 1, none⟩, .slice ax nx cx), (⟨b, off + k * 3 + 2, none⟩, .slice ai ni ci), (⟨b', off' + k * 3, none⟩, .slice ap' np' cp'), (⟨b', off' + k * 3 + 1, none⟩, .slice ax' nx' cx'), (⟨b', off' + k * 3 + 2, none⟩, .slice ai' ni' ci')])
            (first | assumption | exact kc6 (T0.out.call (below_drew _)) | exact kc6c hbC (by assumption))
            (first | (go_at_call 64; refine (HC.out _ (KC.bel (by first | exact (by assumption : _ ∧ _ ∧ _ ∧ _ ∧ _ ∧ _ ∧ _).2.2.2.2.2.2))).mono ?_; rintro e w' ⟨rfl, hbC⟩))
          all_goals (rename_i hS; have HB1 := hid (Below.then' HB.out hS.2.2.2.2.2.2.bel (Nat.le_refl _)); clear hS; go_wp2)
          go_ret
          exact ⟨by rw [HF1.out]; rfl, HB1.out⟩
      · have HF : Hid (decide (l = l') = true) := by
          show decide (l = l') = true
          have hk' : k = n := by omega
          have e := HT.out
          have e1 : l.length ≤ k := by rw [← HN.out]; omega
          have e2 : l'.length ≤ k := by rw [← HN'.out]; omega
          rw [List.take_of_length_le e1, List.take_of_length_le e2] at e
          simp [e]
        clear HT
        go_wp2
        go_ret
        exact ⟨by rw [HF.out]; rfl, HB.out⟩
  · have hz : ((n : Int) != (n' : Int)) = true := by simp; omega
    have HF : Hid (decide (l = l') = false) := by
      show decide (l = l') = false
      rw [decide_eq_false_iff_not]
      intro e
      exact hne (by rw [HN.out, HN'.out, e])
    clear hne
    go_enter Tryz.func33, Tryz.ntmps33
    go_wp2
    go_ret
    exact ⟨by rw [HF.out]; rfl, Below.refl _ _⟩
set_option maxHeartbeats 2000000 in
theorem eqTree_at (S S' : Nat → Prop) (a a' : Option Addr) (n n' c c' : Nat) (l l' : List NB) (w : World) (h : Nr w S (.slice a n c) l) (h' : Nr w S' (.slice a' n' c') l') :
    Calls Tryz.prog 11 #[.agg #[.slice a n c], .agg #[.slice a' n' c']] w fun e w' => e = .returned (.bool (decide (l = l'))) ∧ Below w.heap.size w w' := by
  have H0 := hid h
  have H0' := hid h'
  clear h h'
  have HB0 : Hid (Below w.heap.size w ((w.alloc (.cells #[.slice a n c] 30)).alloc (.cells #[.slice a' n' c'] 30))) := below_new (below_new (Below.refl _ _))
  go_enter Tryz.func11, Tryz.ntmps11
  go_wp2_with fail
  refine (eqNodeS_at S S' a a' n n' c c' l l' _ (H0.out.below HB0.out) (H0'.out.below HB0.out)).mono ?_
  rintro e w1 ⟨rfl, hb1⟩
  have HB1 := hid (HB0.out.trans (hb1.mono HB0.out.size))
  clear hb1 HB0
  by_cases he : l = l'
  · have HE := hid (decide_eq_true he)
    rw [decide_eq_true he]
    clear he
    go_wp2
    go_ret
    exact ⟨by rw [HE.out]; rfl, HB1.out⟩
  · have HE := hid (decide_eq_false he)
    rw [decide_eq_false he]
    clear he
    go_wp2
    go_ret
    exact ⟨by rw [HE.out]; rfl, HB1.out⟩
end Go.Proofs.YtgnjknbgahickacGreatDoor
