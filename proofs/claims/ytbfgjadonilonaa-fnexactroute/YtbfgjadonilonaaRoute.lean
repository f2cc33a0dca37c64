/-
  The shard of a key: what Route answers, the program's and the specification's.
-/
import Derived.Test.YtbfgjadonilonaaPart
import Derived.Test.YtbfgjadonilonaaRng2
namespace Go.Proofs.Ytbfgjadonilonaa
open Go.RowKit
abbrev at' (ss : List ByteArray) (i : Nat) : ByteArray := ss[i]?.getD ⟨#[]⟩
/-- How many of the splits from place j on aren't above k, up to the first that is. -/
def cntF (ss : List ByteArray) (k : ByteArray) : Nat → Nat → Nat
  | 0, j => j
  | f + 1, j => if Op.bytesLess k.toList (ss[j]?.getD ⟨#[]⟩).toList then j else cntF ss k f (j + 1)
def rt (ss : List ByteArray) (k : ByteArray) : Int := if sOk ss && kOk k then (cntF ss k ss.length 0 : Nat) else -1
theorem sOkF_at (ss : List ByteArray) : ∀ (f k : Nat), sOkF ss f k = true → ∀ i, k ≤ i → i < k + f → kOk (ss[i]?.getD ⟨#[]⟩) = true ∧ (i = 0 ∨ Op.bytesLess (ss[i - 1]?.getD ⟨#[]⟩).toList (ss[i]?.getD ⟨#[]⟩).toList = true) := by
  intro f
  induction f with
  | zero => intro k _ i h1 h2; omega
  | succ f ih =>
    intro k h i h1 h2
    simp only [sOkF, Bool.and_eq_true, Bool.or_eq_true, decide_eq_true_eq] at h
    by_cases e : i = k
    · subst e; exact ⟨h.1.1, h.1.2⟩
    · exact ih (k + 1) h.2 i (by omega) (by omega)
theorem sOk_at {ss : List ByteArray} (h : sOk ss = true) (i : Nat) (hi : i < ss.length) : kOk (ss[i]?.getD ⟨#[]⟩) = true ∧ (i = 0 ∨ Op.bytesLess (ss[i - 1]?.getD ⟨#[]⟩).toList (ss[i]?.getD ⟨#[]⟩).toList = true) := by
  simp only [sOk, Bool.and_eq_true] at h
  exact sOkF_at ss _ 0 h.2 i (by omega) (by omega)
theorem kOk_ne {k : ByteArray} (h : kOk k = true) : ¬ k.toList = [] := by
  intro e
  have := str_empty e
  simp [kOk, this] at h
theorem kOk_le {k : ByteArray} (h : kOk k = true) : k.size ≤ 17 := by simp [kOk] at h; omega
/-- The range of shard i has k just where the split at i is above k, if those ahead aren't. -/
theorem part_has {ss : List ByteArray} {k : ByteArray} (hs : sOk ss = true) (hk : kOk k = true) (i : Nat) (hi : i ≤ ss.length) (hp : i = 0 ∨ Op.bytesLess k.toList (ss[i - 1]?.getD ⟨#[]⟩).toList = false) :
    pOk ss i = true ∧ rHas (pLo ss i) (pHi ss i) k = (decide (i = ss.length) || Op.bytesLess k.toList (ss[i]?.getD ⟨#[]⟩).toList) := by
  have h1 : pOk ss i = true := by simp [pOk, hs, hi]
  refine ⟨h1, ?_⟩
  have hlo : pLo ss i = if i = 0 then ⟨#[]⟩ else ss[i - 1]?.getD ⟨#[]⟩ := by
    unfold pLo; rw [if_pos h1]; by_cases e : i = 0 <;> simp [e]
  have hhi : pHi ss i = ss[i]?.getD ⟨#[]⟩ := by unfold pHi; rw [if_pos h1]; simp
  rw [hlo, hhi]
  have hlk : Op.bytesLess k.toList (if i = 0 then (⟨#[]⟩ : ByteArray) else ss[i - 1]?.getD ⟨#[]⟩).toList = false := by
    by_cases e : i = 0
    · rw [if_pos e, show (⟨#[]⟩ : ByteArray).toList = [] by rw [ByteArray.toList_eq]]; exact less_nil _
    · rw [if_neg e]; exact hp.resolve_left e
  have hls : (if i = 0 then (⟨#[]⟩ : ByteArray) else ss[i - 1]?.getD ⟨#[]⟩).size ≤ 17 := by
    by_cases e : i = 0
    · rw [if_pos e]; decide
    · rw [if_neg e]; exact kOk_le (sOk_at hs (i - 1) (by omega)).1
  by_cases e : i = ss.length
  · have hn : ss[i]?.getD ⟨#[]⟩ = ⟨#[]⟩ := by rw [List.getElem?_eq_none (by omega)]; rfl
    have hz : (⟨#[]⟩ : ByteArray).toList = [] := by rw [ByteArray.toList_eq]
    have hz2 : (⟨#[]⟩ : ByteArray).size ≤ 17 := by decide
    rw [hn, decide_eq_true e]
    generalize (if i = 0 then (⟨#[]⟩ : ByteArray) else ss[i - 1]?.getD ⟨#[]⟩) = lo at hlk hls
    simp [rHas, rOk, hk, hlk, ahd, hz, hls, hz2]
  · obtain ⟨g1, g2⟩ := sOk_at hs i (by omega)
    have hne := kOk_ne g1
    have hll : Op.bytesLess (if i = 0 then (⟨#[]⟩ : ByteArray) else ss[i - 1]?.getD ⟨#[]⟩).toList (ss[i]?.getD ⟨#[]⟩).toList = true := by
      by_cases e0 : i = 0
      · rw [if_pos e0, show (⟨#[]⟩ : ByteArray).toList = [] by rw [ByteArray.toList_eq]]; exact nil_less _ hne
      · rw [if_neg e0]; exact g2.resolve_left e0
    rw [decide_eq_false e]
    generalize (if i = 0 then (⟨#[]⟩ : ByteArray) else ss[i - 1]?.getD ⟨#[]⟩) = lo at hlk hls hll
    simp [rHas, rOk, hk, hlk, ahd, hls, kOk_le g1, hll, hne]
theorem part_not {ss : List ByteArray} {k : ByteArray} (h : (sOk ss && kOk k) = false) (i : Int) : (pOk ss i && rHas (pLo ss i) (pHi ss i) k) = false := by
  cases h1 : sOk ss with
  | false => simp [pOk, h1]
  | true =>
    have : kOk k = false := by simpa [h1] using h
    simp [rHas, this]
set_option maxHeartbeats 4000000 in
theorem implRoute_any (a : Option Addr) (n c : Nat) (ss : List ByteArray) (k : ByteArray) (w : World) (h : Sd w a n c ss) :
    Calls Try.prog 14 #[.slice a n c, .string k] w fun e w' => e = .returned (.int .i64 (rt ss k)) ∧ Below w.heap.size w w' := by
  have HN : Hid (n = ss.length) := h.1
  have H0 := hid h
  clear h
  go_enter Try.func14, Try.ntmps14
  go_wp2_with fail
  refine (implSplitsOk_any a n c ss _ H0.out).mono ?_
  rintro e v ⟨rfl, hb1⟩
  cases h1 : sOk ss
  · have HR : Hid (rt ss k = -1) := by show rt ss k = -1; simp [rt, h1]
    go_wp2
    go_ret
    exact ⟨by rw [HR.out]; rfl, hb1⟩
  · go_wp2_with fail
    refine (implKeyOk_any k _).mono ?_
    rintro e v' ⟨rfl, rfl⟩
    cases h2 : kOk k
    · have HR : Hid (rt ss k = -1) := by show rt ss k = -1; simp [rt, h2]
      go_wp2
      go_ret
      exact ⟨by rw [HR.out]; rfl, hb1⟩
    · have HR : Hid (rt ss k = (cntF ss k n 0 : Nat)) := by show rt ss k = (cntF ss k n 0 : Nat); rw [HN.out]; simp [rt, h1, h2]
      have H1 := hid (H0.out.kept hb1)
      have HB := hid hb1
      have hcm := H1.out.2.2.1
      have hnc := H1.out.2.1
      clear hb1 H0
      go_wp2_with fail
      go_loopw [5] (fun i wr => ∃ j q : Nat, j ≤ n ∧ i = .int .i64 j ∧ wr = v.drewN q ∧ Hid (cntF ss k (n - j) j = cntF ss k n 0)) (fun i _ => n - (intOf i).toNat)
      case atStart => exact ⟨0, 0, Nat.zero_le _, rfl, rfl, rfl⟩
      case round =>
        obtain ⟨j, q, hj, rfl, rfl, HS⟩ := hrel
        by_cases hlt : j < n
        · obtain ⟨b, off, ha, hbw, hcell⟩ := H1.out.2.2.2.2 (by omega)
          have hcj := hcell j hlt
          have hlt' : (j : Int) < (n : Int) := by omega
          have e1 : n - j = (n - (j + 1)) + 1 := by omega
          rw [e1] at HS
          have HC : Hid (cntF ss k ((n - (j + 1)) + 1) j = if Op.bytesLess k.toList (ss[j]?.getD ⟨#[]⟩).toList then j else cntF ss k (n - (j + 1)) (j + 1)) := rfl
          clear hcell e1
          rw [ha]
          generalize ss[j]?.getD ⟨#[]⟩ = s at *
          rcases tri s k with ⟨t1, t2, t3, t4⟩ | rfl | ⟨t1, t2, t3, t4⟩
          · have HZ : Hid (cntF ss k (n - (j + 1)) (j + 1) = cntF ss k n 0) := by show cntF ss k (n - (j + 1)) (j + 1) = cntF ss k n 0; rw [← HS.out, HC.out, t2]; rfl
            go_wp2
            go_roundw
            case rel => exact ⟨j + 1, q, by omega, by go_num, by trivial, HZ⟩
            case measure => simp [intOf]; omega
          · have t2 := less_irrefl s.toList
            have HZ : Hid (cntF ss s (n - (j + 1)) (j + 1) = cntF ss s n 0) := by show cntF ss s (n - (j + 1)) (j + 1) = cntF ss s n 0; rw [← HS.out, HC.out, t2]; rfl
            go_wp2
            go_roundw
            case rel => exact ⟨j + 1, q, by omega, by go_num, by trivial, HZ⟩
            case measure => simp [intOf]; omega
          · have HZ : Hid (cntF ss k n 0 = j) := by show cntF ss k n 0 = j; rw [← HS.out, HC.out, t2]; rfl
            go_wp2
            go_ret
            exact ⟨by rw [HR.out, HZ.out]; rfl, Below.drewN' HB.out q⟩
        · have hj' : j = n := by omega
          have HZ : Hid (cntF ss k n 0 = j) := by show cntF ss k n 0 = j; rw [← HS.out, hj', Nat.sub_self]; rfl
          clear hj'
          go_wp2
          go_ret
          exact ⟨by rw [HR.out, HZ.out]; rfl, Below.drewN' HB.out q⟩
theorem thn' {u v v' : World} (h : Below u.heap.size u v) (k : Below v.heap.size v v') : Below u.heap.size u v' := h.trans (k.mono h.size)
/-- Where shard j hasn't k, one goes on. -/
theorem route_more {ss : List ByteArray} {k : ByteArray} {n j : Nat} (hn : n = ss.length) (hle : j ≤ n) (h : j ≤ n ∧ cntF ss k (n - j) j = cntF ss k n 0 ∧ (j = 0 ∨ Op.bytesLess k.toList (ss[j - 1]?.getD ⟨#[]⟩).toList = false)) (hs : sOk ss = true) (hk : kOk k = true) :
    pOk ss j = true ∧ (rHas (pLo ss j) (pHi ss j) k = false → j + 1 ≤ n ∧ cntF ss k (n - (j + 1)) (j + 1) = cntF ss k n 0 ∧ (j + 1 = 0 ∨ Op.bytesLess k.toList (ss[j + 1 - 1]?.getD ⟨#[]⟩).toList = false)) := by
  obtain ⟨h1, h2⟩ := part_has hs hk j (by omega) h.2.2
  refine ⟨h1, fun h3 => ?_⟩
  rw [h2] at h3
  simp only [Bool.or_eq_false_iff, decide_eq_false_iff_not] at h3
  have hlt : j + 1 ≤ n := by omega
  refine ⟨hlt, ?_, .inr (by rw [Nat.add_sub_cancel]; exact h3.2)⟩
  rw [← h.2.1, show n - j = (n - (j + 1)) + 1 by omega]
  simp only [cntF, h3.2]
  rfl
theorem route_here {ss : List ByteArray} {k : ByteArray} {n j : Nat} (hn : n = ss.length) (hle : j ≤ n) (hv : (sOk ss && kOk k) = true → j ≤ n ∧ cntF ss k (n - j) j = cntF ss k n 0 ∧ (j = 0 ∨ Op.bytesLess k.toList (ss[j - 1]?.getD ⟨#[]⟩).toList = false))
    (hh : (pOk ss j && rHas (pLo ss j) (pHi ss j) k) = true) : rt ss k = j := by
  cases hv2 : (sOk ss && kOk k) with
  | false => rw [part_not hv2] at hh; cases hh
  | true =>
    have hs : sOk ss = true ∧ kOk k = true := by simpa using hv2
    have h := hv hv2
    obtain ⟨h1, h2⟩ := part_has hs.1 hs.2 j (by omega) h.2.2
    rw [h1, h2] at hh
    unfold rt
    rw [if_pos hv2, ← hn, ← h.2.1]
    simp only [Bool.true_and, Bool.or_eq_true, decide_eq_true_eq] at hh
    rcases hh with e | e
    · rw [show n - j = 0 by omega]; rfl
    · by_cases e2 : j = n
      · rw [show n - j = 0 by omega]; rfl
      · rw [show n - j = (n - (j + 1)) + 1 by omega]
        simp only [cntF, e]
        rfl
set_option maxHeartbeats 4000000 in
theorem specRoute_any (a : Option Addr) (n c : Nat) (ss : List ByteArray) (k : ByteArray) (w : World) (h : Sd w a n c ss) (hn : n ≤ 1048576) :
    Calls Try.prog 13 #[.slice a n c, .string k] w fun e w' => e = .returned (.int .i64 (rt ss k)) ∧ Below w.heap.size w w' := by
  have HN : Hid (n = ss.length) := h.1
  have H0 := hid h
  clear h
  go_enter Try.func13, Try.ntmps13
  go_wp2_with fail
  go_loopw [5] (fun i wr => ∃ j : Nat, j ≤ n + 1 ∧ i = .int .i64 j ∧ Hid (Below w.heap.size w wr) ∧ Hid ((sOk ss && kOk k) = true → j ≤ n ∧ cntF ss k (n - j) j = cntF ss k n 0 ∧ (j = 0 ∨ Op.bytesLess k.toList (ss[j - 1]?.getD ⟨#[]⟩).toList = false))) (fun i _ => n + 1 - (intOf i).toNat)
  case atStart => exact ⟨0, by omega, rfl, Below.refl _ _, fun _ => ⟨by omega, rfl, .inl rfl⟩⟩
  case round =>
    obtain ⟨j, hj, rfl, HB, HV⟩ := hrel
    by_cases hle : j ≤ n
    · have hle' : (j : Int) ≤ (n : Int) := by omega
      have HM := hid (fun (hv : (sOk ss && kOk k) = true) => route_more HN.out hle (HV.out hv) (by simpa using hv : sOk ss = true ∧ kOk k = true).1 (by simpa using hv : sOk ss = true ∧ kOk k = true).2)
      have HO := hid (route_here (k := k) HN.out hle HV.out)
      clear HV
      go_wp2_with fail
      refine (specPartOf_any a n c ss j _ (H0.out.kept HB.out) (by omega) (by omega)).mono ?_
      rintro e v1 ⟨rfl, hb1⟩
      have B1 := hid (thn' HB.out hb1)
      clear hb1
      generalize pLo ss j = X at *
      generalize pHi ss j = Y at *
      cases hok : pOk ss j
      · have HV2 : Hid ((sOk ss && kOk k) = true → j + 1 ≤ n ∧ cntF ss k (n - (j + 1)) (j + 1) = cntF ss k n 0 ∧ (j + 1 = 0 ∨ Op.bytesLess k.toList (ss[j + 1 - 1]?.getD ⟨#[]⟩).toList = false)) := fun hv => absurd ((HM.out hv).1.symm.trans hok) (by simp)
        clear HM HO
        go_wp2
        go_roundw
        case rel => exact ⟨j + 1, by omega, by go_num, thn' B1.out (below_alloc' _ _), HV2⟩
        case measure => simp [intOf]; omega
      · go_wp2_with fail
        refine (specRangeHas_any X Y k _).mono ?_
        rintro e v2 ⟨rfl, hb2⟩
        have B2 := hid (thn' (thn' B1.out (below_alloc' _ _)) hb2)
        clear hb2
        cases hh : rHas X Y k
        · have HV2 : Hid ((sOk ss && kOk k) = true → j + 1 ≤ n ∧ cntF ss k (n - (j + 1)) (j + 1) = cntF ss k n 0 ∧ (j + 1 = 0 ∨ Op.bytesLess k.toList (ss[j + 1 - 1]?.getD ⟨#[]⟩).toList = false)) := fun hv => (HM.out hv).2 hh
          clear HM HO
          go_wp2
          go_roundw
          case rel => exact ⟨j + 1, by omega, by go_num, B2.out, HV2⟩
          case measure => simp [intOf]; omega
        · have HR : Hid (rt ss k = j) := HO.out (by rw [hok, hh]; rfl)
          clear HM HO
          go_wp2
          go_ret
          exact ⟨by rw [HR.out]; rfl, B2.out⟩
    · have hle' : ¬ (j : Int) ≤ (n : Int) := by omega
      have HR : Hid (rt ss k = -1) := by
        show rt ss k = -1
        unfold rt
        rw [if_neg]
        intro hv
        have := (HV.out hv).1
        omega
      go_wp2
      go_ret
      exact ⟨by rw [HR.out]; rfl, HB.out⟩
end Go.Proofs.Ytbfgjadonilonaa
