/-
  A limb of the program: a pointer to a struct of two slices, its pairs and its kids; which blocks it has for its own.
-/
import Derived.Test.YtbaggkfgnjenoaaNodeM
import Derived.Deep.LoopGhost
namespace Go.Proofs.Ytbaggkfgnjenoaa
open Go.RowKit

def tAt (ks : List T) (i : Nat) : T := ks[i]?.getD default
def ptr (b : Nat) : Value := .pointer (some ⟨b, 0, none⟩)
def ptrs (A : Nat → Nat) (n : Nat) : List Value := (List.range n).map fun i => ptr (A i)
theorem ptrs_at (A : Nat → Nat) (n i : Nat) (h : i < n) : (ptrs A n)[i]? = some (ptr (A i)) := by simp [ptrs, h]
/-- Block b is in w the limb t; its blocks are those of S, and its kids' blocks are apart from each other and from its own. -/
inductive Limb (w : World) : (Nat → Prop) → Nat → T → Prop
  | mk (S : Nat → Prop) (b : Nat) (pv kv : Value) (ps : List PB) (ks : List T) (A : Nat → Nat) (SS : Nat → Nat → Prop)
      (hb : S b) (hB : Bk w b 173 [pv, kv])
      (hP : w.ownsRow 0 69 2 pv ps.length (pcs ps)) (hK : w.ownsRow 0 140 1 kv ks.length (ptrs A ks.length))
      (hPS : ∀ x, pv.ownBlock = some x → S x ∧ x ≠ b) (hKS : ∀ x, kv.ownBlock = some x → S x ∧ x ≠ b ∧ pv.ownBlock ≠ some x)
      (hSS : ∀ i, i < ks.length → ∀ x, SS i x → S x ∧ x ≠ b ∧ pv.ownBlock ≠ some x ∧ kv.ownBlock ≠ some x)
      (hD : ∀ i j, i < ks.length → j < ks.length → i ≠ j → ∀ x, SS i x → ¬ SS j x)
      (hk : ∀ i, i < ks.length → Limb w (SS i) (A i) (tAt ks i)) : Limb w S b (.mk ps ks)
theorem Limb.to {w w' : World} {R : Nat → Prop} (ho : Only R w w') {S : Nat → Prop} {b : Nat} {t : T} (h : Limb w S b t) : (∀ x, S x → ¬ R x) → Limb w' S b t := by
  induction h with
  | mk S b pv kv ps ks A SS hb hB hP hK hPS hKS hSS hD hk ih =>
    intro hR
    exact .mk S b pv kv ps ks A SS hb (hB.to ho (hR b hb)) (own_kept hP ho fun k e => hR k (hPS k e).1) (own_kept hK ho fun k e => hR k (hKS k e).1) hPS hKS hSS hD
      (fun i hi => ih i hi (fun x hx => hR x (hSS i hi x hx).1))
theorem Limb.mono {w : World} {S S' : Nat → Prop} {b : Nat} {t : T} (h : Limb w S b t) (hS : ∀ x, S x → S' x) : Limb w S' b t := by
  cases h with
  | mk _ _ pv kv ps ks A SS hb hB hP hK hPS hKS hSS hD hk =>
    exact .mk S' b pv kv ps ks A SS (hS b hb) hB hP hK (fun x hx => ⟨hS x (hPS x hx).1, (hPS x hx).2⟩) (fun x hx => ⟨hS x (hKS x hx).1, (hKS x hx).2⟩) (fun i hi x hx => ⟨hS x (hSS i hi x hx).1, (hSS i hi x hx).2⟩) hD hk
theorem Limb.kept {w w' : World} {S : Nat → Prop} {b : Nat} {t : T} (h : Limb w S b t) (hb : Below w.heap.size w w') : Limb w' S b t := h.to (only_of_below hb (fun _ => False)) (fun _ _ h => h)
theorem own_max {w : World} {base : Nat} {e : TypeId} {size : Nat} {v : Value} {n : Nat} {xs : List Value} (h : w.ownsRow base e size v n xs) : n ≤ maxLen := by
  rcases h.2 with ⟨rfl, rfl⟩ | ⟨g, cap, cur, rfl, _, _, h5, h6, _⟩
  · exact Nat.zero_le _
  · exact Nat.le_trans h5 h6
theorem undrew (w : World) (q : Nat) : Below (w.drewN q).heap.size (w.drewN q) w := ⟨rfl, rfl, rfl, Nat.le_refl _, fun _ _ => rfl⟩
/-- What a walk reads of a limb. -/
theorem Limb.see {w : World} {S : Nat → Prop} {b : Nat} {t : T} (h : Limb w S b t) : ∃ ap cp ak ck A, w.cell? ⟨b, 0, none⟩ = some (.slice ap t.ps.length cp) ∧ w.cell? ⟨b, 1, none⟩ = some (.slice ak t.ks.length ck) ∧
    Pr w S (.slice ap t.ps.length cp) t.ps ∧ Rw w S (.slice ak t.ks.length ck) t.ks.length (ptrs A t.ks.length) ∧ (∀ i, i < t.ks.length → ∃ S', (∀ x, S' x → S x) ∧ Limb w S' (A i) (tAt t.ks i)) ∧ t.ps.length ≤ maxLen ∧ t.ks.length ≤ maxLen := by
  cases h with
  | mk _ _ pv kv ps ks A SS hb hB hP hK hPS hKS hSS hD hk =>
    obtain ⟨ap, cp, rfl⟩ := own_shape hP
    obtain ⟨ak, ck, rfl⟩ := own_shape hK
    exact ⟨ap, cp, ak, ck, A, hB.cell (j := 0) rfl, hB.cell (j := 1) rfl, rw_own hP (fun k e _ _ => (hPS k e).1), rw_own hK (fun k e _ _ => (hKS k e).1), fun i hi => ⟨SS i, fun x hx => (hSS i hi x hx).1, hk i hi⟩, own_max hP, own_max hK⟩
theorem Limb.lt {w : World} {S : Nat → Prop} {b : Nat} {t : T} (h : Limb w S b t) : b < w.heap.size ∧ S b := by
  cases h with
  | mk _ _ pv kv ps ks A SS hb hB _ _ _ _ _ _ _ => exact ⟨hB.lt, hb⟩
theorem isLeaf_any (S : Nat → Prop) (b : Nat) (t : T) (w : World) (h : Limb w S b t) : Calls Try.prog 164 #[.pointer (some ⟨b, 0, none⟩)] w fun e w' => e = .returned (.bool (decide (t.ks.length = 0))) ∧ w' = w := by
  obtain ⟨ap, cp, ak, ck, A, c0, c1, _, _, _, _, _⟩ := h.see
  clear h
  generalize t.ks.length = n at *
  by_cases hn : n = 0
  · subst hn
    go_enter Try.func164, Try.ntmps164
    go_wp2
    go_ret
    exact ⟨rfl, rfl⟩
  · have HE : Hid (decide (n = 0) = false) := decide_eq_false hn
    have hn' : ((n : Int) == 0) = false := by simp; omega
    go_enter Try.func164, Try.ntmps164
    go_wp2
    go_ret
    exact ⟨by rw [HE.out]; rfl, rfl⟩
def T.bare (t : T) : Bool := decide (t.ps.length + t.ks.length = 0)
theorem isBare_any (S : Nat → Prop) (b : Nat) (t : T) (w : World) (h : Limb w S b t) (hs : t.ps.length + t.ks.length ≤ 1048576) : Calls Try.prog 165 #[.pointer (some ⟨b, 0, none⟩)] w fun e w' => e = .returned (.bool t.bare) ∧ ∃ q, w' = w.drewN q := by
  obtain ⟨ap, cp, ak, ck, A, c0, c1, _, _, _, _, _⟩ := h.see
  clear h
  have HE : t.bare = decide (t.ps.length + t.ks.length = 0) := rfl
  generalize t.ks.length = n at *
  generalize t.ps.length = m at *
  generalize t.bare = Z at *
  have hz : ((m : Int) + (n : Int) == 0) = Z := by
    rw [HE]
    by_cases h : m + n = 0
    · rw [decide_eq_true h]; simp; omega
    · rw [decide_eq_false h]; simp; omega
  clear HE
  have hw : IntKind.i64.wrap ((m : Int) + (n : Int)) = (m : Int) + (n : Int) := by rw [IntKind.wrap_i64]; omega
  go_enter Try.func165, Try.ntmps165
  go_wp2
  go_quiet (fail)
  go_wp2
  go_ret
  exact ⟨rfl, _, rfl⟩
/-- The first leaf below has a pair. -/
def T.ne : T → Prop
  | .mk ps [] => ps ≠ []
  | .mk _ (k :: _) => k.ne
set_option maxHeartbeats 2000000 in
theorem least_any (S : Nat → Prop) (b : Nat) (t : T) (w : World) (h : Limb w S b t) (hne : t.ne) : Calls Try.prog 162 #[.pointer (some ⟨b, 0, none⟩)] w fun e w' => e = .returned (.string t.least) ∧ ∃ q, w' = w.drewN q := by
  have H0 := hid h
  have HE := hid hne
  clear h hne
  go_enter Try.func162, Try.ntmps162
  go_wp2_with fail
  go_loopg [0] t.lv (fun k p wr => ∃ (b' : Nat) (S' : Nat → Prop) (t' : T) (q : Nat), p = .pointer (some ⟨b', 0, none⟩) ∧ wr = w.drewN q ∧ Hid (Limb w S' b' t') ∧ Hid (t'.ne ∧ t'.least = t.least ∧ k = t'.lv))
  case atStart => exact ⟨b, S, t, 0, rfl, rfl, H0.out, HE.out, rfl, rfl⟩
  case round =>
    obtain ⟨b', S', t', q, rfl, rfl, HL, HT⟩ := hrel
    have HL1 := hid (HL.out.kept (Below.drewN' (Below.refl _ _) q))
    go_wp2_with fail
    refine (isLeaf_any S' b' t' _ HL1.out).mono ?_
    rintro e w1 ⟨rfl, rfl⟩
    obtain ⟨ps, ks⟩ := t'
    obtain ⟨ap, cp, ak, ck, A, c0, c1, hp, hk, hkid, _, _⟩ := HL1.out.see
    cases ks with
    | nil =>
      obtain ⟨p, ps', rfl⟩ : ∃ p ps', ps = p :: ps' := List.exists_cons_of_ne_nil HT.out.1
      obtain ⟨x, off, rfl, _, _, hc⟩ := hp.at (by simp [T.ps])
      have d0 := (hc 0 (by simp [T.ps])).1
      simp only [T.ps, T.ks, pAtB, Nat.zero_mul, Nat.add_zero, List.length_cons, List.length_nil, List.getElem?_cons_zero, Option.getD_some, decide_true] at *
      have HR : Hid (p.1 = t.least) := HT.out.2.1
      obtain ⟨p1, p2⟩ := p
      simp only at d0 HR
      clear hc hk hkid hp
      go_wp2
      go_ret
      exact ⟨by rw [← HR.out]; rfl, q, rfl⟩
    | cons k ks =>
      obtain ⟨x, off, rfl, _, _, hc⟩ := Rw.at hk (by simp [T.ks])
      have d0 := hc 0 _ (ptrs_at A _ 0 (by simp [T.ks]))
      obtain ⟨S1, _, hk0⟩ := hkid 0 (by simp [T.ks])
      have HK0 : Hid (Limb w S1 (A 0) k) := by
        have : tAt (T.mk ps (k :: ks)).ks 0 = k := rfl
        rw [this] at hk0
        exact hk0.kept (undrew w q)
      have hz : decide ((T.mk ps (k :: ks)).ks.length = 0) = false := rfl
      rw [hz]
      simp only [T.ps, T.ks, Nat.add_zero, List.length_cons, ptr] at *
      have hpos : (0 : Int) < (ks.length : Int) + 1 := by omega
      clear hc hk hkid hp hk0 hz
      go_wp2
      go_roundg k.lv
      case measure => have := HT.out.2.2; simp [T.lv] at this; omega
      case rel => exact ⟨A 0, S1, k, q, rfl, rfl, HK0.out, HT.out.1, HT.out.2.1, rfl⟩
def T.dpt (t : T) : Nat := if t.bare = true then 0 else t.lv
set_option maxHeartbeats 2000000 in
theorem depth_any (S : Nat → Prop) (b : Nat) (t : T) (w : World) (h : Limb w S b t) (hs : t.ps.length + t.ks.length ≤ 1048576) (hlv : t.lv ≤ 1048576) : Calls Try.prog 163 #[.pointer (some ⟨b, 0, none⟩)] w fun e w' => e = .returned (.int .i64 (t.dpt : Int)) ∧ ∃ q, w' = w.drewN q := by
  have H0 := hid h
  clear h
  have HD : Hid (t.dpt = if t.bare = true then 0 else t.lv) := rfl
  go_enter Try.func163, Try.ntmps163
  go_wp2_with fail
  refine (isBare_any S b t _ H0.out hs).mono ?_
  rintro e w0 ⟨rfl, q0, rfl⟩
  cases hbare : t.bare
  · have HD1 : Hid (t.dpt = t.lv) := by show _ = _; rw [HD.out, hbare]; rfl
    clear HD hbare
    go_wp2_with fail
    go_loopg [0, 3] t.lv (fun k p d wr => ∃ (b' : Nat) (S' : Nat → Prop) (t' : T) (q m : Nat), p = .pointer (some ⟨b', 0, none⟩) ∧ d = .int .i64 (m : Int) ∧ wr = w.drewN q ∧ Hid (Limb w S' b' t') ∧ Hid (t'.lv + m = t.lv + 1 ∧ k = t'.lv))
    case atStart => exact ⟨b, S, t, q0, 1, rfl, rfl, rfl, H0.out, rfl, rfl⟩
    case round =>
      obtain ⟨b', S', t', q, m, rfl, rfl, rfl, HL, HT⟩ := hrel
      have HL1 := hid (HL.out.kept (Below.drewN' (Below.refl _ _) q))
      go_wp2_with fail
      refine (isLeaf_any S' b' t' _ HL1.out).mono ?_
      rintro e w1 ⟨rfl, rfl⟩
      obtain ⟨ps, ks⟩ := t'
      obtain ⟨ap, cp, ak, ck, A, c0, c1, hp, hk, hkid, _, _⟩ := HL1.out.see
      cases ks with
      | nil =>
        have HR : Hid ((m : Int) = (t.dpt : Int)) := by
          show _ = _
          have := HT.out.1
          rw [HD1.out]
          simp [T.lv] at this
          omega
        clear hk hkid hp
        go_wp2
        go_ret
        exact ⟨by rw [← HR.out]; rfl, q, rfl⟩
      | cons k ks =>
        obtain ⟨x, off, rfl, _, _, hc⟩ := Rw.at hk (by simp [T.ks])
        have d0 := hc 0 _ (ptrs_at A _ 0 (by simp [T.ks]))
        obtain ⟨S1, _, hk0⟩ := hkid 0 (by simp [T.ks])
        have HK0 : Hid (Limb w S1 (A 0) k) := by
          have : tAt (T.mk ps (k :: ks)).ks 0 = k := rfl
          rw [this] at hk0
          exact hk0.kept (undrew w q)
        have hz : decide ((T.mk ps (k :: ks)).ks.length = 0) = false := rfl
        rw [hz]
        have hm : m ≤ 1048577 := by have := HT.out.1; simp [T.lv] at this; omega
        simp only [T.ps, T.ks, Nat.add_zero, List.length_cons, ptr] at *
        have hpos : (0 : Int) < (ks.length : Int) + 1 := by omega
        clear hc hk hkid hp hk0 hz
        go_wp2
        go_roundg k.lv
        case measure => have := HT.out.2; simp [T.lv] at this; omega
        case rel => exact ⟨A 0, S1, k, q, m + 1, rfl, by go_num, rfl, HK0.out, by have := HT.out.1; simp [T.lv] at this; omega, rfl⟩
  · have HD1 : Hid (t.dpt = 0) := by show _ = _; rw [HD.out, hbare]; rfl
    clear HD hbare
    go_wp2
    go_ret
    exact ⟨by rw [HD1.out]; rfl, q0, rfl⟩
end Go.Proofs.Ytbaggkfgnjenoaa

