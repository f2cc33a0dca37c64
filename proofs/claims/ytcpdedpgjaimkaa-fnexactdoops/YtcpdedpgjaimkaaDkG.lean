/-
  DiskCrash of the specification.
-/
import Derived.Test.YtcpdedpgjaimkaaDkF
import Derived.Test.YtcpdedpgjaimkaaTeS
namespace Go.Proofs.Ytcpdedpgjaimkaa
open Go.RowKit
set_option linter.unusedVariables false
def teaV (a b : List Int) (n : Int) : List Int := (tearV a b n).getD []
/-- The sheets when k of the writes have been torn over them. -/
def crS (ss : List (List Int)) (ds : List DW) (keep : List Int) : Nat → List (List Int)
  | 0 => ss
  | k + 1 => if 0 < iAt keep k then (crS ss ds keep k).set (dwAt ds k).1.toNat (teaV (shAt (crS ss ds keep k) (dwAt ds k).1.toNat) (dwAt ds k).2 (iAt keep k)) else crS ss ds keep k
theorem crS_len (ss : List (List Int)) (ds : List DW) (keep : List Int) (k : Nat) : (crS ss ds keep k).length = ss.length := by
  induction k with
  | zero => rfl
  | succ k ih =>
    rw [crS]
    split
    · rw [List.length_set]; exact ih
    · exact ih
def dcV (d : DK) (keep : List Int) : DK := if dkOk d = true then ⟨crS d.sh d.dw keep d.dw.length, []⟩ else emD
theorem trB_byt {a b : List Int} (ha : byt a) (hb : byt b) (n : Int) (hl : b.length = a.length) : byt (trB a b n) := by
  intro i
  unfold trB
  by_cases hi : i < (b.take n.toNat).length
  · rw [List.getElem?_append_left hi, List.getElem?_take_of_lt (by simp at hi; omega)]
    exact hb i
  · rw [List.getElem?_append_right (by omega), List.getElem?_drop]
    exact ha _
theorem byt_sht {l : List Int} (h : byt l) : byt (sheet l) := by
  unfold sheet
  split
  · intro i
    rw [List.getElem?_replicate]
    split <;> exact ⟨by decide, by decide⟩
  · exact h
theorem tea_facts {a b : List Int} (ha : byt a) (hb : byt b) (n : Int) : byt (teaV a b n) ∧ (teaV a b n).length ≤ 512 ∧ (shtOk a = true → shtOk b = true → teaV a b n = trB (sheet a) (sheet b) n ∧ (teaV a b n).length = 512) := by
  unfold teaV tearV
  split
  · rename_i hh
    rw [Option.getD_some]
    have e1 := sheet_len hh.1
    have e2 := sheet_len hh.2
    exact ⟨trB_byt (byt_sht ha) (byt_sht hb) n (by omega), by rw [tr_len e1 e2]; omega, fun _ _ => ⟨rfl, tr_len e1 e2 n⟩⟩
  · rename_i hh
    exact ⟨fun i => by simp, by simp, fun h1 h2 => absurd ⟨h1, h2⟩ hh⟩
/-- What holds of every sheet as the crash goes on. -/
theorem crS_facts {d : DK} (hok : dkOk d = true) (hb : (∀ i, byt (shAt d.sh i)) ∧ ∀ i, byt (dwAt d.dw i).2) (keep : List Int) : ∀ k, k ≤ d.dw.length → ∀ i, byt (shAt (crS d.sh d.dw keep k) i) ∧ (i < d.sh.length → shtOk (shAt (crS d.sh d.dw keep k) i) = true) := by
  have hk := (dkOk_iff d).1 hok
  intro k
  induction k with
  | zero => intro _ i; exact ⟨hb.1 i, fun hi => hk.2.2.2.1 i hi⟩
  | succ k ih =>
    intro hkl i
    have hw := (wrtOk_iff _ _).1 (hk.2.2.2.2 k (by omega))
    rw [crS]
    split
    · by_cases e : i = (dwAt d.dw k).1.toNat
      · subst e
        rw [shAt_set (by rw [crS_len]; omega)]
        have hs := ih (by omega) (dwAt d.dw k).1.toNat
        have ht := tea_facts hs.1 (hb.2 k) (iAt keep k)
        refine ⟨ht.1, fun hi => (shtOk_iff _).2 (.inr (ht.2.2 (hs.2 (by omega)) ((shtOk_iff _).2 (.inr hw.2.2))).2)⟩
      · rw [shAt_other e]
        exact ih (by omega) i
    · exact ih (by omega) i
theorem dcV_small {d : DK} (hb : (∀ i, byt (shAt d.sh i)) ∧ ∀ i, byt (dwAt d.dw i).2) (keep : List Int) : smallD (dcV d keep) ∧ dkTot (dcV d keep) ≤ 4194304 := by
  unfold dcV
  split
  · rename_i hok
    have hk := (dkOk_iff d).1 hok
    have hl : ∀ i, (shAt (crS d.sh d.dw keep d.dw.length) i).length ≤ 512 := by
      intro i
      by_cases hi : i < d.sh.length
      · have := (shtOk_iff _).1 ((crS_facts hok hb keep d.dw.length (Nat.le_refl _) i).2 hi)
        omega
      · simp [shAt, show (crS d.sh d.dw keep d.dw.length).length ≤ i by rw [crS_len]; omega]
    refine ⟨⟨fun i hi => by have := hl i; simp only at this ⊢; omega, fun i hi => by simp at hi⟩, ?_⟩
    have ho : ∀ n, offS (crS d.sh d.dw keep d.dw.length) n ≤ n * 512 := by
      intro n
      induction n with
      | zero => simp [offS]
      | succ n ih => rw [offS]; have := hl n; omega
    have h1 := ho d.sh.length
    simp only [dkTot, crS_len, List.length_nil, offW]
    omega
  · exact ⟨⟨fun i hi => by simp [emD] at hi, fun i hi => by simp [emD] at hi⟩, by simp [emD, dkTot, offS, offW]⟩
theorem dcV_bytes {d : DK} (hb : (∀ i, byt (shAt d.sh i)) ∧ ∀ i, byt (dwAt d.dw i).2) (keep : List Int) : (∀ i, byt (shAt (dcV d keep).sh i)) ∧ ∀ i, byt (dwAt (dcV d keep).dw i).2 := by
  unfold dcV
  split
  · rename_i hok
    exact ⟨fun i => (crS_facts hok hb keep d.dw.length (Nat.le_refl _) i).1, fun i => by simp [dwAt]; exact fun j => by simp⟩
  · exact ⟨fun i => by simp [emD, shAt]; exact fun j => by simp, fun i => by simp [emD, dwAt]; exact fun j => by simp⟩
theorem Dk.bytes' {w : World} {S : Nat → Prop} {sa : Option Addr} {sn sc : Nat} {da : Option Addr} {dn dc : Nat} {d : DK} (h : Dk w S sa sn sc da dn dc d) : (∀ i, byt (shAt d.sh i)) ∧ ∀ i, byt (dwAt d.dw i).2 := by
  obtain ⟨V, h1, h2, h3⟩ := h.hs
  obtain ⟨U, k1, k2, k3⟩ := h.hd
  refine ⟨fun i => ?_, fun i => ?_⟩
  · by_cases hi : i < d.sh.length
    · exact (h3 i hi).2
    · rw [show shAt d.sh i = [] by simp [shAt, show d.sh.length ≤ i by omega]]; exact fun j => by simp
  · by_cases hi : i < d.dw.length
    · exact (k3 i hi).2.2
    · rw [show dwAt d.dw i = (0, []) by simp [dwAt, show d.dw.length ≤ i by omega]]; exact fun j => by simp
theorem specTear_at (a : Option Addr) (n c : Nat) (xs : List Int) (b : Option Addr) (m d : Nat) (ys : List Int) (t : Int) (w : World) (hx : Rd w a n c xs) (hy : Rd w b m d ys) (hn : n ≤ 1048576) (hm : m ≤ 1048576) :
    Calls Try.prog 160 #[.slice a n c, .slice b m d, .int .i64 t] w fun e w' => ∃ a' n' c', e = .returned (.slice a' n' c') ∧ Ob w' w.heap.size (.slice a' n' c') (teaV xs ys t) ∧ Below w.heap.size w w' := by
  refine (specTear_any a n c xs b m d ys t w hx hy hn hm).mono ?_
  rintro e w' ⟨hb, hor⟩
  rcases hor with ⟨ho, rfl⟩ | ⟨v, zs, ho, rfl, hO⟩
  · exact ⟨none, 0, 0, rfl, by rw [teaV, ho]; exact World.ownsRow_nil _ _ _ _, hb⟩
  · obtain ⟨a', c', rfl⟩ := hO.shape
    exact ⟨a', _, c', rfl, by rw [teaV, ho]; exact hO, hb⟩
/-- The boxes of the specification's crash: the disk, the result, what comes. -/
structure KX (w v : World) (sa : Option Addr) (sn sc : Nat) (da : Option Addr) (dn dc : Nat) (bo B : Nat) (xa : Option Addr) (xn xc : Nat) (V : List Value) (ss : List (List Int)) : Prop where
  bel : Below w.heap.size w v
  k0 : Bk v w.heap.size 46 [.slice sa sn sc, .slice da dn dc]
  k1 : Bk v (w.heap.size + 1) 46 [.slice none 0 0, .slice none 0 0]
  k2 : Bk v bo 46 [.slice xa xn xc, .slice none 0 0]
  own : SOw v B (.slice xa xn xc) V ss
  lo : w.heap.size + 1 < B
  lb : w.heap.size + 1 < bo
  nb : ∀ y, sbl (.slice xa xn xc) V y → y ≠ bo
theorem KX.below {w v v' : World} {sa : Option Addr} {sn sc : Nat} {da : Option Addr} {dn dc : Nat} {bo B : Nat} {xa : Option Addr} {xn xc : Nat} {V : List Value} {ss : List (List Int)} (h : KX w v sa sn sc da dn dc bo B xa xn xc V ss) (hb : Below v.heap.size v v') : KX w v' sa sn sc da dn dc bo B xa xn xc V ss :=
  ⟨bt7 h.bel hb, h.k0.below hb, h.k1.below hb, h.k2.below hb, h.own.below hb, h.lo, h.lb, h.nb⟩
theorem KX.put {w v u : World} {sa : Option Addr} {sn sc : Nat} {da : Option Addr} {dn dc : Nat} {bo B g : Nat} {xn xc : Nat} {V : List Value} {ss : List (List Int)} {p : Value} {x : List Int} {k : Nat} (h : KX w v sa sn sc da dn dc bo B (some ⟨g, 0, none⟩) xn xc V ss) (hb : Below v.heap.size v u) (hp : Ob u v.heap.size p x) (hx : byt x) (hk : k < ss.length) :
    KX w (u.setCell ⟨g, k, none⟩ p) sa sn sc da dn dc bo B (some ⟨g, 0, none⟩) xn xc (V.set k p) (ss.set k x) := by
  have hu := h.below hb
  have hg : B ≤ g ∧ g < v.heap.size := World.ownsRow.lt h.own.row g rfl
  have hlo := h.lo
  have hgb : g ≠ bo := h.nb g (.inl rfl)
  have o3 : Only (fun y => y = g) u (u.setCell ⟨g, k, none⟩ p) := only_set (R := fun y => y = g) rfl _
  refine ⟨hu.bel.setCell (p := ⟨g, k, none⟩) (by show w.heap.size ≤ g; omega) _, hu.k0.setOther (by omega) _ _, hu.k1.setOther (by omega) _ _, hu.k2.setOther (Ne.symm hgb) _ _, ?_, h.lo, h.lb, ?_⟩
  · exact h.own.upd hk rfl hb hp hx (by have := h.own.lt (y := g) (.inl rfl); omega) o3 (ownD_set hu.own.row k p)
  · intro y hy
    rcases hy with e | ⟨i, hi, e⟩
    · exact h.nb y (.inl e)
    · rw [List.length_set] at hi
      by_cases e2 : i = k
      · subst e2
        rw [uAt_set hi] at e
        have h1 := (World.ownsRow.lt hp y e).1
        have h2 := h.k2.lt
        omega
      · rw [uAt_other e2] at e
        exact h.nb y (.inr ⟨i, hi, e⟩)
end Go.Proofs.Ytcpdedpgjaimkaa

