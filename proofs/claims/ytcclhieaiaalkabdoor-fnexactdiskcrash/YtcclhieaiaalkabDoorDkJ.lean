/-
  DiskSync of the program.
-/
import Derived.Test.YtcclhieaiaalkabDoorDkI
namespace Go.Proofs.YtcclhieaiaalkabDoor
open Go.RowKit
set_option linter.unusedVariables false
/-- The boxes of the program's sync and crash: the disk, the result; the row of sheets at hand, whose lists may lie anywhere but in it. -/
structure VX (w v : World) (sa : Option Addr) (sn sc : Nat) (da : Option Addr) (dn dc : Nat) (g cc : Nat) (V : List Value) (ss : List (List Int)) : Prop where
  bel : Below w.heap.size w v
  k0 : Bk v w.heap.size 31 [.slice sa sn sc, .slice da dn dc]
  k1 : Bk v (w.heap.size + 1) 31 [.slice none 0 0, .slice none 0 0]
  row : v.ownsRow (w.heap.size + 2) 55 1 (.slice (some ⟨g, 0, none⟩) sn cc) sn V
  len : V.length = sn
  ssl : ss.length = sn
  byt' : ∀ i, i < sn → By v (fun y => y ≠ g) (uAt V i) (shAt ss i)
theorem VX.below {w v v' : World} {sa : Option Addr} {sn sc : Nat} {da : Option Addr} {dn dc : Nat} {g cc : Nat} {V : List Value} {ss : List (List Int)} (h : VX w v sa sn sc da dn dc g cc V ss) (hb : Below v.heap.size v v') : VX w v' sa sn sc da dn dc g cc V ss :=
  ⟨bt7 h.bel hb, h.k0.below hb, h.k1.below hb, own_kept h.row (only_of_below hb (fun _ => False)) (fun _ _ h => h), h.len, h.ssl, fun i hi => (h.byt' i hi).below hb⟩
theorem VX.put {w v : World} {sa : Option Addr} {sn sc : Nat} {da : Option Addr} {dn dc : Nat} {g cc : Nat} {V : List Value} {ss : List (List Int)} (h : VX w v sa sn sc da dn dc g cc V ss) {k : Nat} {p : Value} {x : List Int} (hk : k < sn) (hp : By v (fun y => y ≠ g) p x) : VX w (v.setCell ⟨g, k, none⟩ p) sa sn sc da dn dc g cc (V.set k p) (ss.set k x) := by
  have hg := World.ownsRow.lt h.row g rfl
  have o : Only (fun y => y = g) v (v.setCell ⟨g, k, none⟩ p) := only_set (R := fun y => y = g) rfl _
  refine ⟨h.bel.setCell (p := ⟨g, k, none⟩) (by show w.heap.size ≤ g; omega) _, h.k0.setOther (by omega) _ _, h.k1.setOther (by omega) _ _, ownD_set h.row k p, by rw [List.length_set]; exact h.len, by rw [List.length_set]; exact h.ssl, fun i hi => ?_⟩
  by_cases e : i = k
  · subst e
    rw [uAt_set (by rw [h.len]; exact hi), shAt_set (by rw [h.ssl]; exact hi)]
    exact hp.to o (fun b hb _ e => hb e)
  · rw [uAt_other e, shAt_other e]
    exact (h.byt' i hi).to o (fun b hb _ e => hb e)
theorem VX.shr {w v : World} {sa : Option Addr} {sn sc : Nat} {da : Option Addr} {dn dc : Nat} {g cc : Nat} {V : List Value} {ss : List (List Int)} (h : VX w v sa sn sc da dn dc g cc V ss) : Shr v (fun _ => True) (.slice (some ⟨g, 0, none⟩) sn cc) ss := by
  refine ⟨V, by rw [h.len, h.ssl], ?_, fun i hi => (h.byt' i (by rw [← h.ssl]; exact hi)).mono (fun _ _ _ => trivial)⟩
  rw [h.ssl]
  exact rw_own h.row (fun _ _ _ _ => trivial)
theorem syS_facts {d : DK} (hok : dkOk d = true) (hb : (∀ i, byt (shAt d.sh i)) ∧ ∀ i, byt (dwAt d.dw i).2) : ∀ k, k ≤ d.dw.length → ∀ i, byt (shAt (syS d.sh d.dw k) i) ∧ (shAt (syS d.sh d.dw k) i).length ≤ 512 := by
  intro k hk i
  rw [← crS_all hok hb k hk]
  have h := crS_facts hok hb (List.replicate d.dw.length 512) k hk i
  refine ⟨h.1, ?_⟩
  by_cases hi : i < d.sh.length
  · have := (shtOk_iff _).1 (h.2 hi); omega
  · simp [shAt, show (crS d.sh d.dw (List.replicate d.dw.length 512) k).length ≤ i by rw [crS_len]; omega]
theorem wrr_nil (w : World) (S : Nat → Prop) : Wrr w S (.slice none 0 0) [] := ⟨[], rfl, rw_nil _ _, fun i hi => by simp at hi⟩
theorem one_slices {w : World} {S : Nat → Prop} {V : List Value} {ss : List (List Int)} (hl : V.length = ss.length) (h : ∀ i, i < ss.length → By w S (uAt V i) (shAt ss i)) : ∀ u ∈ V, u.oneCell' = true := by
  intro u hu
  obtain ⟨i, hi, rfl⟩ := List.mem_iff_getElem.1 hu
  obtain ⟨a, c, e⟩ := (h i (by omega)).1.sliceOf
  have : V[i] = uAt V i := by simp [uAt, hi]
  rw [this, e]
  rfl
theorem VX.start {w w1 w2 : World} {S : Nat → Prop} {b off sn sc : Nat} {da : Option Addr} {dn dc : Nat} {cc g : Nat} {V : List Value} {ss : List (List Int)} (hbel : Below w.heap.size w w1) (k0 : Bk w1 w.heap.size 31 [.slice (some ⟨b, off, none⟩) sn sc, .slice da dn dc]) (k1 : Bk w1 (w.heap.size + 1) 31 [.slice none 0 0, .slice none 0 0])
    (hl : V.length = ss.length) (hs : ss.length = sn) (hby : ∀ i, i < ss.length → By w1 S (uAt V i) (shAt ss i)) (hrow : w2.ownsRow w1.heap.size 55 1 (.slice (some ⟨g, 0, none⟩) sn cc) sn V) (hb : Below w1.heap.size w1 w2) :
    VX w w2 (some ⟨b, off, none⟩) sn sc da dn dc g cc V ss := by
  have hg := (World.ownsRow.lt hrow g rfl).1
  have h1 := k1.lt
  refine ⟨bt7 hbel hb, k0.below hb, k1.below hb, ownD_base hrow (by omega), by omega, hs, fun i hi => ?_⟩
  exact ((hby i (by omega)).mono (R := fun y => y ≠ g) (fun y _ hy => by omega)).below hb
end Go.Proofs.YtcclhieaiaalkabDoor

