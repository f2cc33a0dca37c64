/-
  The law FnExactDiskRead answers true at every disk and place.
-/
import Derived.Test.YtijinngmfalfcabDoorLwDN
import Derived.Test.YtijinngmfalfcabDoorDkS
import Derived.Test.YtijinngmfalfcabDoorLwT
namespace Go.Proofs.YtijinngmfalfcabDoor
open Go.RowKit
set_option linter.unusedVariables false
theorem byt_nil : byt [] := fun i => by simp
theorem Dk.bytes {w : World} {S : Nat → Prop} {sa : Option Addr} {sn sc : Nat} {da : Option Addr} {dn dc : Nat} {d : DK} (h : Dk w S sa sn sc da dn dc d) : (∀ i, byt (shAt d.sh i)) ∧ ∀ i, byt (dwAt d.dw i).2 := by
  obtain ⟨V, h1, h2, h3⟩ := h.hs
  obtain ⟨U, k1, k2, k3⟩ := h.hd
  refine ⟨fun i => ?_, fun i => ?_⟩
  · by_cases hi : i < d.sh.length
    · exact (h3 i hi).2
    · rw [show shAt d.sh i = [] by simp [shAt, show d.sh.length ≤ i by omega]]; exact byt_nil
  · by_cases hi : i < d.dw.length
    · exact (k3 i hi).2.2
    · rw [show dwAt d.dw i = (0, []) by simp [dwAt, show d.dw.length ≤ i by omega]]; exact byt_nil
theorem byt_sheet {l : List Int} (h : byt l) : byt (sheet l) := by
  unfold sheet
  split
  · intro i
    rw [List.getElem?_replicate]
    split <;> exact ⟨by decide, by decide⟩
  · exact h
theorem lastW_facts {ds : List DW} {t : Int} (hb : ∀ i, byt (dwAt ds i).2) : ∀ k, k ≤ ds.length → (∀ i, i < ds.length → (dwAt ds i).2.length = 512) → ∀ z, lastW ds t k = some z → byt z ∧ z.length = 512 := by
  intro k
  induction k with
  | zero => intro _ _ z hz; cases hz
  | succ k ih =>
    intro hk hl z hz
    rw [lastW] at hz
    split at hz
    · cases hz; exact ⟨hb k, hl k (by omega)⟩
    · exact ih (by omega) hl z hz
theorem rdV_facts {d : DK} (hb : (∀ i, byt (shAt d.sh i)) ∧ ∀ i, byt (dwAt d.dw i).2) (t : Int) : byt ((rdV d t).getD []) ∧ ((rdV d t).getD []).length ≤ 512 := by
  unfold rdV
  split
  · rename_i hh
    obtain ⟨hok, h0, h1⟩ := hh
    have hk := (dkOk_iff d).1 hok
    rw [Option.getD_some]
    cases e : lastW d.dw t d.dw.length with
    | some z =>
      have := lastW_facts hb.2 d.dw.length (Nat.le_refl _) (fun i hi => ((wrtOk_iff _ _).1 (hk.2.2.2.2 i hi)).2.2) z e
      exact ⟨this.1, by rw [Option.getD_some]; omega⟩
    | none =>
      rw [Option.getD_none]
      exact ⟨byt_sheet (hb.1 _), Nat.le_of_eq (sheet_len (by rw [shOk_sht]; exact hk.2.2.2.1 _ (by omega)))⟩
  · exact ⟨byt_nil, by simp⟩
theorem ob_rd {w : World} {B : Nat} {a : Option Addr} {n c : Nat} {zs : List Int} (h : Ob w B (.slice a n c) zs) (hb : byt zs) (hl : zs.length ≤ 1048576) : Rd w a n c zs ∧ n = zs.length := by
  obtain ⟨a', c', e, hr, _⟩ := Ob.rd h hb (by omega)
  cases e
  exact ⟨hr, rfl⟩
theorem ob_to {w w' : World} {B : Nat} {R : Nat → Prop} {v : Value} {zs : List Int} (h : Ob w B v zs) (ho : Only R w w') (hR : ∀ y, v.ownBlock = some y → ¬ R y) : Ob w' B v zs := own_kept h ho hR
theorem ob_bel {w w' : World} {B : Nat} {v : Value} {zs : List Int} (h : Ob w B v zs) (hb : Below w.heap.size w w') : Ob w' B v zs := own_kept h (only_of_below hb (fun _ => False)) (fun _ _ h => h)
end Go.Proofs.YtijinngmfalfcabDoor

