/-
  The law FnExactDiskNew answers true at every number.
-/
import Derived.Test.YtcpdedpgjaimkaaLwDO
import Derived.Test.YtcpdedpgjaimkaaDkN
namespace Go.Proofs.Ytcpdedpgjaimkaa
open Go.RowKit
set_option linter.unusedVariables false
theorem offS_nil (n k : Nat) : offS (List.replicate n []) k = 0 := by
  induction k with
  | zero => rfl
  | succ k ih =>
    rw [offS, ih]
    by_cases e : k < n
    · simp [shAt, e]
    · simp [shAt, e]
theorem dn_small (n : Int) : smallD ((dnV n).getD emD) ∧ dkTot ((dnV n).getD emD) ≤ 4194304 := by
  unfold dnV
  split
  · refine ⟨⟨fun i hi => ?_, fun i hi => by simp at hi⟩, ?_⟩
    · have hi' : i < n.toNat := by simpa using hi
      simp [shAt, hi']
    · simp only [Option.getD_some, dkTot, offS_nil, List.length_nil, offW]; omega
  · exact ⟨⟨fun i hi => by simp [emD] at hi, fun i hi => by simp [emD] at hi⟩, by simp [emD, dkTot, offS, offW]⟩
/-- An answered disk in its box. -/
structure DB (v : World) (b B : Nat) (sa : Option Addr) (sn sc : Nat) (da : Option Addr) (dn dc : Nat) (V : List Value) (U : List (Int × Value)) (d : DK) : Prop where
  box : Bk v b 46 [.slice sa sn sc, .slice da dn dc]
  own : DO v B (.slice sa sn sc) V (.slice da dn dc) U d
  sep : ∀ y, dbl (.slice sa sn sc) V (.slice da dn dc) U y → y < b
theorem DB.below {v v' : World} {b B : Nat} {sa : Option Addr} {sn sc : Nat} {da : Option Addr} {dn dc : Nat} {V : List Value} {U : List (Int × Value)} {d : DK} (h : DB v b B sa sn sc da dn dc V U d) (hb : Below v.heap.size v v') : DB v' b B sa sn sc da dn dc V U d := ⟨h.box.below hb, h.own.below hb, h.sep⟩
theorem DB.to {v v' : World} {R : Nat → Prop} {b B : Nat} {sa : Option Addr} {sn sc : Nat} {da : Option Addr} {dn dc : Nat} {V : List Value} {U : List (Int × Value)} {d : DK} (h : DB v b B sa sn sc da dn dc V U d) (ho : Only R v v') (hb : ¬ R b) (hR : ∀ y, dbl (.slice sa sn sc) V (.slice da dn dc) U y → ¬ R y) : DB v' b B sa sn sc da dn dc V U d := ⟨h.box.to ho hb, h.own.to ho hR, h.sep⟩
theorem DB.new {v : World} {B : Nat} {sa : Option Addr} {sn sc : Nat} {da : Option Addr} {dn dc : Nat} {V : List Value} {U : List (Int × Value)} {d : DK} (h : DO v B (.slice sa sn sc) V (.slice da dn dc) U d) : DB (v.alloc (.cells #[.slice sa sn sc, .slice da dn dc] 46)) v.heap.size B sa sn sc da dn dc V U d := ⟨Bk.new v _ [_, _], h.below (below_new (Below.refl _ _)), fun y hy => (h.lt hy).2⟩
theorem DB.cells {v : World} {b B : Nat} {sa : Option Addr} {sn sc : Nat} {da : Option Addr} {dn dc : Nat} {V : List Value} {U : List (Int × Value)} {d : DK} (h : DB v b B sa sn sc da dn dc V U d) : v.cell? ⟨b, 0, none⟩ = some (.slice sa sn sc) ∧ v.cell? ⟨b, 1, none⟩ = some (.slice da dn dc) := ⟨h.box.cell (j := 0) rfl, h.box.cell (j := 1) rfl⟩
theorem DB.dk {v : World} {b B : Nat} {sa : Option Addr} {sn sc : Nat} {da : Option Addr} {dn dc : Nat} {V : List Value} {U : List (Int × Value)} {d : DK} (h : DB v b B sa sn sc da dn dc V U d) : Dk v (fun _ => True) sa sn sc da dn dc d := h.own.dk (fun _ _ => trivial)
/-- A marked disk in its box. -/
structure DQ5 (v : World) (b : Nat) (sa : Option Addr) (sn sc : Nat) (da : Option Addr) (dn dc : Nat) (V : List Value) (U : List (Int × Value)) (d : DK) (k : Nat) : Prop where
  box : Bk v b 46 [.slice sa sn sc, .slice da dn dc]
  own : DM v (.slice sa sn sc) V (.slice da dn dc) U d k
theorem DQ5.below {v v' : World} {b : Nat} {sa : Option Addr} {sn sc : Nat} {da : Option Addr} {dn dc : Nat} {V : List Value} {U : List (Int × Value)} {d : DK} {k : Nat} (h : DQ5 v b sa sn sc da dn dc V U d k) (hb : Below v.heap.size v v') : DQ5 v' b sa sn sc da dn dc V U d k := ⟨h.box.below hb, h.own.below hb⟩
theorem DQ5.cells {v : World} {b : Nat} {sa : Option Addr} {sn sc : Nat} {da : Option Addr} {dn dc : Nat} {V : List Value} {U : List (Int × Value)} {d : DK} {k : Nat} (h : DQ5 v b sa sn sc da dn dc V U d k) : v.cell? ⟨b, 0, none⟩ = some (.slice sa sn sc) ∧ v.cell? ⟨b, 1, none⟩ = some (.slice da dn dc) := ⟨h.box.cell (j := 0) rfl, h.box.cell (j := 1) rfl⟩
end Go.Proofs.Ytcpdedpgjaimkaa

