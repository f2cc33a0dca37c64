/-
  The law FnExactDiskOk answers true at every disk; what the laws over disks keep at hand.
-/
import Derived.Test.YtcpdedpgjaimkaaDkE
import Derived.Test.YtcpdedpgjaimkaaDkOk
import Derived.Deep.RegionLaw
import Derived.Deep.DeepCutAuto
namespace Go.Proofs.Ytcpdedpgjaimkaa
open Go.RowKit
set_option linter.unusedVariables false
theorem bt5 {u v w : World} (h : Below u.heap.size u v) (k : Below v.heap.size v w) : Below u.heap.size u w := h.trans (k.mono h.size)
/-- The law's own disk, in its box and with its rows below. -/
structure DX (w v : World) (sa : Option Addr) (sn sc : Nat) (da : Option Addr) (dn dc : Nat) (d : DK) : Prop where
  bel : Below w.heap.size w v
  kA : Bk v w.heap.size 39 [.slice sa sn sc, .slice da dn dc]
  hA : Dk v (fun b => b < w.heap.size) sa sn sc da dn dc d
theorem DX.below {w v v' : World} {sa : Option Addr} {sn sc : Nat} {da : Option Addr} {dn dc : Nat} {d : DK} (h : DX w v sa sn sc da dn dc d) (hb : Below v.heap.size v v') : DX w v' sa sn sc da dn dc d := ⟨bt5 h.bel hb, h.kA.below hb, h.hA.below hb⟩
theorem DX.only {w v v' : World} {sa : Option Addr} {sn sc : Nat} {da : Option Addr} {dn dc : Nat} {d : DK} (h : DX w v sa sn sc da dn dc d) {R : Nat → Prop} (ho : Only R v v') (hR : ∀ b, R b → w.heap.size < b) : DX w v' sa sn sc da dn dc d :=
  ⟨h.bel.trans (ho.below h.bel.size (fun b hb hr => by have := hR b hr; omega)), h.kA.to ho (fun hr => by have := hR _ hr; omega), h.hA.to ho (fun b hb _ hr => by have := hR b hr; omega)⟩
theorem DX.start {w : World} {sa : Option Addr} {sn sc : Nat} {da : Option Addr} {dn dc : Nat} {d : DK} (h : Dk w (fun _ => True) sa sn sc da dn dc d) : DX w (w.alloc (.cells #[.slice sa sn sc, .slice da dn dc] 39)) sa sn sc da dn dc d := by
  have hb := below_new (o := .cells #[.slice sa sn sc, .slice da dn dc] 39) (w := w) (Below.refl _ _)
  exact ⟨hb, Bk.new w _ [_, _], (h.mono (R := fun b => b < w.heap.size) (fun b _ hb => hb)).below hb⟩
theorem DX.cells {w v : World} {sa : Option Addr} {sn sc : Nat} {da : Option Addr} {dn dc : Nat} {d : DK} (h : DX w v sa sn sc da dn dc d) : v.cell? ⟨w.heap.size, 0, none⟩ = some (.slice sa sn sc) ∧ v.cell? ⟨w.heap.size, 1, none⟩ = some (.slice da dn dc) := ⟨h.kA.cell (j := 0) rfl, h.kA.cell (j := 1) rfl⟩
end Go.Proofs.Ytcpdedpgjaimkaa

