/-
  What the laws of trees carry along: the argument as it was, and what lies behind the answers.
-/
import Derived.Test.YtbaggkfgnjenoaaMkN
import Derived.Test.YtbaggkfgnjenoaaMkH
namespace Go.Proofs.Ytbaggkfgnjenoaa
open Go.RowKit
structure TB (w v : World) (a : Option Addr) (n c : Nat) (ns : List NB) : Prop where
  bel : Below w.heap.size w v
  kA : Bk v w.heap.size 73 [.slice a n c]
  hA : Nr v (fun b => b < w.heap.size) (.slice a n c) ns
theorem TB.below {w v v' : World} {a : Option Addr} {n c : Nat} {ns : List NB} (h : TB w v a n c ns) (hb : Below v.heap.size v v') : TB w v' a n c ns := ⟨Below.then' h.bel hb (Nat.le_refl _), h.kA.below hb, h.hA.below hb⟩
theorem TB.only {w v v' : World} {a : Option Addr} {n c : Nat} {ns : List NB} (h : TB w v a n c ns) {R : Nat → Prop} (ho : Only R v v') (hR : ∀ b, R b → w.heap.size < b) : TB w v' a n c ns :=
  ⟨h.bel.trans (ho.below h.bel.size (fun b hb hr => by have := hR b hr; omega)), h.kA.to ho (fun hr => by have := hR _ hr; omega), h.hA.to ho (fun b hb _ hr => by have := hR b hr; omega)⟩
theorem TB.start {w : World} {a : Option Addr} {n c : Nat} {ns : List NB} (h : Nr w (fun _ => True) (.slice a n c) ns) : TB w (w.alloc (.cells #[.slice a n c] 73)) a n c ns := by
  have hb := below_new (o := .cells #[.slice a n c] 73) (w := w) (Below.refl _ _)
  exact ⟨hb, Bk.new w _ [_], (h.mono (fun b _ hb => hb)).below hb⟩
theorem TB.cell {w v : World} {a : Option Addr} {n c : Nat} {ns : List NB} (h : TB w v a n c ns) : v.cell? ⟨w.heap.size, 0, none⟩ = some (.slice a n c) := h.kA.cell (j := 0) rfl
theorem TB.lt {w v : World} {a : Option Addr} {n c : Nat} {ns : List NB} (h : TB w v a n c ns) : w.heap.size < v.heap.size := h.kA.lt
/-- An owned row may be written. -/
theorem own_uf {w : World} {base : Nat} {e : TypeId} {size : Nat} {v : Value} {n : Nat} {xs : List Value} (h : w.ownsRow base e size v n xs) {k : Nat} (hk : v.ownBlock = some k) : Uf w k := by
  rcases h.2 with ⟨rfl, _⟩ | ⟨g, cap, cur, rfl, h3, h4, h5, h6, h7, h8⟩
  · cases hk
  · cases hk
    exact ⟨_, _, h4⟩
theorem Ow.kw {w : World} {base : Nat} {v : Value} {l : List PB} (h : Ow w base v l) : Kw w (fun b => base ≤ b) v l.length (l.length * 2) isStr := by
  have := kw_of (S' := fun b => base ≤ b) (K := isStr) (h.pr (S := fun b => base ≤ b ∧ Uf w b) (fun k hk hb _ => ⟨hb, own_uf h hk⟩)) (fun u hu => pcs_str _ u hu) (fun b hb _ => hb)
  rwa [pcs_length] at this
theorem kb_nr {u v : World} {p0 p1 : Addr} {x0 x1 : Value} {S : Nat → Prop} {y : Value} {ns : List NB} (h : v.cell? p0 = some x0 ∧ v.cell? p1 = some x1 ∧ KC u v [(p0, x0), (p1, x1)]) (hN : Nr u S y ns) : Nr v S y ns := hN.below h.2.2.bel
theorem kb_nr' {u v v' : World} {p0 p1 : Addr} {x0 x1 : Value} {S : Nat → Prop} {y : Value} {ns : List NB} (hb : Below v.heap.size v v') (h : v.cell? p0 = some x0 ∧ v.cell? p1 = some x1 ∧ KC u v [(p0, x0), (p1, x1)]) (hN : Nr u S y ns) : Nr v' S y ns := (kb_nr h hN).below hb
end Go.Proofs.Ytbaggkfgnjenoaa

