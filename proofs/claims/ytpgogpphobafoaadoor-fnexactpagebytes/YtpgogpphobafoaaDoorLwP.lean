/-
  The law FnExactPageOk answers true at every page; what the laws over pages keep at hand.
-/
import Derived.Test.YtpgogpphobafoaaDoorPgI
import Derived.Test.YtpgogpphobafoaaDoorPgL
import Derived.Deep.RegionLaw
namespace Go.Proofs.YtpgogpphobafoaaDoor
open Go.RowKit
/-- The law's own page, in its box and with its rows below. -/
structure PX (w v : World) (ka : Option Addr) (kn kc : Nat) (va : Option Addr) (vn vc : Nat) (ia : Option Addr) (jn ic : Nat) (p : PG) : Prop where
  bel : Below w.heap.size w v
  kA : Bk v w.heap.size 25 [.slice ka kn kc, .slice va vn vc, .slice ia jn ic]
  hA : Pgr v (fun b => b < w.heap.size) ka kn kc va vn vc ia jn ic p
theorem PX.below {w v v' : World} {ka : Option Addr} {kn kc : Nat} {va : Option Addr} {vn vc : Nat} {ia : Option Addr} {jn ic : Nat} {p : PG} (h : PX w v ka kn kc va vn vc ia jn ic p) (hb : Below v.heap.size v v') : PX w v' ka kn kc va vn vc ia jn ic p := ⟨btw h.bel hb, h.kA.below hb, h.hA.below hb⟩
theorem PX.only {w v v' : World} {ka : Option Addr} {kn kc : Nat} {va : Option Addr} {vn vc : Nat} {ia : Option Addr} {jn ic : Nat} {p : PG} (h : PX w v ka kn kc va vn vc ia jn ic p) {R : Nat → Prop} (ho : Only R v v') (hR : ∀ b, R b → w.heap.size < b) : PX w v' ka kn kc va vn vc ia jn ic p :=
  ⟨h.bel.trans (ho.below h.bel.size (fun b hb hr => by have := hR b hr; omega)), h.kA.to ho (fun hr => by have := hR _ hr; omega), h.hA.to ho (fun b hb _ hr => by have := hR b hr; omega)⟩
theorem PX.start {w : World} {ka : Option Addr} {kn kc : Nat} {va : Option Addr} {vn vc : Nat} {ia : Option Addr} {jn ic : Nat} {p : PG} (h : Pgr w (fun _ => True) ka kn kc va vn vc ia jn ic p) : PX w (w.alloc (.cells #[.slice ka kn kc, .slice va vn vc, .slice ia jn ic] 25)) ka kn kc va vn vc ia jn ic p := by
  have hb := below_new (o := .cells #[.slice ka kn kc, .slice va vn vc, .slice ia jn ic] 25) (w := w) (Below.refl _ _)
  have hm : Pgr w (fun b => b < w.heap.size) ka kn kc va vn vc ia jn ic p := ⟨Rw.mono h.hk (fun b _ hb => hb), Rw.mono h.hv (fun b _ hb => hb), Rw.mono h.hi (fun b _ hb => hb)⟩
  exact ⟨hb, Bk.new w _ [_, _, _], hm.below hb⟩
theorem PX.cells {w v : World} {ka : Option Addr} {kn kc : Nat} {va : Option Addr} {vn vc : Nat} {ia : Option Addr} {jn ic : Nat} {p : PG} (h : PX w v ka kn kc va vn vc ia jn ic p) : v.cell? ⟨w.heap.size, 0, none⟩ = some (.slice ka kn kc) ∧ v.cell? ⟨w.heap.size, 1, none⟩ = some (.slice va vn vc) ∧ v.cell? ⟨w.heap.size, 2, none⟩ = some (.slice ia jn ic) := ⟨h.kA.cell (j := 0) rfl, h.kA.cell (j := 1) rfl, h.kA.cell (j := 2) rfl⟩
/-- A copy of the page, its rows in blocks of their own. -/
structure PC (v : World) (g0 g1 g2 : Nat) (p : PG) : Prop where
  k0 : Bk v g0 9 (p.keys.map Value.string)
  k1 : Bk v g1 9 (p.vals.map Value.string)
  k2 : Bk v g2 3 (p.kids.map (Value.int .i64))
theorem PC.below {v v' : World} {g0 g1 g2 : Nat} {p : PG} (h : PC v g0 g1 g2 p) (hb : Below v.heap.size v v') : PC v' g0 g1 g2 p := ⟨h.k0.below hb, h.k1.below hb, h.k2.below hb⟩
theorem PC.to {v v' : World} {g0 g1 g2 : Nat} {p : PG} {R : Nat → Prop} (h : PC v g0 g1 g2 p) (ho : Only R v v') (h0 : ¬ R g0) (h1 : ¬ R g1) (h2 : ¬ R g2) : PC v' g0 g1 g2 p := ⟨h.k0.to ho h0, h.k1.to ho h1, h.k2.to ho h2⟩
theorem PC.pgr {v : World} {g0 g1 g2 kn vn jn : Nat} {p : PG} (h : PC v g0 g1 g2 p) (nk : kn = p.keys.length) (nv : vn = p.vals.length) (ni : jn = p.kids.length) (b0 : kn ≤ 1048576) (b1 : vn ≤ 1048576) (b2 : jn ≤ 1048576) {S : Nat → Prop} (s0 : S g0) (s1 : S g1) (s2 : S g2) :
    Pgr v S (some ⟨g0, 0, none⟩) kn kn (some ⟨g1, 0, none⟩) vn vn (some ⟨g2, 0, none⟩) jn jn p := by
  subst nk nv ni
  exact ⟨h.k0.rw (Nat.le_refl _) (by omega) (fun e => by rw [List.eq_nil_of_length_eq_zero e]; rfl) S s0, h.k1.rw (Nat.le_refl _) (by omega) (fun e => by rw [List.eq_nil_of_length_eq_zero e]; rfl) S s1, h.k2.rw (Nat.le_refl _) (by omega) (fun e => by rw [List.eq_nil_of_length_eq_zero e]; rfl) S s2⟩
end Go.Proofs.YtpgogpphobafoaaDoor

