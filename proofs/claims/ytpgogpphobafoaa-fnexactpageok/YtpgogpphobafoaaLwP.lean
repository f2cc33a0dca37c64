/-
  The law FnExactPageOk answers true at every page; what the laws over pages keep at hand.
-/
import Derived.Test.YtpgogpphobafoaaPgI
import Derived.Test.YtpgogpphobafoaaPgL
import Derived.Deep.RegionLaw
namespace Go.Proofs.Ytpgogpphobafoaa
open Go.RowKit
/-- The law's own page, in its box and with its rows below. -/
structure PX (w v : World) (ka : Option Addr) (kn kc : Nat) (va : Option Addr) (vn vc : Nat) (ia : Option Addr) (jn ic : Nat) (p : PG) : Prop where
  bel : Below w.heap.size w v
  kA : Bk v w.heap.size 25 [.slice ka kn kc, .slice va vn vc, .slice ia jn ic]
  hA : Pgr v (fun b => b < w.heap.size) ka kn kc va vn vc ia jn ic p
theorem PX.below {w v v' : World} {ka : Option Addr} {kn kc : Nat} {va : Option Addr} {vn vc : Nat} {ia : Option Addr} {jn ic : Nat} {p : PG} (h : PX w v ka kn kc va vn vc ia jn ic p) (hb : Below v.heap.size v v') : PX w v' ka kn kc va vn vc ia jn ic p := ⟨btw h.bel hb, h.kA.below hb, h.hA.below hb⟩
theorem PX.only {w v v' : World} {ka : Option Addr} {kn kc : Nat} {va : Option Addr} {vn vc : Nat} {ia : Option Addr} {jn ic : Nat} {p : PG} (h : PX w v ka kn kc va vn vc ia jn ic p) {R : Nat → Prop} (ho : Only R v v') (hR : ∀ b, R b → w.heap.size < b) : PX w v' ka kn kc va vn vc ia jn ic p :=
  ⟨h.bel.trans (ho.below h.bel.size (fun b hb hr => by have := hR b hr; omega)), h.kA.to ho (fun hr => by have := hR _ hr; omega), h.hA.to ho (fun b hb _ hr => by have := hR b hr; omega)⟩
theorem PX.start {w : World} {ka : Option Addr} {kn kc : Nat} {va : Option Addr} {vn vc : Nat} {ia : Option Addr} {jn ic : Nat} {p : PG} (h : Pgr w (fun _ => True) ka kn kc va vn vc ia jn ic p) : PX w (w.alloc (.cells #[.slice ka kn kc, .slice va vn vc, .slice ia jn ic] 25)) ka kn kc va vn vc ia jn ic p := by
  have hb := below_new (o := .cells #[.slice ka kn kc, .slice va vn vc, .slice ia jn ic] 25) (w := w) (Below.refl _ _)
  have hm : Pgr w (fun b => b < w.heap.size) ka kn kc va vn vc ia jn ic p := ⟨Rw.mono h.hk (fun b _ hb => hb), Rw.mono h.hv (fun b _ hb => hb), Rw.mono h.hi (fun b _ hb => hb)⟩
  exact ⟨hb, Bk.new w _ [_, _, _], hm.below hb⟩
theorem PX.cells {w v : World} {ka : Option Addr} {kn kc : Nat} {va : Option Addr} {vn vc : Nat} {ia : Option Addr} {jn ic : Nat} {p : PG} (h : PX w v ka kn kc va vn vc ia jn ic p) : v.cell? ⟨w.heap.size, 0, none⟩ = some (.slice ka kn kc) ∧ v.cell? ⟨w.heap.size, 1, none⟩ = some (.slice va vn vc) ∧ v.cell? ⟨w.heap.size, 2, none⟩ = some (.slice ia jn ic) := ⟨h.kA.cell (j := 0) rfl, h.kA.cell (j := 1) rfl, h.kA.cell (j := 2) rfl⟩
/-- A copy of the page, its rows in blocks of their own. -/
structure PC (v : World) (g0 g1 g2 : Nat) (p : PG) : Prop where
  k0 : Bk v g0 9 (p.keys.map Value.string)
  k1 : Bk v g1 9 (p.vals.map Value.string)
  k2 : Bk v g2 3 (p.kids.map (Value.int .i64))
theorem PC.below {v v' : World} {g0 g1 g2 : Nat} {p : PG} (h : PC v g0 g1 g2 p) (hb : Below v.heap.size v v') : PC v' g0 g1 g2 p := ⟨h.k0.below hb, h.k1.below hb, h.k2.below hb⟩
theorem PC.to {v v' : World} {g0 g1 g2 : Nat} {p : PG} {R : Nat → Prop} (h : PC v g0 g1 g2 p) (ho : Only R v v') (h0 : ¬ R g0) (h1 : ¬ R g1) (h2 : ¬ R g2) : PC v' g0 g1 g2 p := ⟨h.k0.to ho h0, h.k1.to ho h1, h.k2.to ho h2⟩
theorem PC.pgr {v : World} {g0 g1 g2 kn vn jn : Nat} {p : PG} (h : PC v g0 g1 g2 p) (nk : kn = p.keys.length) (nv : vn = p.vals.length) (ni : jn = p.kids.length) (b0 : kn ≤ 1048576) (b1 : vn ≤ 1048576) (b2 : jn ≤ 1048576) {S : Nat → Prop} (s0 : S g0) (s1 : S g1) (s2 : S g2) :
    Pgr v S (some ⟨g0, 0, none⟩) kn kn (some ⟨g1, 0, none⟩) vn vn (some ⟨g2, 0, none⟩) jn jn p := by
  subst nk nv ni
  exact ⟨h.k0.rw (Nat.le_refl _) (by omega) (fun e => by rw [List.eq_nil_of_length_eq_zero e]; rfl) S s0, h.k1.rw (Nat.le_refl _) (by omega) (fun e => by rw [List.eq_nil_of_length_eq_zero e]; rfl) S s1, h.k2.rw (Nat.le_refl _) (by omega) (fun e => by rw [List.eq_nil_of_length_eq_zero e]; rfl) S s2⟩
set_option maxHeartbeats 8000000 in
set_option maxRecDepth 20000 in
theorem lawPageOk_walk (ka : Option Addr) (kn kc : Nat) (va : Option Addr) (vn vc : Nat) (ia : Option Addr) (jn ic : Nat) (p : PG) (w : World) (h : Pgr w (fun _ => True) ka kn kc va vn vc ia jn ic p ∧ szOkS p.keys ∧ szOkS p.vals) :
    Calls Try.prog 3 #[.agg #[.slice ka kn kc, .slice va vn vc, .slice ia jn ic]] w fun e w' => e = .returned (.bool true) ∧ Below w.heap.size w w' := by
  have X0 := hid (PX.start h.1)
  have NK := hid (Rw.len h.1.hk).1
  have NV := hid (Rw.len h.1.hv).1
  have NI := hid (Rw.len h.1.hi).1
  have HZ := hid h.2
  clear h
  go_enter Try.func3, Try.ntmps3
  go_wp2_with fail
  refine (szPage_any _ ka va ia kn kc vn vc jn ic p _ _ X0.out.hA.hk X0.out.hA.hv X0.out.hA.hi HZ.out.1 HZ.out.2 (by omega) (by omega)).mono ?_
  generalize w.alloc (.cells #[.slice ka kn kc, .slice va vn vc, .slice ia jn ic] 25) = U at *
  rintro e w1 ⟨⟨x, rfl, hx1, hx2, hx3⟩, hb⟩
  have X1 := hid (X0.out.below hb)
  have HX := hid hx3
  clear hb hx3 X0 HZ
  by_cases hneg : x < 0
  · go_wp2
    go_ret
    exact ⟨rfl, X1.out.bel⟩
  · have m0 := (HX.out (by omega)).1
    have m1 := (HX.out (by omega)).2.1
    have m2 := (HX.out (by omega)).2.2
    clear HX
    obtain ⟨x0, x1, x2⟩ := X1.out.cells
    go_wp2_with fail
    refine (toPage_any _ ka va ia kn kc vn vc jn ic p _ X1.out.hA.hk X1.out.hA.hv X1.out.hA.hi m0 m1 m2).mono ?_
    rintro e w2 ⟨g0, g1, g2, rfl, -, -, -, k0, k1, k2, hb⟩
    have X2 := hid (X1.out.below hb)
    have C2 : Hid (PC w2 g0 g1 g2 p) := ⟨k0, k1, k2⟩
    clear hb X1 k0 k1 k2 x0 x1 x2
    go_wp2_with fail
    refine (specPageOk_any (fun _ => True) _ _ _ _ _ _ _ _ _ p _ (C2.out.pgr NK.out NV.out NI.out m0 m1 m2 trivial trivial trivial)).mono ?_
    rintro e w3 ⟨rfl, hb⟩
    have X3 := hid (X2.out.below hb)
    clear hb X2 C2
    obtain ⟨x0, x1, x2⟩ := X3.out.cells
    go_wp2_with fail
    refine (toPage_any _ ka va ia kn kc vn vc jn ic p _ X3.out.hA.hk X3.out.hA.hv X3.out.hA.hi m0 m1 m2).mono ?_
    rintro e w4 ⟨h0, h1, h2, rfl, -, -, -, k0, k1, k2, hb⟩
    have X4 := hid (X3.out.below hb)
    have C4 : Hid (PC w4 h0 h1 h2 p) := ⟨k0, k1, k2⟩
    clear hb X3 k0 k1 k2 x0 x1 x2
    have hb := below_new (o := .cells #[.slice (some ⟨h0, 0, none⟩) kn kn, .slice (some ⟨h1, 0, none⟩) vn vn, .slice (some ⟨h2, 0, none⟩) jn jn] 28) (w := w4) (Below.refl _ _)
    have X5 := hid (X4.out.below hb)
    have C5 := hid (C4.out.below hb)
    have K5 := hid (Bk.new w4 28 [.slice (some ⟨h0, 0, none⟩) kn kn, .slice (some ⟨h1, 0, none⟩) vn vn, .slice (some ⟨h2, 0, none⟩) jn jn])
    clear hb X4 C4
    go_wp2_with fail
    refine (implPageOk_any (fun _ => True) _ _ _ _ _ _ _ _ _ p _ (C5.out.pgr NK.out NV.out NI.out m0 m1 m2 trivial trivial trivial)).mono ?_
    generalize w4.alloc (.cells #[.slice (some ⟨h0, 0, none⟩) kn kn, .slice (some ⟨h1, 0, none⟩) vn vn, .slice (some ⟨h2, 0, none⟩) jn jn] 28) = w5 at *
    generalize w4.heap.size = b4 at *
    rintro e w6 ⟨rfl, hb⟩
    have X6 := hid (X5.out.below hb)
    have C6 := hid (C5.out.below hb)
    have K6 := hid (K5.out.below hb)
    clear hb X5 C5 K5
    have hne : (pgOk p != pgOk p) = false := by simp
    generalize pgOk p = Z at *
    obtain ⟨x0, x1, x2⟩ := X6.out.cells
    have y0 := K6.out.cell (j := 0) rfl
    have y1 := K6.out.cell (j := 1) rfl
    have y2 := K6.out.cell (j := 2) rfl
    have X7 := hid (X6.out.below (below_drew _))
    have C7 := hid (C6.out.below (below_drew _))
    have K7 := hid (K6.out.below (below_drew _))
    go_wp2_with fail
    go_cut [26] (fun x v => x = .bool false ∧ Below w.heap.size w v)
    case first =>
      go_region_with (first
        | (go_at_call 7; refine (toPage_any _ ka va ia kn kc vn vc jn ic p _ X7.out.hA.hk X7.out.hA.hv X7.out.hA.hi m0 m1 m2).mono ?_; rintro e w8 ⟨f0, f1, f2, rfl, -, -, -, k0, k1, k2, hb8⟩; have z0 := (K7.out.below hb8).cell (j := 0) rfl; have z1 := (K7.out.below hb8).cell (j := 1) rfl; have z2 := (K7.out.below hb8).cell (j := 2) rfl)
        | (go_at_call 9; refine (eqPage_any (fun _ => True) (fun _ => True) _ _ _ _ _ _ _ _ _ _ _ _ _ _ _ _ _ _ p p _ ((C7.out.below hb8).pgr NK.out NV.out NI.out m0 m1 m2 trivial trivial trivial).hk ((C7.out.below hb8).pgr NK.out NV.out NI.out m0 m1 m2 trivial trivial trivial).hv ((C7.out.below hb8).pgr NK.out NV.out NI.out m0 m1 m2 trivial trivial trivial).hi ((PC.mk k0 k1 k2).pgr NK.out NV.out NI.out m0 m1 m2 trivial trivial trivial).hk ((PC.mk k0 k1 k2).pgr NK.out NV.out NI.out m0 m1 m2 trivial trivial trivial).hv ((PC.mk k0 k1 k2).pgr NK.out NV.out NI.out m0 m1 m2 trivial trivial trivial).hi).mono ?_; rintro e w9 ⟨rfl, hb9⟩))
      all_goals (go_wp2_with fail; go_meet)
      all_goals exact ⟨by simp, btw (btw X7.out.bel hb8) hb9⟩
    case rest =>
      obtain ⟨rfl, hbf⟩ := hcut
      have BF := hid hbf
      clear hbf
      go_wp2
      go_ret
      exact ⟨rfl, BF.out⟩
end Go.Proofs.Ytpgogpphobafoaa

