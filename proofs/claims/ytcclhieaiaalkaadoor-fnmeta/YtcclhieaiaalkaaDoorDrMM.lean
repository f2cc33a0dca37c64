/-
  MakeMetas: two metas that are right and a place to tear.
-/
import Derived.Test.YtcclhieaiaalkaaDoorDraw
import Derived.Test.YtcclhieaiaalkaaDoorPairL
namespace Go.Proofs.YtcclhieaiaalkaaDoor
open Go.RowKit
theorem Bk.grownM {v v' : World} {b g : Nat} {T : TypeId} {vs : List Value} (h : Bk v b T vs) (hg : v.grownBy v' (some g)) (hne : b ≠ g) : Bk v' b T vs := h.to (only_of_grown hg (R := fun y => y = g) (fun k e => by cases e; rfl)) hne
theorem below_grownM {u w w' : World} {X : Nat} (h : Below u.heap.size u w) (hg : w.grownBy w' (some X)) (hX : u.heap.size ≤ X) : Below u.heap.size u w' :=
  ⟨hg.os.trans h.os, hg.tape.trans h.tape, hg.output.trans h.output, Nat.le_trans h.size hg.size, fun i hi => (hg.block i (Nat.lt_of_lt_of_le hi h.size) (by intro e; cases e; omega)).trans (h.block i hi)⟩
def gens : List Int := [1, 2, 253, 254, 255, 256, 65534, 65535, 16777214, 1099511627773]
def tears : List Int := [0, 1, 2, 3, 4, 5, 6, 7, 8, 506, 507, 508, 509, 510, 511, 512]
theorem gens_at {k : Nat} (h : k < 10) : ∃ v, (gens.map (Value.int .i64))[k]? = some (.int .i64 v) ∧ 1 ≤ v ∧ v ≤ 1099511627773 := by
  have hl : k < gens.length := h
  refine ⟨gens[k], by rw [List.getElem?_map, List.getElem?_eq_getElem hl]; rfl, ?_⟩
  have : ∀ x ∈ gens, 1 ≤ x ∧ x ≤ 1099511627773 := by decide
  exact this _ (List.getElem_mem hl)
theorem tears_at {k : Nat} (h : k < 16) : ∃ v, (tears.map (Value.int .i64))[k]? = some (.int .i64 v) ∧ 0 ≤ v ∧ v ≤ 513 := by
  have hl : k < tears.length := h
  refine ⟨tears[k], by rw [List.getElem?_map, List.getElem?_eq_getElem hl]; rfl, ?_⟩
  have : ∀ x ∈ tears, 0 ≤ x ∧ x ≤ 513 := by decide
  exact this _ (List.getElem_mem hl)
theorem results_tmp4 {fn : Func} {t u v x : Tmp} (h : fn.results = #[.tmp t, .tmp u, .tmp v, .tmp x]) (tmps : Array Value) (P : Program) (w : World) :
    (results fn tmps).run P w = .ok (.tuple #[tmps.getD t undef, tmps.getD u undef, tmps.getD v undef, tmps.getD x undef]) w := by
  simp [results, h]
def MmPost (w : World) (e : Ending) (w' : World) : Prop := (∃ g a b n : Int, e = .returned (.tuple #[.int .i64 g, .int .i64 a, .int .i64 b, .int .i64 n]) ∧ (1 ≤ g ∧ g ≤ 1099511627773) ∧ (2 ≤ a ∧ a ≤ 301) ∧ (2 ≤ b ∧ b ≤ 301) ∧ 0 ≤ n ∧ n ≤ 513) ∧ Below w.heap.size w w'
set_option maxHeartbeats 4000000 in
theorem makeMetas_any (a : Option Addr) (n c : Nat) (zs : List Int) (w : World) (h : Rd w a n c zs) (hl : n ≤ 1048576) :
    Calls Tryd.prog 13 #[.slice a n c] w fun e w' => MmPost w e w' := by
  have HR := hid h
  clear h
  go_enter Tryd.func13, Tryd.ntmps13
  go_wp2_with fail
  refine (new_any a n c zs _ HR.out hl).mono ?_
  rintro e w1 ⟨rfl, hb1, hc1⟩
  have B1 := hid hb1
  have C1 := hid hc1
  have HGL := hid hc1.lt
  clear hb1 hc1 HR
  obtain ⟨g, hg⟩ : ∃ g, g = w.heap.size := ⟨_, rfl⟩
  rw [← hg] at C1 HGL ⊢
  have HGW := hid (Nat.le_of_eq hg.symm)
  clear hg
  have K1 : Hid (Bk (w1.alloc (.cells #[.int .i64 1, .int .i64 2, .int .i64 253, .int .i64 254, .int .i64 255, .int .i64 256, .int .i64 65534, .int .i64 65535, .int .i64 16777214, .int .i64 1099511627773] 3)) w1.heap.size 3 (gens.map (Value.int .i64))) := Bk.new w1 3 (gens.map (Value.int .i64))
  have B1' : Hid (Below w.heap.size w (w1.alloc (.cells #[.int .i64 1, .int .i64 2, .int .i64 253, .int .i64 254, .int .i64 255, .int .i64 256, .int .i64 65534, .int .i64 65535, .int .i64 16777214, .int .i64 1099511627773] 3))) := B1.out.trans ((below_new (Below.refl _ _)).mono B1.out.size)
  have C1' := hid (C1.out.alloc (.cells #[.int .i64 1, .int .i64 2, .int .i64 253, .int .i64 254, .int .i64 255, .int .i64 256, .int .i64 65534, .int .i64 65535, .int .i64 16777214, .int .i64 1099511627773] 3))
  have HNE : Hid (w1.heap.size ≠ g) := by have := HGL.out; show _ ≠ _; omega
  clear B1 C1 HGL
  go_wp2_with fail
  refine (below_any g 10 _ C1'.out (by omega) (by omega)).mono ?_
  generalize w1.alloc (.cells #[.int .i64 1, .int .i64 2, .int .i64 253, .int .i64 254, .int .i64 255, .int .i64 256, .int .i64 65534, .int .i64 65535, .int .i64 16777214, .int .i64 1099511627773] 3) = U1 at *
  generalize w1.heap.size = b1 at *
  rintro e w2 ⟨⟨x, rfl, hx0, hx1⟩, hg2, hc2⟩
  obtain ⟨x, rfl⟩ := Int.eq_ofNat_of_zero_le hx0
  obtain ⟨gv', hgv, hg0, hg1⟩ := gens_at (k := x) (by omega)
  have m2 := (K1.out.grownM hg2 HNE.out).cell hgv
  have B2 := hid (below_grownM B1'.out hg2 HGW.out)
  have C2 := hid hc2
  clear hg2 hc2 hgv K1 B1' C1' HNE
  go_wp2_with fail
  refine (below_any g 514 _ C2.out (by omega) (by omega)).mono ?_
  rintro e w3 ⟨⟨y, rfl, hy0, hy1⟩, hg3, hc3⟩
  have B3 := hid (below_grownM B2.out hg3 HGW.out)
  have C3 := hid hc3
  clear hg3 hc3 B2 C2 m2 hx0 hx1
  go_wp2_with fail
  refine (below_any g 2 _ C3.out (by omega) (by omega)).mono ?_
  rintro e w4 ⟨⟨q, rfl, hq0, hq1⟩, hg4, hc4⟩
  have B4 := hid (below_grownM B3.out hg4 HGW.out)
  have C4 := hid hc4
  clear hg4 hc4 B3 C3
  by_cases hq : q = 0
  · subst hq
    clear hq0 hq1
    have K4 : Hid (Bk (w4.alloc (.cells #[.int .i64 0, .int .i64 1, .int .i64 2, .int .i64 3, .int .i64 4, .int .i64 5, .int .i64 6, .int .i64 7, .int .i64 8, .int .i64 506, .int .i64 507, .int .i64 508, .int .i64 509, .int .i64 510, .int .i64 511, .int .i64 512] 3)) w4.heap.size 3 (tears.map (Value.int .i64))) := Bk.new w4 3 (tears.map (Value.int .i64))
    have B4' : Hid (Below w.heap.size w (w4.alloc (.cells #[.int .i64 0, .int .i64 1, .int .i64 2, .int .i64 3, .int .i64 4, .int .i64 5, .int .i64 6, .int .i64 7, .int .i64 8, .int .i64 506, .int .i64 507, .int .i64 508, .int .i64 509, .int .i64 510, .int .i64 511, .int .i64 512] 3))) := B4.out.trans ((below_new (Below.refl _ _)).mono B4.out.size)
    have C4' := hid (C4.out.alloc (.cells #[.int .i64 0, .int .i64 1, .int .i64 2, .int .i64 3, .int .i64 4, .int .i64 5, .int .i64 6, .int .i64 7, .int .i64 8, .int .i64 506, .int .i64 507, .int .i64 508, .int .i64 509, .int .i64 510, .int .i64 511, .int .i64 512] 3))
    have HNE : Hid (w4.heap.size ≠ g) := by have := C4.out.lt; show _ ≠ _; omega
    clear B4 C4
    go_wp2_with fail
    refine (below_any g 16 _ C4'.out (by omega) (by omega)).mono ?_
    generalize w4.alloc (.cells #[.int .i64 0, .int .i64 1, .int .i64 2, .int .i64 3, .int .i64 4, .int .i64 5, .int .i64 6, .int .i64 7, .int .i64 8, .int .i64 506, .int .i64 507, .int .i64 508, .int .i64 509, .int .i64 510, .int .i64 511, .int .i64 512] 3) = U4 at *
    generalize w4.heap.size = b4 at *
    rintro e w5 ⟨⟨z, rfl, hz0, hz1⟩, hg5, hc5⟩
    obtain ⟨z, rfl⟩ := Int.eq_ofNat_of_zero_le hz0
    obtain ⟨tv, htv, ht0, ht1⟩ := tears_at (k := z) (by omega)
    have m5 := (K4.out.grownM hg5 HNE.out).cell htv
    have B5 := hid (below_grownM B4'.out hg5 HGW.out)
    have C5 := hid hc5
    clear hg5 hc5 htv K4 B4' C4' HNE
    go_wp2_with fail
    refine (below_any g 300 _ C5.out (by omega) (by omega)).mono ?_
    rintro e w6 ⟨⟨r1, rfl, hr0, hr1⟩, hg6, hc6⟩
    have B6 := hid (below_grownM B5.out hg6 HGW.out)
    have C6 := hid hc6
    clear hg6 hc6 B5 C5 m5 hz0 hz1
    go_wp2_with fail
    refine (below_any g 300 _ C6.out (by omega) (by omega)).mono ?_
    rintro e w7 ⟨⟨r2, rfl, hs0, hs1⟩, hg7, hc7⟩
    have B7 := hid (below_grownM B6.out hg7 HGW.out)
    clear hg7 hc7 B6 C6
    go_wp2
    refine bodyPost_ret (results_tmp4 rfl _ _ _) rfl ?_
    exact ⟨⟨_, _, _, _, rfl, ⟨hg0, hg1⟩, by omega, by omega, ht0, ht1⟩, B7.out⟩
  · go_wp2_with fail
    refine (below_any g 300 _ C4.out (by omega) (by omega)).mono ?_
    rintro e w6 ⟨⟨r1, rfl, hr0, hr1⟩, hg6, hc6⟩
    have B6 := hid (below_grownM B4.out hg6 HGW.out)
    have C6 := hid hc6
    clear hg6 hc6 B4 C4
    go_wp2_with fail
    refine (below_any g 300 _ C6.out (by omega) (by omega)).mono ?_
    rintro e w7 ⟨⟨r2, rfl, hs0, hs1⟩, hg7, hc7⟩
    have B7 := hid (below_grownM B6.out hg7 HGW.out)
    clear hg7 hc7 B6 C6
    go_wp2
    refine bodyPost_ret (results_tmp4 rfl _ _ _) rfl ?_
    exact ⟨⟨_, _, _, _, rfl, ⟨hg0, hg1⟩, by omega, by omega, by omega, by omega⟩, B7.out⟩
end Go.Proofs.YtcclhieaiaalkaaDoor

