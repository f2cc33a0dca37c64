/-
  The law FnExactPartOf answers true at every slice of strings and every number.
-/
import Derived.Test.YtbfgjadonilonaaStrL
import Derived.Test.YtbfgjadonilonaaPart
import Derived.Deep.DeepCutAuto
namespace Go.Proofs.Ytbfgjadonilonaa
open Go.RowKit
theorem below_thn {u v v' : World} (h : Below u.heap.size u v) (k : Below v.heap.size v v') : Below u.heap.size u v' := h.trans (k.mono h.size)
theorem below_swap {u v : World} {o o' : Obj} (hz : u.heap.size ≤ v.heap.size) (h : Below u.heap.size u (v.alloc o)) : Below u.heap.size u (v.alloc o') :=
  ⟨h.os, h.tape, h.output, by simp; omega, fun k hk => by rw [heap_alloc_old v o' (by omega), ← heap_alloc_old v o (by omega)]; exact h.block k hk⟩
theorem below_sets2 {u v : World} {g : Nat} {x y : Value} (hz : u.heap.size ≤ g) (h : Below u.heap.size u v) : Below u.heap.size u ((v.setCell ⟨g, 0, none⟩ x).setCell ⟨g, 1, none⟩ y) :=
  (h.setCell (p := ⟨g, 0, none⟩) hz x).setCell (p := ⟨g, 1, none⟩) hz y
theorem big_of {u v v' : World} (k : Below v.heap.size v v') (h : Below u.heap.size u v) : u.heap.size ≤ v'.heap.size := Nat.le_trans h.size k.size
set_option maxHeartbeats 4000000 in
theorem lawPartOf_walk (a : Option Addr) (n c : Nat) (ss : List ByteArray) (i : Int) (w : World) (h : Sd w a n c ss) (hi : (Lit.int .i64 i).wf = true) :
    Calls Try.prog 5 #[.slice a n c, .int .i64 i] w fun e w' => e = .returned (.bool true) ∧ Below w.heap.size w w' := by
  have H0 := hid h
  have HI := hid (i64_bounds hi)
  clear h hi
  go_enter Try.func5, Try.ntmps5
  go_wp2_with fail
  refine (szStringS_any a n c ss _ H0.out).mono ?_
  rintro e w' ⟨⟨x, rfl, hx, hx1, hx2⟩, rfl⟩
  by_cases hneg : x < 0
  · go_wp2
    go_ret
    exact ⟨rfl, Below.refl _ _⟩
  · have HN : Hid (n ≤ 1048576) := by show n ≤ 1048576; omega
    clear hx hx1 hx2
    go_wp2_with fail
    refine (toStringS_any a n c ss _ H0.out HN.out).mono ?_
    rintro e w1 ⟨rfl, S1, hb1, _⟩
    go_wp2_with fail
    refine (specPartOf_any _ n n ss i _ S1 HI.out.1 HI.out.2).mono ?_
    rintro e w2 ⟨rfl, hb2⟩
    have B2 := hid (below_thn hb1 hb2)
    clear S1 hb1 hb2
    generalize hX : pLo ss i = X
    generalize hY : pHi ss i = Y
    generalize hZ : pOk ss i = Z
    have HX := hid hX
    have HY := hid hY
    have HZ := hid hZ
    clear hX hY hZ
    go_wp2_with fail
    have B3 := hid (below_thn B2.out (below_alloc' w2 (Obj.cells #[Value.string X, Value.string Y] 30)))
    have K3 := hid (Blk.new w2 X Y)
    have hlt3 := K3.out.lt
    refine (toStringS_any a n c ss _ (H0.out.kept B3.out) HN.out).mono ?_
    generalize w2.alloc (Obj.cells #[Value.string X, Value.string Y] 30) = v3 at *
    rintro e w4 ⟨rfl, S4, hb4, _⟩
    have B4 := hid (below_thn B3.out hb4)
    have K4 := hid (K3.out.kept hb4)
    clear B2 B3 K3
    go_wp2_with fail
    refine (implPartOf_any _ n n ss i _ S4 HI.out.1 HI.out.2).mono ?_
    rintro e w5 ⟨rfl, hb5⟩
    have B5 := hid (below_thn B4.out hb5)
    have K5 := hid (K4.out.kept hb5)
    have S5 := hid (S4.kept hb5)
    clear B4 K4 S4 hb4 hb5
    rw [HX.out, HY.out, HZ.out]
    have hl5 := K5.out.lt
    have hne : ¬ w2.heap.size = w5.heap.size := by omega
    obtain ⟨c0, c1, _, _⟩ := K5.out.facts
    go_wp2_with fail
    have B6 := hid (below_thn B5.out (below_alloc' w5 (Obj.cells #[Value.string X, Value.string Y] 30)))
    have S6 := hid (S5.out.kept (below_alloc' w5 (Obj.cells #[Value.string X, Value.string Y] 30)))
    refine (eqRange_same X Y _).mono ?_
    generalize w5.alloc (Obj.cells #[Value.string X, Value.string Y] 30) = v6 at *
    rintro e w7 ⟨rfl, hb7⟩
    have B7 := hid (below_thn B6.out hb7)
    have S7 := hid (S6.out.kept hb7)
    clear B5 B6 S5 S6 hb7 K5 c0 c1 hl5 hne hlt3 HX HY HZ
    have hzz : (Z != Z) = false := by simp
    go_wp2_with fail
    refine (toStringS_any a n c ss _ (H0.out.kept B7.out) HN.out).mono ?_
    rintro e w8 ⟨rfl, S8, hb8, _⟩
    have B8 := hid (below_thn B7.out hb8)
    have S9 := hid (S7.out.kept hb8)
    have S10 := hid S8
    clear B7 S7 S8 hb8
    go_wp2_with fail
    refine (eqStringS_same _ _ n n n ss _ S9.out S10.out).mono ?_
    rintro e w9 ⟨rfl, hb9⟩
    have B9 := hid (below_thn B8.out hb9)
    clear hb9 B8
    go_wp2
    go_ret
    exact ⟨rfl, B9.out⟩
end Go.Proofs.Ytbfgjadonilonaa
