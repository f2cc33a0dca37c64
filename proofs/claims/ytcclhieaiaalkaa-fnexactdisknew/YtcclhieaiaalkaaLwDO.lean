/-
  The law FnExactDiskOk answers true at every disk; what the laws over disks keep at hand.
-/
import Derived.Test.YtcclhieaiaalkaaDkE
import Derived.Test.YtcclhieaiaalkaaDkOk
import Derived.Deep.RegionLaw
import Derived.Deep.DeepCutAuto
namespace Go.Proofs.Ytcclhieaiaalkaa
open Go.RowKit
set_option linter.unusedVariables false
theorem bt5 {u v w : World} (h : Below u.heap.size u v) (k : Below v.heap.size v w) : Below u.heap.size u w := h.trans (k.mono h.size)
/-- The law's own disk, in its box and with its rows below. -/
structure DX (w v : World) (sa : Option Addr) (sn sc : Nat) (da : Option Addr) (dn dc : Nat) (d : DK) : Prop where
  bel : Below w.heap.size w v
  kA : Bk v w.heap.size 25 [.slice sa sn sc, .slice da dn dc]
  hA : Dk v (fun b => b < w.heap.size) sa sn sc da dn dc d
theorem DX.below {w v v' : World} {sa : Option Addr} {sn sc : Nat} {da : Option Addr} {dn dc : Nat} {d : DK} (h : DX w v sa sn sc da dn dc d) (hb : Below v.heap.size v v') : DX w v' sa sn sc da dn dc d := ⟨bt5 h.bel hb, h.kA.below hb, h.hA.below hb⟩
theorem DX.only {w v v' : World} {sa : Option Addr} {sn sc : Nat} {da : Option Addr} {dn dc : Nat} {d : DK} (h : DX w v sa sn sc da dn dc d) {R : Nat → Prop} (ho : Only R v v') (hR : ∀ b, R b → w.heap.size < b) : DX w v' sa sn sc da dn dc d :=
  ⟨h.bel.trans (ho.below h.bel.size (fun b hb hr => by have := hR b hr; omega)), h.kA.to ho (fun hr => by have := hR _ hr; omega), h.hA.to ho (fun b hb _ hr => by have := hR b hr; omega)⟩
theorem DX.start {w : World} {sa : Option Addr} {sn sc : Nat} {da : Option Addr} {dn dc : Nat} {d : DK} (h : Dk w (fun _ => True) sa sn sc da dn dc d) : DX w (w.alloc (.cells #[.slice sa sn sc, .slice da dn dc] 25)) sa sn sc da dn dc d := by
  have hb := below_new (o := .cells #[.slice sa sn sc, .slice da dn dc] 25) (w := w) (Below.refl _ _)
  exact ⟨hb, Bk.new w _ [_, _], (h.mono (R := fun b => b < w.heap.size) (fun b _ hb => hb)).below hb⟩
theorem DX.cells {w v : World} {sa : Option Addr} {sn sc : Nat} {da : Option Addr} {dn dc : Nat} {d : DK} (h : DX w v sa sn sc da dn dc d) : v.cell? ⟨w.heap.size, 0, none⟩ = some (.slice sa sn sc) ∧ v.cell? ⟨w.heap.size, 1, none⟩ = some (.slice da dn dc) := ⟨h.kA.cell (j := 0) rfl, h.kA.cell (j := 1) rfl⟩
set_option maxHeartbeats 8000000 in
set_option maxRecDepth 20000 in
theorem lawDiskOk_walk (sa : Option Addr) (sn sc : Nat) (da : Option Addr) (dn dc : Nat) (d : DK) (w : World) (h : Dk w (fun _ => True) sa sn sc da dn dc d) :
    Calls Try.prog 3 #[.agg #[.slice sa sn sc, .slice da dn dc]] w fun e w' => e = .returned (.bool true) ∧ Below w.heap.size w w' := by
  have X0 := hid (DX.start h)
  have NS := hid h.hs.len.1
  have ND := hid h.hd.len.1
  clear h
  go_enter Try.func3, Try.ntmps3
  go_wp2_with fail
  refine (szDisk_any _ sa sn sc da dn dc d _ X0.out.hA).mono ?_
  generalize w.alloc (.cells #[.slice sa sn sc, .slice da dn dc] 25) = U at *
  rintro e w1 ⟨⟨x, rfl, hx1, hx2, hx3⟩, hb⟩
  have X1 := hid (X0.out.below hb)
  have HX := hid hx3
  clear hb hx3 X0
  by_cases hneg : x < 0
  · go_wp2
    go_ret
    exact ⟨rfl, X1.out.bel⟩
  · have HSM := hid (small_of_sum (HX.out (by omega))).1
    have m0 : sn ≤ 1048576 := by rw [NS.out]; exact (small_of_sum (HX.out (by omega))).2.1
    have m1 : dn ≤ 1048576 := by rw [ND.out]; exact (small_of_sum (HX.out (by omega))).2.2
    clear HX
    obtain ⟨x0, x1⟩ := X1.out.cells
    go_wp2_with fail
    refine (toDisk_any _ sa sn sc da dn dc d _ X1.out.hA m0 m1 HSM.out).mono ?_
    rintro e w2 ⟨g0, g1, V, Uu, rfl, hO, hb⟩
    have X2 := hid (X1.out.below hb)
    have C2 := hid (hO.dk (S := fun _ => True) (fun _ _ => trivial))
    clear hb X1 hO x0 x1
    go_wp2_with fail
    refine (specDiskOk_any (fun _ => True) _ _ _ _ _ _ d _ C2.out).mono ?_
    rintro e w3 ⟨rfl, hb⟩
    have X3 := hid (X2.out.below hb)
    clear hb X2 C2
    obtain ⟨x0, x1⟩ := X3.out.cells
    go_wp2_with fail
    refine (toDisk_any _ sa sn sc da dn dc d _ X3.out.hA m0 m1 HSM.out).mono ?_
    rintro e w4 ⟨h0, h1, V4, U4, rfl, hO, hb⟩
    have X4 := hid (X3.out.below hb)
    have C4 := hid (hO.dk (S := fun _ => True) (fun _ _ => trivial))
    clear hb X3 hO x0 x1
    have hb := below_new (o := .cells #[.slice (some ⟨h0, 0, none⟩) sn sn, .slice (some ⟨h1, 0, none⟩) dn dn] 31) (w := w4) (Below.refl _ _)
    have X5 := hid (X4.out.below hb)
    have C5 := hid (C4.out.below hb)
    have K5 := hid (Bk.new w4 31 [.slice (some ⟨h0, 0, none⟩) sn sn, .slice (some ⟨h1, 0, none⟩) dn dn])
    clear hb X4 C4
    go_wp2_with fail
    refine (implDiskOk_any (fun _ => True) _ _ _ _ _ _ d _ C5.out).mono ?_
    generalize w4.alloc (.cells #[.slice (some ⟨h0, 0, none⟩) sn sn, .slice (some ⟨h1, 0, none⟩) dn dn] 31) = w5 at *
    generalize w4.heap.size = b4 at *
    rintro e w6 ⟨rfl, hb⟩
    have X6 := hid (X5.out.below hb)
    have C6 := hid (C5.out.below hb)
    have K6 := hid (K5.out.below hb)
    clear hb X5 C5 K5
    have hne : (dkOk d != dkOk d) = false := by simp
    generalize dkOk d = Z at *
    obtain ⟨x0, x1⟩ := X6.out.cells
    have y0 := K6.out.cell (j := 0) rfl
    have y1 := K6.out.cell (j := 1) rfl
    have X7 := hid (X6.out.below (below_drew _))
    have C7 := hid (C6.out.below (below_drew _))
    have K7 := hid (K6.out.below (below_drew _))
    go_wp2_with fail
    go_cut [26] (fun x v => x = .bool false ∧ Below w.heap.size w v)
    case first =>
      go_region_with (first
        | (go_at_call 7; refine (toDisk_any _ sa sn sc da dn dc d _ X7.out.hA m0 m1 HSM.out).mono ?_; rintro e w8 ⟨f0, f1, V8, U8, rfl, hO8, hb8⟩; have z0 := (K7.out.below hb8).cell (j := 0) rfl; have z1 := (K7.out.below hb8).cell (j := 1) rfl)
        | (go_at_call 9; refine (eqDisk_any (fun _ => True) (fun _ => True) _ _ _ _ _ _ d _ _ _ _ _ _ d _ (C7.out.below hb8) (hO8.dk (S := fun _ => True) (fun _ _ => trivial)) HSM.out HSM.out).mono ?_; rintro e w9 ⟨rfl, hb9⟩))
      all_goals (go_wp2_with fail; go_meet)
      all_goals exact ⟨by simp, bt5 (bt5 X7.out.bel hb8) hb9⟩
    case rest =>
      obtain ⟨rfl, hbf⟩ := hcut
      have BF := hid hbf
      clear hbf
      go_wp2
      go_ret
      exact ⟨rfl, BF.out⟩
end Go.Proofs.Ytcclhieaiaalkaa

