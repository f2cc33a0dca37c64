/-
  The law FnExactCut answers true at every slice of strings and every range, and writes nothing that was there.
-/
import Derived.Test.YtbfgjadonilonaaCutW
namespace Go.Proofs.Ytbfgjadonilonaa
open Go.RowKit
set_option maxHeartbeats 8000000 in
theorem lawCut_walk (a : Option Addr) (n c : Nat) (ss : List ByteArray) (lo hi : ByteArray) (w : World) (h : Sd w a n c ss) (hl : lo.size ≤ maxLen ∧ hi.size ≤ maxLen) :
    Calls Try.prog 6 #[.slice a n c, .agg #[.string lo, .string hi]] w fun e w' => e = .returned (.bool true) ∧ Below w.heap.size w w' := by
  have L0 := hid (below_alloc w (.cells #[.string lo, .string hi] 35))
  have H0 := hid (h.kept (below_alloc w (.cells #[.string lo, .string hi] 35)))
  have R0 : Hid (Rr (w.alloc (.cells #[.string lo, .string hi] 35)) (w.alloc (.cells #[.string lo, .string hi] 35)) w.heap.size lo hi) := ⟨World.cell?_alloc_at (hn := rfl) .., World.cell?_alloc_at (hn := rfl) .., Below.refl _ _⟩
  have hlo : lo.size ≤ 9223372036854775807 := hl.1
  have hhi : hi.size ≤ 9223372036854775807 := hl.2
  clear h hl
  go_enter Try.func6, Try.ntmps6
  go_wp2_with fail
  refine (szStringS_any a n c ss _ H0.out).mono ?_
  generalize w.alloc (.cells #[.string lo, .string hi] 35) = u at *
  rintro e u' ⟨⟨x, rfl, hx, hx1, hx2⟩, rfl⟩
  obtain ⟨r0, r1, _⟩ := R0.out.cells
  by_cases hneg : x < 0
  · go_wp2
    go_ret
    exact ⟨rfl, L0.out⟩
  have hn : n ≤ 1048576 := by omega
  clear hx
  go_wp2_with fail
  refine (szRange_any lo hi x _ (by omega) (by omega) hlo hhi).mono ?_
  rintro e v1 ⟨⟨y, rfl, hy1, hy2⟩, hb1⟩
  have R1 : Hid (Rr u v1 w.heap.size lo hi) := { R0.out with bel := hb1 }
  clear hb1 R0 r0 r1
  obtain ⟨r0, r1, _⟩ := R1.out.cells
  by_cases hneg2 : y < 0
  · go_wp2
    go_ret
    exact ⟨rfl, thn3 L0.out R1.out.bel⟩
  clear hx1 hx2 hneg
  have hps : (cutL ss lo hi).length ≤ 1048577 := by
    have h1 := cutTo_length ss lo hi (ss.length + 1)
    have h2 := H0.out.1
    unfold cutL
    omega
  obtain ⟨ps, hcut⟩ : ∃ ps, cutL ss lo hi = ps := ⟨_, rfl⟩
  rw [hcut] at hps
  have HC := hid hcut
  clear hcut
  go_wp2_with fail
  go_region_held3 (fun v => v.cell? ⟨w.heap.size, 0, none⟩ = some (.string lo) ∧ v.cell? ⟨w.heap.size, 1, none⟩ = some (.string hi) ∧ Rr u v w.heap.size lo hi)
    (first | assumption | exact Rr.call (below_drew _) R1.out.cells | exact Rr.call hbC (by assumption))
    (first
      | (go_at_call 10; refine (toStringS_any a n c ss _ (Rr.sd (by assumption) H0.out) hn).mono ?_; rintro e v2 ⟨rfl, S2, hbC, _⟩)
      | (go_at_call 20; refine (toRange_any lo hi _).mono ?_; rintro e v3 ⟨rfl, hbC⟩; have S3 := S2.kept hbC)
      | (go_at_call 19; refine (specCut_any _ n n ss lo hi _ S3 hn).mono ?_; rintro e v4 ⟨q0, rfl, P4, hbC⟩))
  rename_i hS
  rw [HC.out] at P4
  have R4 := hid (Rr.of hS)
  have W4 := hid (P4.lower (Nat.zero_le _))
  clear hS P4 hbC S2 S3 R1 r0 r1
  go_wp2_with fail
  refine (toStringS_full a n c ss _ (H0.out.kept R4.out.bel) hn).mono ?_
  rintro e v5 ⟨rfl, S5, hb5, hz5, hx5⟩
  have R5 : Hid (Rr u v5 w.heap.size lo hi) := { R4.out with bel := thn3 R4.out.bel hb5 }
  have W5 := hid (W4.out.below hb5)
  have X5 : Hid (Xs v5 v4.heap.size n) := ⟨ss, hx5, H0.out.1.symm⟩
  have HW0 := hid (fun k hk => (World.ownsRow.lt W4.out k hk).2)
  have HXu : Hid (u.heap.size ≤ v4.heap.size) := R4.out.bel.size
  have T5 := hid S5
  have HZ : Hid (v4.heap.size < v5.heap.size) := by show v4.heap.size < v5.heap.size; omega
  clear S5 hb5 hz5 hx5 W4 R4
  generalize v4.heap.size = X at *
  obtain ⟨r0, r1, _⟩ := R5.out.cells
  go_wp2_with fail
  refine (toRange_any lo hi _).mono ?_
  rintro e v6 ⟨rfl, hb6⟩
  have R6 : Hid (Rr u v6 w.heap.size lo hi) := { R5.out with bel := thn3 R5.out.bel hb6 }
  have W6 := hid (W5.out.below hb6)
  have X6 := hid (X5.out.kept hb6)
  have T6 := hid (T5.out.kept hb6)
  have HZ6 : Hid (X < v6.heap.size) := Nat.lt_of_lt_of_le HZ.out hb6.size
  clear hb6 R5 W5 X5 T5 HZ r0 r1
  go_wp2_with fail
  refine (implCut_any _ n n ss lo hi _ T6.out hn).mono ?_
  rintro e v7 ⟨g0, rfl, P7, hb7⟩
  rw [HC.out] at P7
  have R7 : Hid (Rr u v7 w.heap.size lo hi) := { R6.out with bel := thn3 R6.out.bel hb7 }
  have W7 := hid (W6.out.below hb7)
  have X7 := hid (X6.out.kept hb7)
  have T7 := hid (T6.out.kept hb7)
  have G7 := hid (P7.lower (show X + 1 ≤ v6.heap.size from HZ6.out))
  have HZ7 : Hid (X < v7.heap.size) := Nat.lt_of_lt_of_le HZ6.out hb7.size
  clear hb7 P7 R6 W6 X6 T6 HZ6
  go_wp2_with fail
  refine (eqPartS_same g0 q0 _ _ ps _ G7.out W7.out hps).mono ?_
  rintro e v8 ⟨rfl, hb8⟩
  have R8 : Hid (Rr u v8 w.heap.size lo hi) := { R7.out with bel := thn3 R7.out.bel hb8 }
  have W8 := hid (W7.out.below hb8)
  have X8 := hid (X7.out.kept hb8)
  have T8 := hid (T7.out.kept hb8)
  have G8 := hid (G7.out.below hb8)
  clear hb8 R7 W7 X7 T7 G7 HZ7
  go_wp2_with fail
  refine (toStringS_any a n c ss _ (H0.out.kept R8.out.bel) hn).mono ?_
  rintro e v9 ⟨rfl, S9, hb9, _⟩
  have R9 : Hid (Rr u v9 w.heap.size lo hi) := { R8.out with bel := thn3 R8.out.bel hb9 }
  have W9 := hid (W8.out.below hb9)
  have X9 := hid (X8.out.kept hb9)
  have T9 := hid (T8.out.kept hb9)
  have G9 := hid (G8.out.below hb9)
  have U9 := hid S9
  clear hb9 R8 W8 X8 T8 G8 S9
  go_wp2_with fail
  refine (eqStringS_same _ _ n n n ss _ T9.out U9.out).mono ?_
  rintro e v10 ⟨rfl, hb10⟩
  have R10 : Hid (Rr u v10 w.heap.size lo hi) := { R9.out with bel := thn3 R9.out.bel hb10 }
  have W10 := hid (W9.out.below hb10)
  have X10 := hid (X9.out.kept hb10)
  have G10 := hid (G9.out.below hb10)
  clear hb10 R9 W9 X9 T9 G9 U9
  go_wp2_with fail
  refine (markStringS_any X n _ X10.out hn).mono ?_
  rintro e v11 ⟨rfl, hg11⟩
  have R11 : Hid (Rr u v11 w.heap.size lo hi) := { R10.out with bel := below_grown R10.out.bel hg11 HXu.out }
  have W11 := hid (W10.out.grown hg11 (fun k hk e => by have := HW0.out k hk; cases e; omega))
  have G11 := hid (G10.out.grown hg11 (fun k hk e => by have := (World.ownsRow.lt G10.out k hk).1; cases e; omega))
  clear hg11 R10 W10 X10 G10
  have hk : ¬ (1 : Int) + (n : Int) < 0 := by omega
  go_wp2_with fail
  refine (eqPartS_same g0 q0 _ _ ps _ G11.out W11.out hps).mono ?_
  rintro e v12 ⟨rfl, hb12⟩
  have R12 : Hid (Rr u v12 w.heap.size lo hi) := { R11.out with bel := thn3 R11.out.bel hb12 }
  have W12 := hid (W11.out.below hb12)
  have G12 := hid (G11.out.below hb12)
  clear hb12 R11 W11 G11
  go_wp2_with fail
  refine (markPartS_any g0 _ ps _ _ G12.out rfl hps).mono ?_
  have hps2 := hps
  generalize hm : ps.length = m at hps2 ⊢
  have HM0 := hid hm
  clear hm
  rintro e v13 ⟨rfl, L13, hg13⟩
  have R13 : Hid (Rr u v13 w.heap.size lo hi) := { R12.out with bel := below_grown' R12.out.bel hg13 (fun k hk => by have := (World.ownsRow.lt G12.out k hk).1; have := HXu.out; omega) }
  have W13 := hid (W12.out.grown hg13 (fun k hk e => by have := (World.ownsRow.lt G12.out k e).1; have := HW0.out k hk; omega))
  have M13 := hid L13
  clear hg13 L13 R12 W12 G12
  have HH := hid (fun v (h : Hl v g0 m) => heldPartS_any g0 m v h hps2)
  have hq2 : ¬ ((m * 3 + 1 : Nat) : Int) < 0 := by omega
  generalize ((m * 3 + 1 : Nat) : Int) = z at *
  have hq : (z != z) = false := by simp
  go_wp2_with fail
  refine (HH.out _ M13.out).mono ?_
  rintro e v14 ⟨rfl, hb14⟩
  have R14 : Hid (Rr u v14 w.heap.size lo hi) := { R13.out with bel := thn3 R13.out.bel hb14 }
  have W14 := hid (W13.out.below hb14)
  have M14 := hid (M13.out.kept hb14)
  clear hb14 R13 W13 M13
  go_wp2_with fail
  go_region_held3 (fun v => v.cell? ⟨w.heap.size, 0, none⟩ = some (.string lo) ∧ v.cell? ⟨w.heap.size, 1, none⟩ = some (.string hi) ∧ Rr u v w.heap.size lo hi)
    (first | assumption | exact Rr.call (below_drew _) R14.out.cells | exact Rr.call hbC (by assumption))
    (first
      | (go_at_call 10; refine (toStringS_any a n c ss _ (Rr.sd (by assumption) H0.out) hn).mono ?_; rintro e v15 ⟨rfl, S15, hbC, _⟩; have W15 := Pw.below (W14.out.below (below_drew _)) hbC; have M15 := Hl.kept (M14.out.kept (below_drew _)) hbC)
      | (go_at_call 20; refine (toRange_any lo hi _).mono ?_; rintro e v16 ⟨rfl, hbC⟩; have S16 := S15.kept hbC; have W16 := W15.below hbC; have M16 := M15.kept hbC)
      | (go_at_call 21; refine (implCut_any _ n n ss lo hi _ S16 hn).mono ?_; rintro e v17 ⟨h0, rfl, P17, hbC⟩; have W17 := W16.below hbC; have M17 := M16.kept hbC))
  rename_i hS
  rw [HC.out] at P17
  have R17 := hid (Rr.of hS)
  have W17' := hid W17
  have M17' := hid M17
  have P17' := hid P17
  clear hS P17 W17 M17 hbC S15 S16 W15 W16 M15 M16 R14 W14 M14
  go_wp2_with fail
  refine (eqPartS_same h0 q0 _ _ ps _ P17'.out W17'.out hps).mono ?_
  rintro e v18 ⟨rfl, hb18⟩
  have R18 : Hid (Rr u v18 w.heap.size lo hi) := { R17.out with bel := thn3 R17.out.bel hb18 }
  have M18 := hid (M17'.out.kept hb18)
  clear hb18 R17 W17' M17' P17'
  go_wp2_with fail
  refine (HH.out _ M18.out).mono ?_
  rintro e v19 ⟨rfl, hb19⟩
  have B19 := hid (thn3 L0.out (thn3 R18.out.bel hb19))
  clear hb19 R18 M18
  go_wp2
  go_ret
  exact ⟨rfl, B19.out⟩
end Go.Proofs.Ytbfgjadonilonaa
