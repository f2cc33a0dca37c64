/-
  MetaBytes and MetaRead of the specification; what is read out of a meta's bytes, as plain data.
-/
import Derived.Test.YtijinngmfalfcabDoorMtP
import Derived.Test.YtijinngmfalfcabDoorSame
namespace Go.Proofs.YtijinngmfalfcabDoor
open Go.RowKit
theorem ob_lit (w : World) (z : Int) : Ob (w.alloc (.cells #[.int .u8 z] 5)) w.heap.size (.slice (some ⟨w.heap.size, 0, none⟩) 1 1) [z] :=
  ⟨rfl, .inr ⟨w.heap.size, 1, #[.int .u8 z], rfl, Nat.le_refl _, heap_alloc_new w _, Nat.le_refl _, by decide, rfl, rfl⟩⟩
theorem rd_two (w : World) (y z : Int) (h0 : 0 ≤ y ∧ y ≤ 255) (h1 : 0 ≤ z ∧ z ≤ 255) : Rd (w.alloc (.cells #[.int .u8 y, .int .u8 z] 5)) (some ⟨w.heap.size, 0, none⟩) 2 2 [y, z] := by
  refine ⟨rfl, Nat.le_refl _, by omega, by omega, fun i => ?_, fun _ => ⟨w.heap.size, 0, rfl, by simp, fun i hi => ?_⟩⟩
  · match i with
    | 0 => exact h0
    | 1 => exact h1
    | n + 2 => simp
  · have k := Bk.new w 5 [.int .u8 y, .int .u8 z]
    match i, hi with
    | 0, _ => exact k.cell (j := 0) rfl
    | 1, _ => exact k.cell (j := 1) rfl
theorem PutM.got {w w' : World} {r : Option (List Int)} {e : Ending} {zs : List Int} (h : Put w r e w') (hr : r = some zs) : ∃ v, e = .returned (.tuple #[v, .bool true]) ∧ Ob w' w.heap.size v zs ∧ Below w.heap.size w w' := by
  obtain ⟨hb, ⟨h1, _⟩ | ⟨v, zs', h1, h2, h3⟩⟩ := h
  · rw [hr] at h1; cases h1
  · rw [hr] at h1; cases h1
    exact ⟨v, h2, h3, hb⟩
theorem btw {u v w : World} (h : Below u.heap.size u v) (k : Below v.heap.size v w) : Below u.heap.size u w := h.trans (k.mono h.size)
/-- What append leaves below, and what it keeps. -/
theorem Ob.grown {u w w' : World} {v : Value} {zs : List Int} (h : Ob w u.heap.size v zs) (hb : Below u.heap.size u w) (hg : w.grownBy w' v.ownBlock) : Below u.heap.size u w' := by
  have hon : Only (fun y => v.ownBlock = some y) w w' := only_of_grown hg (fun k e => e)
  exact hb.trans (hon.below hb.size (fun b hb' e => by have := (World.ownsRow.lt h b e).1; omega))
theorem Ob.bk {u : Nat} {w w' : World} {v : Value} {zs : List Int} {b : Nat} {T : TypeId} {xs : List Value} (h : Ob w u v zs) (hk : Bk w b T xs) (hg : w.grownBy w' v.ownBlock) (hb : b < u) : Bk w' b T xs :=
  hk.to (only_of_grown hg (R := fun y => v.ownBlock = some y) (fun k e => e)) (fun e => by have := (World.ownsRow.lt h b e).1; omega)
set_option maxHeartbeats 4000000 in
set_option maxRecDepth 20000 in
theorem specMetaBytes_any (g r : Int) (w : World) : Calls Tryd.prog 61 #[.agg #[.int .i64 g, .int .i64 r]] w fun e w' => Put w (mtBytes g r) e w' := by
  have B0 := hid (below_new (o := .cells #[.int .i64 g, .int .i64 r] 41) (w := w) (Below.refl _ _))
  have K0 := hid (Bk.new w 41 [.int .i64 g, .int .i64 r])
  have HZ0 : Hid (w.heap.size < (w.alloc (.cells #[.int .i64 g, .int .i64 r] 41)).heap.size) := by show _ < _; simp
  have HP : Hid (mtBytes g r = if mtOk g r = true then some (mtFull g r) else none) := rfl
  go_enter Tryd.func61, Tryd.ntmps61
  go_wp2_with fail
  refine (specMetaOk_any g r _).mono ?_
  generalize w.alloc (.cells #[.int .i64 g, .int .i64 r] 41) = U at *
  rintro e w1 ⟨rfl, hb1⟩
  have B1 := hid (btw B0.out hb1)
  have K1 := hid (K0.out.below hb1)
  clear hb1 B0 K0 HZ0
  cases hok : mtOk g r with
  | false =>
    have HN : Hid (mtBytes g r = none) := by show _ = _; rw [HP.out, hok]; rfl
    go_wp2
    go_ret2
    exact ⟨B1.out, .inl ⟨HN.out, rfl⟩⟩
  | true =>
    have HN : Hid (mtBytes g r = some (mtFull g r)) := by show _ = _; rw [HP.out, hok]; rfl
    obtain ⟨g0, g1, r0, r1⟩ := mtOk_facts hok
    clear hok HP
    have ba := below_new (o := .cells #[.int .u8 77] 5) (w := w1) (Below.refl _ _)
    have O2 := hid (ob_lit w1 77)
    have K2 := hid (K1.out.below ba)
    have B2 := hid (btw B1.out ba)
    have HZ : Hid (w.heap.size < w1.heap.size) := K1.out.lt
    have c0 := K2.out.cell (j := 0) rfl
    clear ba B1 K1
    go_wp2_with fail
    refine (five_any g _ (by omega) (by omega)).mono ?_
    generalize w1.alloc (.cells #[.int .u8 77] 5) = U1 at *
    generalize w1.heap.size = b1 at *
    rintro e w2 ⟨a2, c2, rfl, hR2, hlo2, hb2⟩
    have O3 := hid (O2.out.keep hb2)
    have K3 := hid (K2.out.below hb2)
    have B3 := hid (btw B2.out hb2)
    have R3 := hid hR2
    have HB1 : Hid (b1 ≤ w2.heap.size) := Nat.le_of_lt (World.ownsRow.lt O3.out b1 rfl).2
    clear hR2 hlo2 hb2 O2 K2 B2 c0
    go_wp2_with (at_builtin; refine wpList_append_by rfl _ _ rfl b1 _ [77] rfl O3.out (some a2) 5 c2 (five g) rfl R3.out (by decide) (by omega) HB1.out (fun e => by cases e) ?_)
    intro a4 n4 c4 w4 hO4 hg4 ha4
    have O4 := hid hO4
    have K4 := hid (O3.out.bk K3.out hg4 HZ.out)
    have B4 : Hid (Below w.heap.size w w4) := (O3.out.lower (Nat.le_of_lt HZ.out)).grown B3.out hg4
    clear hO4 hg4 ha4 O3 K3 B3 R3 HB1
    have hq : r.tdiv 256 = r / 256 := Int.tdiv_eq_ediv_of_nonneg r0
    have hm : r.tmod 256 = r % 256 := Int.tmod_eq_emod_of_nonneg r0
    obtain ⟨y, hy, hy0, hy1⟩ : ∃ y, r / 256 = y ∧ 0 ≤ y ∧ y ≤ 255 := ⟨_, rfl, by omega, by omega⟩
    obtain ⟨z, hz, hz0, hz1⟩ : ∃ z, r % 256 = z ∧ 0 ≤ z ∧ z ≤ 255 := ⟨_, rfl, by omega, by omega⟩
    have HYZ : Hid (mtHead g r = [77] ++ five g ++ [y, z]) := by show _ = _; rw [mtHead, hy, hz]
    rw [hy] at hq
    rw [hz] at hm
    have hw1 : IntKind.i64.wrap y = y := by simp [IntKind.wrap, IntKind.signed, IntKind.bits]; omega
    have hw2 : IntKind.i64.wrap z = z := by simp [IntKind.wrap, IntKind.signed, IntKind.bits]; omega
    have hw3 : IntKind.u8.wrap y = y := by simp [IntKind.wrap, IntKind.signed, IntKind.bits]; omega
    have hw4 : IntKind.u8.wrap z = z := by simp [IntKind.wrap, IntKind.signed, IntKind.bits]; omega
    have HHB := hid (mtHead_byte (g := g) r0 r1)
    clear hy hz
    have ba := below_new (o := .cells #[.int .u8 y, .int .u8 z] 5) (w := w4) (Below.refl _ _)
    have c1 := K4.out.cell (j := 1) rfl
    have O5 := hid (O4.out.keep ba)
    have K5 := hid (K4.out.below ba)
    have B5 := hid (btw B4.out ba)
    have R5 := hid (rd_two w4 y z ⟨hy0, hy1⟩ ⟨hz0, hz1⟩)
    have HB5 : Hid (b1 ≤ (w4.alloc (.cells #[.int .u8 y, .int .u8 z] 5)).heap.size) := by
      obtain ⟨a', c', e⟩ := O5.out.shape
      rcases O5.out.2 with ⟨e2, e3⟩ | ⟨g', cap, cur, e2, hb, hg, _⟩
      · simp [five_len] at e3
      · have := (World.ownsRow.lt O5.out g' (by rw [e2]; rfl)).2
        show _ ≤ _
        omega
    have hl6 : (77 :: five g).length ≤ 1048576 := by rw [List.length_cons, five_len]; decide
    clear ba O4 K4 B4
    go_wp2_with (at_builtin; refine wpList_append_by rfl _ _ rfl b1 _ (77 :: five g) rfl O5.out _ 2 2 [y, z] rfl R5.out hl6 (by omega) HB5.out (fun e => by cases e) ?_)
    generalize w4.alloc (.cells #[.int .u8 y, .int .u8 z] 5) = U4 at *
    intro a6 n6 c6 w6 hO6 hg6 ha6
    have hO6 : Ob w6 b1 (.slice a6 n6 c6) (mtHead g r) := by rw [HYZ.out]; simpa using hO6
    have K6 := hid (O5.out.bk K5.out hg6 HZ.out)
    have B6 : Hid (Below w.heap.size w w6) := (O5.out.lower (Nat.le_of_lt HZ.out)).grown B5.out hg6
    obtain ⟨a', c', e, hR6, _⟩ := hO6.rd (byte_at HHB.out) (by simp [mtHead, five_len])
    have hl8 : (mtHead g r).length = 8 := by simp [mtHead, five_len]
    rw [hl8] at e hR6
    cases e
    have R6 := hid hR6
    have HFL : Hid (fl (mtHead g r) 507 = some (mtHead g r ++ List.replicate 499 0)) := by
      show _ = _
      have := fl_ok (mtHead g r) 499 (by rw [hl8]; omega)
      rw [hl8] at this
      exact this
    have HB9 : Hid (∀ z ∈ mtHead g r ++ List.replicate 499 0, 0 ≤ z ∧ z ≤ 255) := byte_append HHB.out (fun z hz => by have := List.eq_of_mem_replicate hz; omega)
    have HL9 : Hid ((mtHead g r ++ List.replicate 499 0).length = 507) := by show _ = _; rw [List.length_append, hl8, List.length_replicate]
    have HEQ : Hid (mtFull g r = mtHead g r ++ List.replicate 499 0 ++ five g) := rfl
    clear hO6 hg6 ha6 hR6 hl8 O5 K5 B5 R5 HB5 HYZ HHB c1
    generalize mtHead g r ++ List.replicate 499 0 = hd at *
    go_wp2_with fail
    refine (specFill_any _ _ _ _ 507 _ R6.out (by omega)).mono ?_
    intro e w7 hput
    obtain ⟨v7, rfl, hO7, hb7⟩ := PutM.got hput HFL.out
    have K7 := hid (K6.out.below hb7)
    have B7 := hid (btw B6.out hb7)
    have HZ7 : Hid (w.heap.size < w6.heap.size) := K6.out.lt
    have O7 := hid (hO7.lower (Nat.le_of_lt HZ7.out))
    have OX := hid hO7
    have HW : Hid (w6.heap.size ≤ w7.heap.size) := hb7.size
    obtain ⟨a7, c7, e7⟩ := hO7.shape
    rw [HL9.out] at e7
    subst e7
    clear hput hO7 hb7 K6 B6 R6 HFL
    have c0 := K7.out.cell (j := 0) rfl
    go_wp2_with fail
    refine (five_any g _ (by omega) (by omega)).mono ?_
    rintro e w8 ⟨a8, c8, rfl, hR8, hlo8, hb8⟩
    have O8 := hid (OX.out.keep hb8)
    have B8 := hid (btw B7.out hb8)
    have R8 := hid hR8
    have HW8 : Hid (w6.heap.size ≤ w8.heap.size) := Nat.le_trans HW.out hb8.size
    clear hR8 hlo8 hb8 O7 OX K7 B7 c0 HW
    go_wp2_with (at_builtin; refine wpList_append_by rfl _ _ rfl w6.heap.size _ hd rfl O8.out (some a8) 5 c8 (five g) rfl R8.out (by rw [HL9.out]; omega) (by omega) HW8.out (fun e => by cases e) ?_)
    intro a9 n9 c9 w9 hO9 hg9 ha9
    have O9 : Hid (Ob w9 w.heap.size (.slice a9 n9 c9) (mtFull g r)) := by rw [HEQ.out]; exact hO9.lower (Nat.le_of_lt HZ7.out)
    have B9 : Hid (Below w.heap.size w w9) := (O8.out.lower (Nat.le_of_lt HZ7.out)).grown B8.out hg9
    clear hO9 hg9 ha9 O8 B8 R8
    go_wp2
    go_ret2
    exact ⟨B9.out, .inr ⟨_, _, HN.out, rfl, O9.out⟩⟩
end Go.Proofs.YtijinngmfalfcabDoor

