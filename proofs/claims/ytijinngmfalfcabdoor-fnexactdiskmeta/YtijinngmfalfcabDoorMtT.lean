/-
  Plain mathematics: a meta's bytes are read as the meta; a meta that is torn over another one with a Gen of two less isn't read as something new.
-/
import Derived.Test.YtijinngmfalfcabDoorMtR
import Derived.Test.YtijinngmfalfcabDoorTeS
namespace Go.Proofs.YtijinngmfalfcabDoor
open Go.RowKit
theorem mtHead_len (g r : Int) : (mtHead g r).length = 8 := rfl
theorem zAt_head (g r : Int) {i : Nat} (h : i < 8) : zAt (mtFull g r) i = zAt (mtHead g r) i := by
  unfold zAt mtFull
  rw [List.getElem?_append_left (by rw [List.length_append, mtHead_len, List.length_replicate]; omega), List.getElem?_append_left (by rw [mtHead_len]; exact h)]
theorem zAt_tail (g r : Int) (k : Nat) : zAt (mtFull g r) (507 + k) = zAt (five g) k := by
  unfold zAt mtFull
  have hl : (mtHead g r ++ List.replicate 499 0).length = 507 := by rw [List.length_append, mtHead_len, List.length_replicate]
  rw [List.getElem?_append_right (by omega), hl, Nat.add_sub_cancel_left]
/-- The five digits of a number at the head and at the tail. -/
theorem digs (g r : Int) : (zAt (mtFull g r) 1 = g / 4294967296 % 256 ∧ zAt (mtFull g r) 2 = g / 16777216 % 256 ∧ zAt (mtFull g r) 3 = g / 65536 % 256 ∧ zAt (mtFull g r) 4 = g / 256 % 256 ∧ zAt (mtFull g r) 5 = g / 1 % 256) ∧
    (zAt (mtFull g r) 507 = g / 4294967296 % 256 ∧ zAt (mtFull g r) 508 = g / 16777216 % 256 ∧ zAt (mtFull g r) 509 = g / 65536 % 256 ∧ zAt (mtFull g r) 510 = g / 256 % 256 ∧ zAt (mtFull g r) 511 = g / 1 % 256) ∧
    zAt (mtFull g r) 6 = r / 256 ∧ zAt (mtFull g r) 7 = r % 256 := by
  refine ⟨⟨?_, ?_, ?_, ?_, ?_⟩, ⟨zAt_tail g r 0, zAt_tail g r 1, zAt_tail g r 2, zAt_tail g r 3, zAt_tail g r 4⟩, ?_, ?_⟩
  all_goals
    rw [zAt_head g r (by omega)]
    rfl
theorem dig_inj {x y : Int} (hx : 0 ≤ x ∧ x ≤ 1099511627777) (hy : 0 ≤ y ∧ y ≤ 1099511627777) (hx2 : x < 1099511627776) (hy2 : y < 1099511627776) (h1 : x / 4294967296 % 256 = y / 4294967296 % 256) (h2 : x / 16777216 % 256 = y / 16777216 % 256) (h3 : x / 65536 % 256 = y / 65536 % 256) (h4 : x / 256 % 256 = y / 256 % 256) (h5 : x / 1 % 256 = y / 1 % 256) : x = y := by omega
theorem mcd_full {g r : Int} (hok : mtOk g r = true) : mcd (mtFull g r) = (g, r) := by
  obtain ⟨g0, g1, r0, r1⟩ := mtOk_facts hok
  obtain ⟨⟨d1, d2, d3, d4, d5⟩, _, d6, d7⟩ := digs g r
  have e : acc (mtFull g r) 5 = ((((0 * 256 + zAt (mtFull g r) 1) * 256 + zAt (mtFull g r) 2) * 256 + zAt (mtFull g r) 3) * 256 + zAt (mtFull g r) 4) * 256 + zAt (mtFull g r) 5 := rfl
  unfold mcd
  rw [e, d1, d2, d3, d4, d5, d6, d7]
  refine Prod.ext ?_ ?_
  · show _ = g
    omega
  · show r / 256 * 256 + r % 256 = r
    omega
theorem mrd_iff (zs : List Int) (g r : Int) : mrd zs = some (g, r) ↔ mtBytes g r = some zs := by
  constructor
  · intro h
    unfold mrd at h
    split at h
    · rename_i hc
      cases h
      have := hc.2
      exact this
    · cases h
  · intro h
    have h2 := h
    unfold mtBytes at h2
    split at h2
    · rename_i hok
      cases h2
      have hm := mcd_full hok
      rw [mrd, if_pos ⟨mtFull_len g r, by rw [hm]; exact h⟩, hm]
    · cases h2
theorem tr_at {old new : List Int} (hn : new.length = 512) (n : Int) {i : Nat} (hi : i < 512) : zAt (trB old new n) i = if i < n.toNat then zAt new i else zAt old i := by
  unfold trB zAt
  by_cases h : i < n.toNat
  · rw [if_pos h, List.getElem?_append_left (by rw [List.length_take]; omega), List.getElem?_take, if_pos h]
  · rw [if_neg h, List.getElem?_append_right (by rw [List.length_take]; omega), List.length_take, List.getElem?_drop]
    congr 2
    omega
theorem tr_all {old new : List Int} (ho : old.length = 512) (hn : new.length = 512) {n : Int} (h : 512 ≤ n) : trB old new n = new := by
  rw [trB, List.take_of_length_le (by omega), List.drop_eq_nil_of_le (by omega), List.append_nil]
theorem torn {g a b : Int} (ha : mtOk g a = true) (hb : mtOk (g + 2) b = true) {n : Int} (h : n < 512) : mrd (trB (mtFull g a) (mtFull (g + 2) b) n) = none ∨ mrd (trB (mtFull g a) (mtFull (g + 2) b) n) = some (g, a) := by
  cases hm : mrd (trB (mtFull g a) (mtFull (g + 2) b) n) with
  | none => exact .inl rfl
  | some x =>
    obtain ⟨G, R⟩ := x
    right
    have h2 := (mrd_iff _ G R).1 hm
    unfold mtBytes at h2
    split at h2
    · rename_i hok
      have hz : mtFull G R = trB (mtFull g a) (mtFull (g + 2) b) n := Option.some.inj h2
      obtain ⟨g0, g1, a0, a1⟩ := mtOk_facts ha
      obtain ⟨q0, q1, b0, b1⟩ := mtOk_facts hb
      obtain ⟨G0, G1, R0, R1⟩ := mtOk_facts hok
      have at' : ∀ i, i < 512 → zAt (mtFull G R) i = if i < n.toNat then zAt (mtFull (g + 2) b) i else zAt (mtFull g a) i := fun i hi => by rw [hz]; exact tr_at (mtFull_len _ _) n hi
      obtain ⟨⟨d1, d2, d3, d4, d5⟩, ⟨e1, e2, e3, e4, e5⟩, d6, d7⟩ := digs G R
      obtain ⟨⟨n1, n2, n3, n4, n5⟩, ⟨m1, m2, m3, m4, m5⟩, n6, n7⟩ := digs (g + 2) b
      obtain ⟨⟨o1, o2, o3, o4, o5⟩, ⟨p1, p2, p3, p4, p5⟩, o6, o7⟩ := digs g a
      have t1 := at' 1 (by omega)
      have t2 := at' 2 (by omega)
      have t3 := at' 3 (by omega)
      have t4 := at' 4 (by omega)
      have t5 := at' 5 (by omega)
      have t6 := at' 6 (by omega)
      have t7 := at' 7 (by omega)
      have s1 := at' 507 (by omega)
      have s2 := at' 508 (by omega)
      have s3 := at' 509 (by omega)
      have s4 := at' 510 (by omega)
      have s5 := at' 511 (by omega)
      rw [d1, n1, o1] at t1
      rw [d2, n2, o2] at t2
      rw [d3, n3, o3] at t3
      rw [d4, n4, o4] at t4
      rw [d5, n5, o5] at t5
      rw [d6, n6, o6] at t6
      rw [d7, n7, o7] at t7
      rw [e1, m1, p1] at s1
      rw [e2, m2, p2] at s2
      rw [e3, m3, p3] at s3
      rw [e4, m4, p4] at s4
      rw [e5, m5, p5, if_neg (by omega)] at s5
      clear at' d1 d2 d3 d4 d5 d6 d7 e1 e2 e3 e4 e5 n1 n2 n3 n4 n5 n6 n7 m1 m2 m3 m4 m5 o1 o2 o3 o4 o5 o6 o7 p1 p2 p3 p4 p5 hz h2 hm
      by_cases c1 : n.toNat ≤ 507
      · rw [if_neg (by omega)] at s1 s2 s3 s4
        have hG : G = g := dig_inj (by omega) (by omega) (by omega) (by omega) s1 s2 s3 s4 s5
        by_cases c2 : 6 ≤ n.toNat
        · rw [if_pos (by omega)] at t1 t2 t3 t4 t5
          have : G = g + 2 := dig_inj (by omega) (by omega) (by omega) (by omega) t1 t2 t3 t4 t5
          omega
        · rw [if_neg (by omega)] at t6 t7
          have hR : R = a := by omega
          rw [hG, hR]
      · rw [if_pos (by omega)] at t1 t2 t3 t4 t5
        have : G = g + 2 := dig_inj (by omega) (by omega) (by omega) (by omega) t1 t2 t3 t4 t5
        omega
    · cases h2
end Go.Proofs.YtijinngmfalfcabDoor

