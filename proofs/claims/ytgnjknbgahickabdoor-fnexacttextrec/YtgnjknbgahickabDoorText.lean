/-
  What both GetTexts answer, for every slice of bytes and every place.
-/
import Derived.Test.YtgnjknbgahickabDoorImplGet
import Derived.Test.YtgnjknbgahickabDoorStr
import Derived.Test.YtgnjknbgahickabDoorSpecGet
namespace Go.Proofs.YtgnjknbgahickabDoor
open Go.RowKit

theorem gvGo_range (f : Nat) (zs : List Int) (hb : ∀ i : Nat, 0 ≤ zs[i]?.getD 0 ∧ zs[i]?.getD 0 ≤ 255) : ∀ (k : Nat) (n u : Int), 0 ≤ n → 0 ≤ u →
    gvGo f zs k n u = (0, -1) ∨ ∃ j : Nat, (gvGo f zs k n u).2 = j ∧ 1 ≤ j ∧ j ≤ zs.length ∧ 0 ≤ (gvGo f zs k n u).1 ∧ (gvGo f zs k n u).1 ≤ 1099511627775 := by
  induction f with
  | zero => intro k n u _ _; exact .inl rfl
  | succ f ih =>
    intro k n u hn hu
    by_cases hk : k < zs.length
    · by_cases hd : 128 ≤ zs[k]?.getD 0
      · rw [gvGo_more f zs k n u hk hd]
        have := Int.mul_nonneg (show 0 ≤ zs[k]?.getD 0 - 128 by omega) hu
        exact ih (k + 1) _ _ (by omega) (by omega)
      · by_cases hbad : 1099511627775 < n + zs[k]?.getD 0 * u ∨ (zs[k]?.getD 0 = 0 ∧ 1 < u)
        · exact .inl (gvGo_bad f zs k n u hk (by omega) hbad)
        · rw [gvGo_good f zs k n u hk (by omega) hbad]
          have := Int.mul_nonneg (hb k).1 hu
          exact .inr ⟨k + 1, by simp, by omega, by omega, by show 0 ≤ n + zs[k]?.getD 0 * u; omega, by show n + zs[k]?.getD 0 * u ≤ 1099511627775; omega⟩
    · exact .inl (gvGo_end (f + 1) zs k n u (by omega))
theorem gv_range (zs : List Int) (hb : ∀ i : Nat, 0 ≤ zs[i]?.getD 0 ∧ zs[i]?.getD 0 ≤ 255) (p : Int) :
    gv zs p = (0, -1) ∨ ∃ j : Nat, (gv zs p).2 = j ∧ 1 ≤ j ∧ j ≤ zs.length ∧ 0 ≤ (gv zs p).1 ∧ (gv zs p).1 ≤ 1099511627775 := by
  unfold gv
  split
  · exact .inl rfl
  · exact gvGo_range 6 zs hb _ 0 1 (by omega) (by omega)

theorem rd_empty (w : World) (a : Option Addr) : Rd w a 0 0 [] := ⟨rfl, Nat.le_refl _, by omega, by omega, by simp, fun h => by omega⟩
/-- What GetText answers. -/
def gt (zs : List Int) (p : Int) : List Int × Int := if (gv zs p).2 < 0 ∨ (zs.length : Int) - (gv zs p).2 < (gv zs p).1 then ([], -1) else ((zs.drop (gv zs p).2.toNat).take (gv zs p).1.toNat, (gv zs p).2 + (gv zs p).1)

/-- A slice of a slice, read. -/
theorem Rd.slice {w : World} {b off n c : Nat} {zs : List Int} (h : Rd w (some ⟨b, off, none⟩) n c zs) (lo m : Nat) (hm : lo + m ≤ n) (k : Nat) (hk : m ≤ k) (hk2 : k ≤ c) : Rd w (some ⟨b, off + lo, none⟩) m k ((zs.drop lo).take m) := by
  obtain ⟨h1, h2, h3, h30, h4, h5⟩ := h
  refine ⟨by simp; omega, hk, by omega, by omega, fun i => ?_, fun hp => ⟨b, off + lo, rfl, ?_, fun i hi => ?_⟩⟩
  · by_cases hi : i < m
    · rw [List.getElem?_take_of_lt hi, List.getElem?_drop]; exact h4 (lo + i)
    · rw [List.getElem?_eq_none (by simp; omega)]; simp
  · obtain ⟨b', off', e, hb, _⟩ := h5 (by omega)
    cases e; exact hb
  · obtain ⟨b', off', e, hb, hc⟩ := h5 (by omega)
    cases e
    rw [List.getElem?_take_of_lt hi, List.getElem?_drop, ← hc (lo + i) (by omega), Nat.add_assoc]

set_option maxHeartbeats 800000 in
set_option maxRecDepth 20000 in
theorem implGetText_any (a : Option Addr) (n c : Nat) (zs : List Int) (p : Int) (w : World) (h : Rd w a n c zs) (hp : p ≤ 9223372036854775807) :
    Calls Tryd.prog 60 #[.slice a n c, .int .i64 p] w fun e w' => e = .returned (.tuple #[.string (strOf (gt zs p).1), .int .i64 (gt zs p).2]) ∧ w = w' := by
  have HN : Hid (n = zs.length) := h.1
  have hnm : n ≤ 140737488355328 := h.2.2.2.1
  have hcm : c ≤ 9223372036854775807 := h.2.2.1
  have hnc : n ≤ c := h.2.1
  have HC := implGetVar_any a n c zs p w h hp
  have hrg := gv_range zs h.2.2.2.2.1 p
  have HT : Hid (gt zs p = if (gv zs p).2 < 0 ∨ (zs.length : Int) - (gv zs p).2 < (gv zs p).1 then ([], -1) else ((zs.drop (gv zs p).2.toNat).take (gv zs p).1.toNat, (gv zs p).2 + (gv zs p).1)) := rfl
  generalize gv zs p = g at *
  obtain ⟨s, f⟩ := g
  have HC' := hid HC
  clear HC
  rcases hrg with hg | ⟨j, hj, hj1, hj2, hs0, hs1⟩
  · cases hg
    have HR : Hid (gt zs p = ([], -1)) := by show gt zs p = ([], -1); rw [HT.out]; simp
    clear HT
    have HD := hid h
    clear h
    go_enter Tryd.func60, Tryd.ntmps60
    go_wp2_with (go_at_call 71; refine HC'.out.mono ?_; rintro e w' ⟨rfl, rfl⟩)
    go_ret2
    exact ⟨by rw [HR.out]; rfl, rfl⟩
  · simp only at hj hs0 hs1
    subst hj
    have hjn : j ≤ n := by rw [HN.out]; exact hj2
    clear hj2
    obtain ⟨b, off, ha, hbw, _⟩ := h.2.2.2.2.2 (by omega)
    subst ha
    by_cases hlong : (n : Int) - (j : Int) < s
    · have HR : Hid (gt zs p = ([], -1)) := by
        show gt zs p = ([], -1)
        rw [HT.out]
        exact if_pos (.inr (by rw [← HN.out]; exact hlong))
      clear HT
      have HD := hid h
      clear h
      go_enter Tryd.func60, Tryd.ntmps60
      go_wp2_with (go_at_call 71; refine HC'.out.mono ?_; rintro e w' ⟨rfl, rfl⟩)
      go_ret2
      exact ⟨by rw [HR.out]; rfl, rfl⟩
    · obtain ⟨m, rfl⟩ := Int.eq_ofNat_of_zero_le hs0
      have HR : Hid (gt zs p = ((zs.drop j).take m, (j : Int) + (m : Int))) := by
        show gt zs p = ((zs.drop j).take m, (j : Int) + (m : Int))
        rw [HT.out]
        rw [if_neg (by rw [← HN.out]; simp; omega)]
        simp
      clear HT
      by_cases hcj : c = j
      · have hm0 : m = 0 := by omega
        subst hm0
        subst hcj
        have hst := run_str (rd_empty w (some ⟨b, off, none⟩))
        have HD := hid h
        clear h
        go_enter Tryd.func60, Tryd.ntmps60
        go_wp2_with (go_at_call 71; refine (HC'.out).mono ?_; rintro e w' ⟨rfl, rfl⟩)
        go_ret2
        exact ⟨by rw [HR.out]; simp, rfl⟩
      · have hst := run_str (h.slice j m (by omega) (c - j) (by omega) (by omega))
        have hj0 : ¬ j = 0 := by omega
        have HD := hid h
        clear h
        go_enter Tryd.func60, Tryd.ntmps60
        go_wp2_with (go_at_call 71; refine HC'.out.mono ?_; rintro e w' ⟨rfl, rfl⟩)
        go_ret2
        exact ⟨by rw [HR.out]; rfl, rfl⟩
set_option maxHeartbeats 800000 in
set_option maxRecDepth 20000 in
theorem specGetText_any (a : Option Addr) (n c : Nat) (zs : List Int) (p : Int) (w : World) (h : Rd w a n c zs) (hp : p ≤ 9223372036854775807) :
    Calls Tryd.prog 28 #[.slice a n c, .int .i64 p] w fun e w' => e = .returned (.tuple #[.string (strOf (gt zs p).1), .int .i64 (gt zs p).2]) ∧ Below w.heap.size w w' := by
  have HN : Hid (n = zs.length) := h.1
  have hnm : n ≤ 140737488355328 := h.2.2.2.1
  have hcm : c ≤ 9223372036854775807 := h.2.2.1
  have hnc : n ≤ c := h.2.1
  have HC := specGetVar_any a n c zs p w h hp
  have hrg := gv_range zs h.2.2.2.2.1 p
  have HT : Hid (gt zs p = if (gv zs p).2 < 0 ∨ (zs.length : Int) - (gv zs p).2 < (gv zs p).1 then ([], -1) else ((zs.drop (gv zs p).2.toNat).take (gv zs p).1.toNat, (gv zs p).2 + (gv zs p).1)) := rfl
  generalize gv zs p = g at *
  obtain ⟨s, f⟩ := g
  have HC' := hid HC
  clear HC
  rcases hrg with hg | ⟨j, hj, hj1, hj2, hs0, hs1⟩
  · cases hg
    have HR : Hid (gt zs p = ([], -1)) := by show gt zs p = ([], -1); rw [HT.out]; simp
    clear HT
    have HD := hid h
    clear h
    go_enter Tryd.func28, Tryd.ntmps28
    go_wp2_with (go_at_call 59; refine HC'.out.mono ?_; rintro e w1 ⟨rfl, hb1⟩)
    go_ret2
    exact ⟨by rw [HR.out]; rfl, hb1⟩
  · simp only at hj hs0 hs1
    subst hj
    have hjn : j ≤ n := by rw [HN.out]; exact hj2
    clear hj2
    obtain ⟨b, off, ha, hbw, _⟩ := h.2.2.2.2.2 (by omega)
    subst ha
    by_cases hlong : (n : Int) - (j : Int) < s
    · have HR : Hid (gt zs p = ([], -1)) := by
        show gt zs p = ([], -1)
        rw [HT.out]
        exact if_pos (.inr (by rw [← HN.out]; exact hlong))
      clear HT
      have HD := hid h
      clear h
      go_enter Tryd.func28, Tryd.ntmps28
      go_wp2_with (go_at_call 59; refine HC'.out.mono ?_; rintro e w1 ⟨rfl, hb1⟩)
      go_ret2
      exact ⟨by rw [HR.out]; rfl, hb1⟩
    · obtain ⟨m, rfl⟩ := Int.eq_ofNat_of_zero_le hs0
      have HR : Hid (gt zs p = ((zs.drop j).take m, (j : Int) + (m : Int))) := by
        show gt zs p = ((zs.drop j).take m, (j : Int) + (m : Int))
        rw [HT.out]
        rw [if_neg (by rw [← HN.out]; simp; omega)]
        simp
      clear HT
      by_cases hcj : c = j
      · have hm0 : m = 0 := by omega
        subst hm0
        subst hcj
        have HD := hid h
        clear h
        go_enter Tryd.func28, Tryd.ntmps28
        go_wp2_with (go_at_call 59; refine (HC'.out).mono ?_; rintro e w1 ⟨rfl, hb1⟩; have hst := run_str (rd_empty w1 (some ⟨b, off, none⟩)))
        go_ret2
        exact ⟨by rw [HR.out]; simp, hb1⟩
      · have hj0 : ¬ j = 0 := by omega
        have HD := hid h
        clear h
        go_enter Tryd.func28, Tryd.ntmps28
        go_wp2_with (go_at_call 59; refine HC'.out.mono ?_; rintro e w1 ⟨rfl, hb1⟩; have hst := run_str ((HD.out.kept hb1).slice j m (by omega) (c - j) (by omega) (by omega)))
        go_ret2
        exact ⟨by rw [HR.out]; rfl, hb1⟩
end Go.Proofs.YtgnjknbgahickabDoor

