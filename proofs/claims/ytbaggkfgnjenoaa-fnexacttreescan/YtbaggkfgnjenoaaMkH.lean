/-
  The law's helper that looks for marks in a slice of pairs: it finds them all.
-/
import Derived.Test.YtbaggkfgnjenoaaMkP
import Derived.Test.YtbaggkfgnjenoaaKc
namespace Go.Proofs.Ytbaggkfgnjenoaa
open Go.RowKit
theorem kc1 {u v : World} {a0 : Addr} {x0 : Value} (h : KC u v [(a0, x0)]) : v.cell? a0 = some x0 ∧ KC u v [(a0, x0)] := ⟨h.at (by simp), h⟩
theorem kc0_1 {u : World} {a0 : Addr} {x0 : Value} (h0 : u.cell? a0 = some x0) : KC u u [(a0, x0)] := ⟨fun p hp => by simp at hp; rcases hp with rfl; assumption, Below.refl _ _⟩
theorem kc1c {u v v' : World} {a0 : Addr} {x0 : Value} (k : Below v.heap.size v v') (h : v.cell? a0 = some x0 ∧ KC u v [(a0, x0)]) : v'.cell? a0 = some x0 ∧ KC u v' [(a0, x0)] := kc1 (KC.call h.2 k)
/-- The marks lie there. -/
def Lies (w : World) (a : Option Addr) (n m : Nat) (V : Nat → Value) : Prop := 0 < n → ∃ b off, a = some ⟨b, off, none⟩ ∧ b < w.heap.size ∧ ∀ j, j < m → w.cell? ⟨b, off + j, none⟩ = some (V j)
theorem Lies.below {w w' : World} {a : Option Addr} {n m : Nat} {V : Nat → Value} (h : Lies w a n m V) (hb : Below w.heap.size w w') : Lies w' a n m V := by
  intro hn
  obtain ⟨b, off, h1, h2, h3⟩ := h hn
  exact ⟨b, off, h1, Nat.lt_of_lt_of_le h2 hb.size, fun j hj => by rw [hb.cell (p := ⟨b, off + j, none⟩) h2]; exact h3 j hj⟩
theorem Marked.lies {S : Nat → Prop} {w w' : World} {a : Option Addr} {n m : Nat} {V : Nat → Value} {K : Value → Prop} (h : Marked S w a n m V K w') : Lies w' a n m V := by
  intro hn
  obtain ⟨b, off, h1, _, T, xs, h2, _, h3⟩ := h.2 hn
  exact ⟨b, off, h1, h2.lt, fun j hj => h2.cell (h3 j hj)⟩
set_option maxHeartbeats 4000000 in
theorem heldPairS_any (a : Option Addr) (n c k : Nat) (w : World) (h : Lies w a n (n * 2) (mV k)) (hc : n ≤ c) (hn : n ≤ 1048576) (hk0 : 0 < k) (hk : k ≤ 576460752303423488) :
    Calls Try.prog 41 #[.slice a n c, .int .i64 k] w fun e w' => e = .returned (.int .i64 ((k + n * 2 : Nat) : Int)) ∧ Below w.heap.size w w' := by
  have H0 := hid h
  clear h
  go_enter Try.func41, Try.ntmps41
  go_wp2_with fail
  go_loopw [1, 5] (fun x i wr => ∃ j : Nat, x = .int .i64 ((k + j * 2 : Nat) : Int) ∧ i = .int .i64 j ∧ j ≤ n ∧ Hid (Below w.heap.size w wr)) (fun _ i _ => n - (intOf i).toNat)
  case atStart => exact ⟨0, rfl, rfl, Nat.zero_le _, Below.refl _ _⟩
  case round =>
    obtain ⟨j, rfl, rfl, hj, HB⟩ := hrel
    by_cases hlt : j < n
    · have hlt' : (j : Int) < (n : Int) := by omega
      have hj0 : (0 : Int) ≤ (j : Int) := by omega
      obtain ⟨b, off, ha, hbl, hcell⟩ := (H0.out.below HB.out) (by omega)
      subst ha
      have c0 := hcell (j * 2) (by omega)
      have c1 := hcell (j * 2 + 1) (by omega)
      simp only [mV] at c0 c1
      rw [← Nat.add_assoc] at c1
      rw [← Nat.add_assoc] at c1
      have HT1 := hid (fun w => markText_at (k + j * 2) ((k + j * 2 : Nat) : Int) rfl w (by omega) (by omega))
      have HT2 := hid (fun w => markText_at (k + j * 2 + 1) (((k + j * 2 : Nat) : Int) + 1) (by omega) w (by omega) (by omega))
      clear hcell
      generalize mt (k + j * 2) = m1 at *
      generalize mt (k + j * 2 + 1) = m2 at *
      generalize hkz : k + j * 2 = kz at *
      have hkz1 : kz ≤ 576460754400575488 := by omega
      have HK := hid hkz
      have T1 := hid (kc0_1 c0)
      have C1' := hid c1
      clear hkz c1
      go_wp2_with fail
      go_region_held3 (fun v => v.cell? ⟨b, off + j * 2, none⟩ = some (.string m1) ∧ KC wr v [(⟨b, off + j * 2, none⟩, .string m1)])
        (first | assumption | exact kc1 (T1.out.call (below_drew _)) | exact kc1c hbC (by assumption))
        (first | (go_at_call 70; refine (HT1.out _).mono ?_; rintro e w1 ⟨rfl, hbC⟩))
      rename_i hS
      have B1 := hid hS.2.bel
      have d2 : w1.cell? ⟨b, off + j * 2 + 1, none⟩ = some (.string m2) := by rw [B1.out.cell (p := ⟨b, off + j * 2 + 1, none⟩) hbl]; exact C1'.out
      have T2 := hid (kc0_1 d2)
      clear hS c0 T1 HT1 hbC
      go_wp2_with fail
      go_region_held3 (fun v => v.cell? ⟨b, off + j * 2 + 1, none⟩ = some (.string m2) ∧ KC w1 v [(⟨b, off + j * 2 + 1, none⟩, .string m2)])
        (first | assumption | exact kc1 (T2.out.call (below_drew _)) | exact kc1c hbC (by assumption))
        (first | (go_at_call 70; refine (HT2.out _).mono ?_; rintro e w2 ⟨rfl, hbC⟩))
      rename_i hS
      have B2 := hid (Below.then' (Below.then' HB.out B1.out (Nat.le_refl _)) hS.2.bel (Nat.le_refl _))
      clear hS T2 HT2 d2
      go_wp2
      go_roundw
      case rel => exact ⟨j + 1, by rw [show k + (j + 1) * 2 = kz + 2 by have := HK.out; omega]; go_num, by go_num, by omega, B2.out⟩
      case measure => simp [intOf]; omega
    · have hlt' : ¬ (j : Int) < (n : Int) := by omega
      have hjn : j = n := by omega
      subst hjn
      have HK : Hid ((k : Int) + (j : Int) * 2 = ((k + j * 2 : Nat) : Int)) := by show _ = _; omega
      generalize k + j * 2 = kz at *
      go_wp2
      go_ret
      exact ⟨by rw [HK.out]; rfl, HB.out⟩
end Go.Proofs.Ytbaggkfgnjenoaa

