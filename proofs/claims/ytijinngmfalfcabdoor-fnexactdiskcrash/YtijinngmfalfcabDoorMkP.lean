/-
  The law's helpers that write marks into slices: of pairs, of texts, of numbers.
-/
import Derived.Test.YtijinngmfalfcabDoorMk
namespace Go.Proofs.YtijinngmfalfcabDoor
open Go.RowKit
def mV (k : Nat) (j : Nat) : Value := .string (mt (k + j))
def mI (k : Nat) (j : Nat) : Value := .int .i64 ((k + j : Nat) : Int)
theorem mi_mk {S : Nat → Prop} {w : World} {b off m i : Nat} {V : Nat → Value} {K : Value → Prop} (h : Mi w b off m i V K) (hS : S b) {o : Nat} (ho : o = off + i) (hi : i < m) (hs : ∀ u, K u → simV u (V i)) : Mk S w (w.setCell ⟨b, o, none⟩ (V i)) := by
  subst ho
  obtain ⟨T, xs, h1, h2, h3⟩ := h
  obtain ⟨u, h4, h5⟩ := h2 i hi
  exact mk_set h1 hS h4 (hs u h5)
theorem sim_mV (k i : Nat) : ∀ u, isStr u → simV u (mV k i) := fun _ hu => .inr (.inl ⟨hu, _, rfl⟩)
theorem sim_mI (k i : Nat) : ∀ u, isInt u → simV u (mI k i) := fun _ hu => .inr (.inr ⟨hu, _, rfl⟩)
/-- What comes of writing marks into the m cells of a slice. -/
def Marked (S : Nat → Prop) (w : World) (a : Option Addr) (n m : Nat) (V : Nat → Value) (K : Value → Prop) (w' : World) : Prop := Mk S w w' ∧ (0 < n → ∃ b off, a = some ⟨b, off, none⟩ ∧ S b ∧ Mi w' b off m m V K)
set_option maxHeartbeats 4000000 in
theorem markIntS_any (S : Nat → Prop) (a : Option Addr) (n c k : Nat) (w : World) (h : Kw w S (.slice a n c) n n isInt) (hn : n ≤ 1048576) (hk0 : 0 < k) (hk : k ≤ 576460752303423488) :
    Calls Tryd.prog 14 #[.slice a n c, .int .i64 k] w fun e w' => e = .returned (.int .i64 ((k + n : Nat) : Int)) ∧ Marked S w a n n (mI k) isInt w' := by
  obtain ⟨a', c', h1, h2, h3, h4⟩ := h
  cases h1
  rcases Nat.eq_zero_or_pos n with hz | hp
  · clear h4
    subst hz
    go_enter Tryd.func14, Tryd.ntmps14
    go_wp2_with fail
    go_loop [1, 5] (fun x i => x = .int .i64 k ∧ i = .int .i64 (0 : Nat)) (fun _ _ => 0)
    case atStart => exact ⟨rfl, rfl⟩
    case round =>
      obtain ⟨rfl, rfl⟩ := hrel
      go_wp2
      go_ret
      exact ⟨rfl, Mk.refl _ _, fun h => absurd h (Nat.lt_irrefl _)⟩
  · obtain ⟨b, off, rfl, hS, hu, hc⟩ := h4 hp
    have HI : Hid (Mi w b off n 0 (mI k) isInt) := Mi.start hu hc
    have HS := hid hS
    clear h4 hc hu hS
    go_enter Tryd.func14, Tryd.ntmps14
    go_wp2_with fail
    go_loopw [1, 5] (fun x i wr => ∃ j : Nat, x = .int .i64 ((k + j : Nat) : Int) ∧ i = .int .i64 j ∧ j ≤ n ∧ Hid (Mi wr b off n j (mI k) isInt) ∧ Hid (Mk S w wr)) (fun _ i _ => n - (intOf i).toNat)
    case atStart => exact ⟨0, rfl, rfl, Nat.zero_le _, HI.out, Mk.refl _ _⟩
    case round =>
      obtain ⟨j, rfl, rfl, hj, HX, HG⟩ := hrel
      by_cases hlt : j < n
      · have hlt' : (j : Int) < (n : Int) := by omega
        have hj0 : (0 : Int) ≤ (j : Int) := by omega
        generalize hkz : k + j = kz
        have hkz0 : 0 < kz := by omega
        have hkz1 : kz ≤ 576460754400575488 := by omega
        have HK := hid hkz
        clear hkz
        obtain ⟨⟨u0, c0, s0⟩, f0⟩ := HX.out.cell hlt
        obtain ⟨u0, rfl⟩ := s0
        have HX2 : Hid (Mi (wr.setCell ⟨b, off + j, none⟩ (.int .i64 kz)) b off n (j + 1) (mI k) isInt) := by rw [← HK.out]; exact HX.out.set rfl hlt ⟨_, rfl⟩
        have HG2 : Hid (Mk S w (wr.setCell ⟨b, off + j, none⟩ (.int .i64 kz))) := by rw [← HK.out]; exact HG.out.trans (mi_mk HX.out HS.out rfl hlt (sim_mI k j))
        clear HX HG
        go_wp2
        go_roundw
        case rel => exact ⟨j + 1, by rw [show k + (j + 1) = kz + 1 by have := HK.out; omega]; go_num, by go_num, by omega, HX2.out, HG2.out⟩
        case measure => simp [intOf]; omega
      · have hlt' : ¬ (j : Int) < (n : Int) := by omega
        have hjn : j = n := by omega
        subst hjn
        generalize hkz : k + j = kz
        go_wp2
        go_ret
        exact ⟨rfl, HG.out, fun _ => ⟨b, off, rfl, HS.out, HX.out⟩⟩
end Go.Proofs.YtijinngmfalfcabDoor

