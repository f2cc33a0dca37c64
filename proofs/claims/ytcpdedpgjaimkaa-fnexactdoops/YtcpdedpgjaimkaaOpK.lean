/-
  markOpS: the row's cells and its bytes turn, nothing else.
-/
import Derived.Test.YtcpdedpgjaimkaaOpL
import Derived.Test.YtcpdedpgjaimkaaDkK
namespace Go.Proofs.Ytcpdedpgjaimkaa
open Go.RowKit
set_option linter.unusedVariables false
theorem ownBlock_mapO (a : Option Addr) (n c : Nat) : (Value.slice a n c).ownBlock = a.map (·.block) := by cases a <;> rfl
/-- What is left to be marked. -/
structure MO (w wr : World) (g N n j : Nat) (X : List (Bool × Int × Value)) (l : List OW) : Prop where
  bk : ∃ ys : List Value, Bk wr g 111 ys ∧ ys.length = n * 3 ∧ ∀ i, j ≤ i → i < n → ys[i * 3 + 2]? = some (yAt X i).2.2
  on : Only (fun y => g ≤ y ∧ y < N) w wr
  ob : ∀ i, j ≤ i → i < n → Ob wr (g + 1) (yAt X i).2.2 (oAt l i).2.2 ∧ byt (oAt l i).2.2
set_option maxHeartbeats 4000000 in
theorem markOpS_any (g N n k : Nat) (X : List (Bool × Int × Value)) (l : List OW) (w : World) (h : OO w g N n X l) (ht : offS (l.map sndO) n ≤ 4194304) (hk0 : 0 < k) (hk : k ≤ 1000000000) :
    Calls Try.prog 21 #[.slice (some ⟨g, 0, none⟩) n n, .int .i64 (k : Int)] w fun e w' => (∃ q : Nat, e = .returned (.int .i64 (q : Int))) ∧ Only (fun y => g ≤ y ∧ y < N) w w' := by
  have hn := h.few
  have HT := hid ht
  have M0 : Hid (MO w w g N n 0 X l) := ⟨⟨ocs X, h.bk, by rw [ocs_length, h.len], fun i _ hi => (ocs_at X i (by rw [h.len]; exact hi)).2.2⟩, Only.refl _ _, fun i _ hi => by have := h.sl.own i hi; rwa [uAt_mapY, shAt_mapO] at this⟩
  have HAP : Hid (∀ i j, i < n → j < n → i ≠ j → ∀ y, (yAt X i).2.2.ownBlock = some y → (yAt X j).2.2.ownBlock ≠ some y) := fun i j hi hj hij y hy => by
    have := h.sl.apart i j hi hj hij y
    rw [uAt_mapY, uAt_mapY] at this
    exact this hy
  have HLT : Hid (∀ i, i < n → ∀ y, (yAt X i).2.2.ownBlock = some y → g + 1 ≤ y ∧ y < N) := fun i hi y hy => by
    have := (h.sl.own i hi).1
    rw [uAt_mapY] at this
    exact ⟨(World.ownsRow.lt this y hy).1, h.top.2 i hi y hy⟩
  have HGW : Hid (g < N) := h.top.1
  clear h ht
  go_enter Try.func21, Try.ntmps21
  go_wp2_with fail
  go_loopw [1, 5] (fun x i wr => ∃ j q : Nat, x = .int .i64 (q : Int) ∧ i = .int .i64 j ∧ j ≤ n ∧ Hid (q = k + 2 * j + offS (l.map sndO) j) ∧ Hid (MO w wr g N n j X l)) (fun _ i _ => n - (intOf i).toNat)
  case atStart => exact ⟨0, k, rfl, rfl, Nat.zero_le _, rfl, M0.out⟩
  case round =>
    clear M0
    obtain ⟨j, q, rfl, rfl, hj, HQ, MM⟩ := hrel
    by_cases hlt : j < n
    · have hlt' : (j : Int) < (n : Int) := by omega
      have hle := offS_mono (l.map sndO) (show j + 1 ≤ n by omega)
      have HOF : Hid (offS (l.map sndO) (j + 1) = offS (l.map sndO) j + (oAt l j).2.2.length) := by show _ = _; rw [offS, shAt_mapO]
      have hlen : (oAt l j).2.2.length ≤ 4194304 := by have := HT.out; have := HOF.out; omega
      have hqs : q ≤ 1010000000 := by have h1 := HQ.out; have h2 := HT.out; have h3 := HOF.out; omega
      obtain ⟨ys, y1, y2, y3⟩ := MM.out.bk
      have HY := hid (And.intro y1 (And.intro y2 y3))
      have HAT : Hid (∀ i, i < n * 3 → ∃ u, ys[i]? = some u) := fun i hi => ⟨ys[i]'(by rw [y2]; exact hi), by simp [y2, hi]⟩
      obtain ⟨hob, hbyt⟩ := MM.out.ob j (Nat.le_refl _) hlt
      obtain ⟨a2, c2, e0, hrd, -⟩ := Ob.rd hob hbyt (by omega)
      have hwb := Ob.wb hob e0 (oAt l j).2.2.length
      have HE0 := hid e0
      have hgj : ∀ y, (Value.slice a2 (oAt l j).2.2.length c2).ownBlock = some y → y ≠ g := fun y e => by rw [← e0] at e; have := (HLT.out j hlt y e).1; omega
      obtain ⟨u0, hu0⟩ := HAT.out (j * 3) (by omega)
      obtain ⟨u1, hu1⟩ := HAT.out (j * 3 + 1) (by omega)
      have c0 := y1.cell hu0
      have c1 := y1.cell hu1
      have c3 := y1.cell (y3 j (Nat.le_refl _) hlt)
      rw [e0] at c3
      have f0 := y1.free (j * 3)
      have f1 := y1.free (j * 3 + 1)
      have HMK : Hid (∀ b : Bool, Calls Try.prog 69 #[.slice a2 (oAt l j).2.2.length c2, .int .i64 ((q : Int) + 1 + 1)] ((wr.setCell ⟨g, j * 3, none⟩ (.bool b)).setCell ⟨g, j * 3 + 1, none⟩ (.int .i64 ((q : Int) + 1))) fun e w' => e = .returned (.int .i64 ((q : Int) + 1 + 1 + ((oAt l j).2.2.length : Nat))) ∧ MO w w' g N n (j + 1) X l) := by
        intro b
        have OS : Only (fun y => y = g) wr ((wr.setCell ⟨g, j * 3, none⟩ (.bool b)).setCell ⟨g, j * 3 + 1, none⟩ (.int .i64 ((q : Int) + 1))) := (only_set (R := fun y => y = g) rfl _).trans (only_set (R := fun y => y = g) rfl _)
        refine (mark_any a2 _ c2 _ ((q : Int) + 1 + 1) _ (hrd.toD OS (fun y e e2 => hgj y e e2)) (by
          intro x hx i hi
          rw [World.frozen?_setCell, World.frozen?_setCell]
          exact hwb x hx i hi) (by omega) (by omega)).mono ?_
        rintro e w1 ⟨rfl, -, hg1⟩
        have O1 : Only (fun y => (Value.slice a2 (oAt l j).2.2.length c2).ownBlock = some y) _ w1 := only_of_grown hg1 (fun k e => by rw [ownBlock_mapO]; exact e)
        refine ⟨rfl, ⟨_, ((HY.out.1.set (j * 3) (.bool b)).set (j * 3 + 1) (.int .i64 ((q : Int) + 1))).to O1 (fun e => hgj _ e rfl), by simp [HY.out.2.1], fun i hi hi2 => ?_⟩, ?_, fun i hi hi2 => ?_⟩
        · rw [List.getElem?_set_ne (by omega), List.getElem?_set_ne (by omega)]
          exact HY.out.2.2 i (by omega) hi2
        · have := HGW.out
          refine (MM.out.on.trans (OS.mono (fun y _ e => ⟨by omega, by omega⟩))).trans (O1.mono (fun y _ e => ?_))
          rw [← HE0.out] at e
          have := HLT.out j hlt y e
          exact ⟨by omega, this.2⟩
        · have hold := MM.out.ob i (by omega) hi2
          refine ⟨own_kept (own_kept hold.1 OS (fun y e e2 => by have := (HLT.out i hi2 y e).1; omega)) O1 (fun y e e2 => ?_), hold.2⟩
          rw [← HE0.out] at e2
          exact HAP.out i j hi2 hlt (by omega) y e e2
      have HQ3 : Hid (q + 1 + 1 + (oAt l j).2.2.length = k + 2 * (j + 1) + offS (l.map sndO) (j + 1)) := by show _ = _; rw [HOF.out, HQ.out]; omega
      clear y1 y2 y3 HY HAT hob hbyt hrd hwb e0 HE0 hgj hu0 hu1 hle HOF MM HQ
      generalize (oAt l j).2.2.length = m at *
      have hw1 : IntKind.i64.wrap ((q : Int) + 1) = (q : Int) + 1 := by simp [IntKind.wrap, IntKind.signed, IntKind.bits]; omega
      have hw2 : IntKind.i64.wrap ((q : Int) + 1 + 1) = (q : Int) + 1 + 1 := by simp [IntKind.wrap, IntKind.signed, IntKind.bits]; omega
      go_wp2_with fail
      refine (HMK.out _).mono ?_
      rintro e w1 ⟨rfl, hM⟩
      have M1 := hid hM
      clear hM HMK c0 c1 c3 f0 f1
      go_wp2
      go_roundw
      case rel => exact ⟨j + 1, q + 1 + 1 + m, by go_num, by go_num, by omega, HQ3.out, M1.out⟩
      case measure => simp [intOf]; omega
    · go_wp2
      go_ret
      exact ⟨⟨q, rfl⟩, MM.out.on⟩
end Go.Proofs.Ytcpdedpgjaimkaa

