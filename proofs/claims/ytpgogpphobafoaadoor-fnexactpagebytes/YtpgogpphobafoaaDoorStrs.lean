/-
  Slices of strings: what is read of one; the law's helpers over them; SplitsOk of the program and of the specification.
-/
import Derived.Test.YtpgogpphobafoaaDoorRng
namespace Go.Proofs.YtpgogpphobafoaaDoor
open Go.RowKit

/-- The slice value '.slice a n c' has in the world w the strings ss. -/
def Sd (w : World) (a : Option Addr) (n c : Nat) (ss : List ByteArray) : Prop :=
  n = ss.length ∧ n ≤ c ∧ c ≤ 9223372036854775807 ∧ (∀ i : Nat, (ss[i]?.getD ⟨#[]⟩).size ≤ 9223372036854775807) ∧
    (0 < n → ∃ b off, a = some ⟨b, off, none⟩ ∧ b < w.heap.size ∧ ∀ i, i < n → w.cell? ⟨b, off + i, none⟩ = some (.string (ss[i]?.getD ⟨#[]⟩)))
theorem Sd.kept {w w' : World} {a : Option Addr} {n c : Nat} {ss : List ByteArray} (h : Sd w a n c ss) (hB : Below w.heap.size w w') : Sd w' a n c ss := by
  obtain ⟨h1, h2, h3, h4, h5⟩ := h
  refine ⟨h1, h2, h3, h4, fun hp => ?_⟩
  obtain ⟨b, off, rfl, hb, hc⟩ := h5 hp
  refine ⟨b, off, rfl, Nat.lt_of_lt_of_le hb hB.size, fun i hi => ?_⟩
  rw [hB.cell (p := ⟨b, off + i, none⟩) hb]
  exact hc i hi
/-- The list is right from place k on: keys, each above the one ahead. -/
def sOkF (ss : List ByteArray) : Nat → Nat → Bool
  | 0, _ => true
  | f + 1, k => kOk (ss[k]?.getD ⟨#[]⟩) && (decide (k = 0) || Op.bytesLess (ss[k - 1]?.getD ⟨#[]⟩).toList (ss[k]?.getD ⟨#[]⟩).toList) && sOkF ss f (k + 1)
def sOk (ss : List ByteArray) : Bool := decide (ss.length ≤ 3) && sOkF ss ss.length 0
theorem sOkF_no (ss : List ByteArray) (f k : Nat) (h : kOk (ss[k]?.getD ⟨#[]⟩) = false) : sOkF ss (f + 1) k = false := by simp [sOkF, h]
theorem sOkF_0 (ss : List ByteArray) (f : Nat) (h : kOk (ss[0]?.getD ⟨#[]⟩) = true) : sOkF ss (f + 1) 0 = sOkF ss f 1 := by simp only [sOkF, h]; simp
theorem sOkF_s (ss : List ByteArray) (f j : Nat) (h : kOk (ss[j + 1]?.getD ⟨#[]⟩) = true) (b : Bool) (h2 : Op.bytesLess (ss[j]?.getD ⟨#[]⟩).toList (ss[j + 1]?.getD ⟨#[]⟩).toList = b) : sOkF ss (f + 1) (j + 1) = (b && sOkF ss f (j + 1 + 1)) := by
  simp only [sOkF, h, Nat.add_sub_cancel, h2]; simp
set_option maxHeartbeats 4000000 in
theorem implKeysRise_any (a : Option Addr) (n c : Nat) (ss : List ByteArray) (w : World) (hn0 : n = ss.length) (hm : c ≤ 9223372036854775807) (hc : n ≤ c)
    (hcell : 0 < n → ∃ b off, a = some ⟨b, off, none⟩ ∧ ∀ i, i < n → w.cell? ⟨b, off + i, none⟩ = some (.string (ss[i]?.getD ⟨#[]⟩))) :
    Calls Tryd.prog 73 #[.slice a n c] w fun e w' => e = .returned (.bool (sOkF ss n 0)) ∧ w = w' := by
  have HN : Hid (n = ss.length) := hn0
  clear hn0
  go_enter Tryd.func73, Tryd.ntmps73
  go_wp2_with fail
  go_loopw [7] (fun i wr => ∃ k : Nat, k ≤ n ∧ i = .int .i64 k ∧ wr = w ∧ Hid (sOkF ss (n - k) k = sOkF ss n 0)) (fun i _ => n - (intOf i).toNat)
  case atStart => exact ⟨0, Nat.zero_le _, rfl, rfl, rfl⟩
  case round =>
    obtain ⟨k, hk, rfl, rfl, HS⟩ := hrel
    by_cases hlt : k < n
    · obtain ⟨b, off, ha, hcell⟩ := hcell (by omega)
      have hck := hcell k hlt
      have hlt' : (k : Int) < (n : Int) := by omega
      have e1 : n - k = (n - (k + 1)) + 1 := by omega
      have HE1 := hid e1
      clear e1
      rw [ha]
      rw [HE1.out] at HS
      cases k with
      | zero =>
        clear hcell
        rw [Nat.add_zero] at hck
        generalize hcur : ss[0]?.getD ⟨#[]⟩ = cur at hck
        have HC := hid hcur
        clear hcur
        go_wp2_with fail
        refine (implKeyOk_any cur _).mono ?_
        rintro e w1 ⟨rfl, rfl⟩
        cases h1 : kOk cur
        · have HZ : Hid (sOkF ss n 0 = false) := by show sOkF ss n 0 = false; rw [← HS.out]; exact sOkF_no ss _ _ (by rw [HC.out]; exact h1)
          go_wp2
          go_ret
          exact ⟨by rw [HZ.out]; rfl, rfl⟩
        · have HZ : Hid (sOkF ss (n - 1) 1 = sOkF ss n 0) := by
            show sOkF ss (n - 1) 1 = sOkF ss n 0
            rw [← HS.out]; exact (sOkF_0 ss _ (by rw [HC.out]; exact h1)).symm
          go_wp2
          go_roundw
          case rel => exact ⟨1, by omega, by go_num, by trivial, HZ⟩
          case measure => simp [intOf]; omega
      | succ j =>
        have hcj := hcell j (by omega)
        have hj1 : (0 : Int) < (j : Int) + 1 := by omega
        clear hcell
        generalize hcur : ss[j + 1]?.getD ⟨#[]⟩ = cur at hck
        generalize hprev : ss[j]?.getD ⟨#[]⟩ = prev at hcj
        have HC := hid hcur
        have HP := hid hprev
        clear hcur hprev
        go_wp2_with fail
        refine (implKeyOk_any cur _).mono ?_
        rintro e w1 ⟨rfl, rfl⟩
        cases h1 : kOk cur
        · have HZ : Hid (sOkF ss n 0 = false) := by show sOkF ss n 0 = false; rw [← HS.out]; exact sOkF_no ss _ _ (by rw [HC.out]; exact h1)
          go_wp2
          go_ret
          exact ⟨by rw [HZ.out]; rfl, rfl⟩
        · have HG : Hid (∀ b, Op.bytesLess prev.toList cur.toList = b → (b && sOkF ss (n - (j + 1 + 1)) (j + 1 + 1)) = sOkF ss n 0) := by
            intro b hb
            rw [← HS.out]
            exact (sOkF_s ss _ j (by rw [HC.out]; exact h1) b (by rw [HP.out, HC.out]; exact hb)).symm
          rcases tri prev cur with ⟨t1, t2, t3, t4⟩ | rfl | ⟨t1, t2, t3, t4⟩
          · have HZ : Hid (sOkF ss (n - (j + 1 + 1)) (j + 1 + 1) = sOkF ss n 0) := by show sOkF ss (n - (j + 1 + 1)) (j + 1 + 1) = sOkF ss n 0; have := HG.out _ t1; simpa using this
            go_wp2
            go_roundw
            case rel => exact ⟨j + 1 + 1, by omega, by go_num, by trivial, HZ⟩
            case measure => simp [intOf]; omega
          · have t1 := less_irrefl prev.toList
            have HZ : Hid (sOkF ss n 0 = false) := by show sOkF ss n 0 = false; have := HG.out _ t1; simpa using this.symm
            go_wp2
            go_ret
            exact ⟨by rw [HZ.out]; rfl, rfl⟩
          · have HZ : Hid (sOkF ss n 0 = false) := by show sOkF ss n 0 = false; have := HG.out _ t1; simpa using this.symm
            go_wp2
            go_ret
            exact ⟨by rw [HZ.out]; rfl, rfl⟩
    · have hk' : k = n := by omega
      have HZ : Hid (sOkF ss n 0 = true) := by show sOkF ss n 0 = true; rw [← HS.out, hk', Nat.sub_self]; rfl
      clear hk' hcell
      go_wp2
      go_ret
      exact ⟨by rw [HZ.out]; rfl, rfl⟩
end Go.Proofs.YtpgogpphobafoaaDoor

