/-
  What the law's helpers do with slices of strings: their sizes are summed, they are copied, they are held against each other.
-/
import Derived.Test.YtbfgjadonilonaaStrs
namespace Go.Proofs.Ytbfgjadonilonaa
open Go.RowKit

theorem infoStr : (Try.prog.info? 9).map (fun i => (i.zero, i.size, i.bytes)) = some (some (.string ⟨#[]⟩), 1, 16) := by kernel_rfl
def strVals (ss : List ByteArray) : Array Value := (ss.map Value.string).toArray
def partS (ss : List ByteArray) (k : Nat) : Array Value := ((ss.take k).map Value.string ++ List.replicate (ss.length - k) (Value.string ⟨#[]⟩)).toArray
theorem partS_zero (ss : List ByteArray) : partS ss 0 = madeCells #[.string ⟨#[]⟩] ss.length := by
  apply Array.ext
  · simp [partS, madeCells]
  · intro i h1 h2; simp [partS, madeCells, Nat.mod_one]
theorem partS_all (ss : List ByteArray) : partS ss ss.length = strVals ss := by simp [partS, strVals]
theorem partS_at (ss : List ByteArray) (k : Nat) (h : k < ss.length) : (partS ss k)[k]? = some (.string ⟨#[]⟩) := by
  simp only [partS, List.getElem?_toArray]
  have hl : ((ss.take k).map Value.string).length = k := by simp; omega
  rw [List.getElem?_append_right (by omega), hl, List.getElem?_replicate]
  rw [if_pos (by omega)]
theorem partS_set (ss : List ByteArray) (k : Nat) (h : k < ss.length) : (partS ss k).setIfInBounds k (.string (ss[k]?.getD ⟨#[]⟩)) = partS ss (k + 1) := by
  have e : ss[k]?.getD ⟨#[]⟩ = ss[k] := by simp [h]
  rw [e]
  simp only [partS, List.setIfInBounds_toArray]
  congr 1
  have hl : ((ss.take k).map Value.string).length = k := by simp; omega
  rw [List.set_append_right _ _ (by omega), hl]
  have h2 : ss.length - k = (ss.length - (k + 1)) + 1 := by omega
  rw [List.take_succ_eq_append_getElem h, h2, List.replicate_succ, List.map_append, Nat.sub_self, List.set_cons_zero, List.append_assoc]
  rfl
theorem sd_new (w : World) (ss : List ByteArray) (hl : ss.length ≤ 9223372036854775807) (hb : ∀ i : Nat, (ss[i]?.getD ⟨#[]⟩).size ≤ 9223372036854775807) :
    Sd (w.alloc (.cells (strVals ss) 9)) (some ⟨w.heap.size, 0, none⟩) ss.length ss.length ss := by
  refine ⟨rfl, Nat.le_refl _, hl, hb, fun _ => ⟨w.heap.size, 0, rfl, by simp, fun i hi => ?_⟩⟩
  rw [World.cell?_alloc_at (hn := rfl)]
  simp [strVals, hi]
set_option maxHeartbeats 2000000 in
theorem toStringS_full (a : Option Addr) (n c : Nat) (ss : List ByteArray) (w : World) (h : Sd w a n c ss) (hnm : n ≤ 1048576) :
    Calls Try.prog 10 #[.slice a n c] w fun e w' => e = .returned (.slice (some ⟨w.heap.size, 0, none⟩) n n) ∧ Sd w' (some ⟨w.heap.size, 0, none⟩) n n ss ∧ Below w.heap.size w w' ∧ w'.heap.size = w.heap.size + 1 ∧ w'.heap[w.heap.size]? = some (.cells (strVals ss) 9 (0, 0)) := by
  obtain ⟨hn0, hc, hm, hb, hcell⟩ := h
  have HN : Hid (n = ss.length) := hn0
  have HB := hid hb
  clear hn0 hb
  have hmk := run_make_row' (P := Try.prog) 22 9 (.string ⟨#[]⟩) 16 Try.underlying22 infoStr rfl .i64 .i64 n (by omega) (by omega)
  have h63 : n ≤ 9223372036854775807 := by omega
  go_enter Try.func10, Try.ntmps10
  go_wp2
  go_loopw [4] (fun i wr => ∃ k : Nat, k ≤ n ∧ i = .int .i64 k ∧ wr = w.alloc (.cells (partS ss k) 9)) (fun i _ => n - (intOf i).toNat)
  case atStart => exact ⟨0, Nat.zero_le _, rfl, by rw [partS_zero, ← HN.out]⟩
  case round =>
    obtain ⟨k, hk, rfl, rfl⟩ := hrel
    by_cases hlt : k < n
    · obtain ⟨b, off, ha, hbw, hcell⟩ := hcell (by omega)
      have hck := hcell k hlt
      have hp := partS_at ss k (by rw [← HN.out]; exact hlt)
      have HS : Hid ((partS ss k).setIfInBounds k (.string (ss[k]?.getD ⟨#[]⟩)) = partS ss (k + 1)) := partS_set ss k (by rw [← HN.out]; exact hlt)
      have hlt' : (k : Int) < (n : Int) := by omega
      clear hcell
      rw [ha]
      go_wp2
      go_roundw
      case rel => exact ⟨k + 1, by omega, by go_num, by rw [HS.out]⟩
      case measure => simp [intOf]; omega
    · have hk' : k = n := by omega
      have HA : Hid (partS ss k = strVals ss) := by rw [hk', HN.out]; exact partS_all ss
      clear hk'
      go_wp2
      go_ret
      rw [HA.out]
      refine ⟨rfl, ?_, (Below.refl _ _).alloc (Nat.le_refl _) _, by simp, heap_alloc_new _ _⟩
      have := sd_new w ss (by rw [← HN.out]; omega) HB.out
      rw [← HN.out] at this; exact this
theorem toStringS_any (a : Option Addr) (n c : Nat) (ss : List ByteArray) (w : World) (h : Sd w a n c ss) (hnm : n ≤ 1048576) :
    Calls Try.prog 10 #[.slice a n c] w fun e w' => e = .returned (.slice (some ⟨w.heap.size, 0, none⟩) n n) ∧ Sd w' (some ⟨w.heap.size, 0, none⟩) n n ss ∧ Below w.heap.size w w' ∧ w'.heap.size = w.heap.size + 1 :=
  (toStringS_full a n c ss w h hnm).mono fun _ _ ⟨h1, h2, h3, h4, _⟩ => ⟨h1, h2, h3, h4⟩
set_option maxHeartbeats 2000000 in
theorem szStringS_any (a : Option Addr) (n c : Nat) (ss : List ByteArray) (w : World) (h : Sd w a n c ss) :
    Calls Try.prog 8 #[.slice a n c, .int .i64 1048576] w fun e w' => (∃ x : Int, e = .returned (.int .i64 x) ∧ (x < 0 ∨ n ≤ 1048576) ∧ -1 ≤ x ∧ x ≤ 1048576) ∧ w = w' := by
  obtain ⟨hn0, hc, hm, hb, hcell⟩ := h
  clear hn0
  by_cases hbig : 1048576 < n
  · have hb' : (1048576 : Int) - (n : Int) < 0 := by omega
    go_enter Try.func8, Try.ntmps8
    go_wp2
    go_ret
    exact ⟨⟨_, rfl, .inl (by omega), by omega, by omega⟩, rfl⟩
  · have hb' : ¬ (1048576 : Int) - (n : Int) < 0 := by omega
    go_enter Try.func8, Try.ntmps8
    go_wp2
    go_loopw [1, 5] (fun l i wr => ∃ (k : Nat) (x : Int), k ≤ n ∧ i = .int .i64 k ∧ l = .int .i64 x ∧ 0 ≤ x ∧ x ≤ 1048576 ∧ wr = w) (fun _ i _ => n - (intOf i).toNat)
    case atStart => exact ⟨0, _, Nat.zero_le _, rfl, rfl, by omega, by omega, rfl⟩
    case round =>
      obtain ⟨k, x, hk, rfl, rfl, hx0, hx1, rfl⟩ := hrel
      by_cases hlt : k < n
      · obtain ⟨b, off, ha, hbw, hcell⟩ := hcell (by omega)
        have hck := hcell k hlt
        have hs := hb k
        have hlt' : (k : Int) < (n : Int) := by omega
        clear hcell hb
        rw [ha]
        generalize ss[k]?.getD ⟨#[]⟩ = s at *
        by_cases hneg : x - (s.size : Int) < 0
        · go_wp2
          go_ret
          exact ⟨⟨_, rfl, .inl (by omega), by omega, by omega⟩, rfl⟩
        · go_wp2
          go_roundw
          case rel => exact ⟨k + 1, x - (s.size : Int), by omega, by go_num, rfl, by omega, by omega, by trivial⟩
          case measure => simp [intOf]; omega
      · clear hcell hb
        go_wp2
        go_ret
        exact ⟨⟨_, rfl, .inr (by omega), by omega, by omega⟩, rfl⟩
set_option maxHeartbeats 2000000 in
theorem eqStringS_same (a a' : Option Addr) (n c c' : Nat) (ss : List ByteArray) (w : World) (h : Sd w a n c ss) (h' : Sd w a' n c' ss) :
    Calls Try.prog 12 #[.slice a n c, .slice a' n c'] w fun e w' => e = .returned (.bool true) ∧ Below w.heap.size w w' := by
  obtain ⟨hn0, hc, hm, hb, hcell⟩ := h
  obtain ⟨hn0', hc', hm', hb', hcell'⟩ := h'
  clear hn0 hn0' hb hb'
  have hz : ((n : Int) != (n : Int)) = false := by simp
  go_enter Try.func12, Try.ntmps12
  go_wp2
  go_loopw [5] (fun i wr => ∃ k q : Nat, k ≤ n ∧ i = .int .i64 k ∧ wr = w.drewN q) (fun i _ => n - (intOf i).toNat)
  case atStart => exact ⟨0, 0, Nat.zero_le _, rfl, rfl⟩
  case round =>
    obtain ⟨k, q, hk, rfl, rfl⟩ := hrel
    by_cases hlt : k < n
    · obtain ⟨b, off, ha, hbw, hcell⟩ := hcell (by omega)
      obtain ⟨b', off', ha', hbw', hcell'⟩ := hcell' (by omega)
      have hck := hcell k hlt
      have hck' := hcell' k hlt
      have hlt' : (k : Int) < (n : Int) := by omega
      clear hcell hcell'
      rw [ha, ha']
      generalize ss[k]?.getD ⟨#[]⟩ = s at *
      go_wp2
      go_quiet (fail)
      go_wp2
      exact ⟨⟨k + 1, q + nq, by omega, by go_num, rfl⟩, by simp [intOf]; omega⟩
    · clear hcell hcell'
      go_wp2
      go_ret
      exact ⟨rfl, Below.drewN' (Below.refl _ _) q⟩
end Go.Proofs.Ytbfgjadonilonaa
