/-
  What the law's helpers do with slices of strings and of numbers: copied, held against each other, sizes summed.
-/
import Derived.Test.YtijinngmfalfcabDoorNd
namespace Go.Proofs.YtijinngmfalfcabDoor
open Go.RowKit

theorem made_ints (n : Nat) : madeCells (Value.int .i64 0).cells (n * 1) = ((List.replicate n 0).map (Value.int .i64)).toArray := by
  apply Array.ext
  · simp [madeCells]
  · intro i h1 h2; simp [madeCells, Value.cells, Nat.mod_one]
theorem infoIntS : (Tryd.prog.info? 3).map (fun i => (i.zero, i.size, i.bytes)) = some (some (Value.int .i64 0), 1, 8) := by kernel_rfl
def ptIntS (l : List Int) (k : Nat) : List Int := l.take k ++ List.replicate (l.length - k) 0
theorem ptIntS_length (l : List Int) (k : Nat) (h : k ≤ l.length) : (ptIntS l k).length = l.length := by simp [ptIntS]; omega
theorem ptIntS_set (l : List Int) (k : Nat) (h : k < l.length) : (ptIntS l k).set k (iAt l k) = ptIntS l (k + 1) := by
  have e : iAt l k = l[k] := by simp [iAt, h]
  rw [e]
  have hl : (l.take k).length = k := by simp; omega
  simp only [ptIntS]
  rw [List.set_append_right _ _ (by omega), hl]
  have h2 : l.length - k = (l.length - (k + 1)) + 1 := by omega
  rw [List.take_succ_eq_append_getElem h, h2, List.replicate_succ, Nat.sub_self, List.set_cons_zero, List.append_assoc]
  rfl
set_option maxHeartbeats 2000000 in
theorem toIntS_at (S : Nat → Prop) (a : Option Addr) (n c : Nat) (l : List Int) (w : World) (h : Ir w S (.slice a n c) l) (hnm : n ≤ 1048576) :
    Calls Tryd.prog 9 #[.slice a n c] w fun e w' => e = .returned (.slice (some ⟨w.heap.size, 0, none⟩) n n) ∧ Bk w' w.heap.size 3 (l.map (Value.int .i64)) ∧ Below w.heap.size w w' := by
  have HN := hid (Rw.len h).1
  have H0 := hid h
  clear h
  have hmk := run_make_n (P := Tryd.prog) 26 3 (Value.int .i64 0) 1 8 Tryd.underlying26 infoIntS n (by omega) (by omega)
  rw [made_ints] at hmk
  have HM : Hid ((List.replicate n 0).map (Value.int .i64) = (ptIntS l 0).map (Value.int .i64)) := by
    show _ = _
    rw [HN.out]; simp [ptIntS]
  rw [HM.out] at hmk
  have h63 : n ≤ 9223372036854775807 := by omega
  go_enter Tryd.func9, Tryd.ntmps9
  go_wp2
  go_loopw [4] (fun i wr => ∃ k : Nat, k ≤ n ∧ i = .int .i64 k ∧ Hid (Bk wr w.heap.size 3 ((ptIntS l k).map (Value.int .i64))) ∧ Hid (Below w.heap.size w wr)) (fun i _ => n - (intOf i).toNat)
  case atStart => exact ⟨0, Nat.zero_le _, rfl, Bk.new _ _ _, (Below.refl _ _).alloc (Nat.le_refl _) _⟩
  case round =>
    obtain ⟨k, hk, rfl, HK, HB⟩ := hrel
    by_cases hlt : k < n
    · have hlt' : (k : Int) < (n : Int) := by omega
      have HP := hid (H0.out.below HB.out)
      obtain ⟨b, off, rfl, _, hbw, hcell⟩ := HP.out.at (by omega)
      have hck := hcell k hlt
      have HSET : Hid ((ptIntS l k).set k (iAt l k) = ptIntS l (k + 1)) := ptIntS_set l k (by rw [← HN.out]; exact hlt)
      have HLE : Hid ((ptIntS l k).length = n) := by show _ = _; rw [ptIntS_length l k (by rw [← HN.out]; exact hk), ← HN.out]
      clear hcell hbw
      generalize hcur : iAt l k = ck at hck HSET
      clear hcur HP
      have hc0 : wr.cell? ⟨w.heap.size, k, none⟩ = some ((Value.int .i64) (iAt (ptIntS l k) k)) := HK.out.cell (by simp [iAt, show k < (ptIntS l k).length by rw [HLE.out]; exact hlt])
      have hf0 := HK.out.free k
      have HK2 : Hid (Bk (wr.setCell ⟨w.heap.size, k, none⟩ ((Value.int .i64) ck)) w.heap.size 3 ((ptIntS l (k + 1)).map (Value.int .i64))) := by
        show Bk _ _ _ _
        rw [← HSET.out, List.map_set]
        exact HK.out.set _ _
      have HB2 : Hid (Below w.heap.size w (wr.setCell ⟨w.heap.size, k, none⟩ ((Value.int .i64) ck))) := HB.out.setCell (Nat.le_refl _) _
      generalize iAt (ptIntS l k) k = old at hc0
      go_wp2
      go_roundw
      case rel => exact ⟨k + 1, by omega, by go_num, HK2.out, HB2.out⟩
      case measure => simp [intOf]; omega
    · have hk' : k = n := by omega
      have HA : Hid ((ptIntS l k).map (Value.int .i64) = l.map (Value.int .i64)) := by show _ = _; rw [hk', HN.out]; simp [ptIntS]
      clear hk'
      go_wp2
      go_ret
      refine ⟨rfl, ?_, HB.out⟩
      rw [← HA.out]; exact HK.out
set_option maxHeartbeats 2000000 in
theorem eqIntS_at (S S' : Nat → Prop) (a a' : Option Addr) (n n' c c' : Nat) (l l' : List Int) (w : World) (h : Ir w S (.slice a n c) l) (h' : Ir w S' (.slice a' n' c') l') :
    Calls Tryd.prog 12 #[.slice a n c, .slice a' n' c'] w fun e w' => e = .returned (.bool (decide (l = l'))) ∧ Below w.heap.size w w' := by
  obtain ⟨hn, hnc, hcc⟩ := Rw.len h
  obtain ⟨hn', hnc', hcc'⟩ := Rw.len h'
  have HN := hid hn
  have HN' := hid hn'
  have H0 := hid h
  have H0' := hid h'
  clear h h' hn hn'
  by_cases hne : n = n'
  · subst hne
    have hz : ((n : Int) != (n : Int)) = false := by simp
    go_enter Tryd.func12, Tryd.ntmps12
    go_wp2
    go_loopw [5] (fun i wr => ∃ k : Nat, k ≤ n ∧ i = .int .i64 k ∧ Hid (Below w.heap.size w wr) ∧ Hid (l.take k = l'.take k)) (fun i _ => n - (intOf i).toNat)
    case atStart => exact ⟨0, Nat.zero_le _, rfl, Below.refl _ _, rfl⟩
    case round =>
      obtain ⟨k, hk, rfl, HB, HT⟩ := hrel
      by_cases hlt : k < n
      · have hlt' : (k : Int) < (n : Int) := by omega
        have HP := hid (H0.out.below HB.out)
        have HP' := hid (H0'.out.below HB.out)
        obtain ⟨b, off, rfl, _, hbw, hcell⟩ := HP.out.at (by omega)
        obtain ⟨b', off', rfl, _, hbw', hcell'⟩ := HP'.out.at (by omega)
        have hck := hcell k hlt
        have hck' := hcell' k hlt
        have HS : Hid (iAt l k = iAt l' k → l.take (k + 1) = l'.take (k + 1)) := by
          intro e
          have hl : k < l.length := by rw [← HN.out]; exact hlt
          have hl' : k < l'.length := by rw [← HN'.out]; exact hlt
          rw [List.take_succ_eq_append_getElem hl, List.take_succ_eq_append_getElem hl', HT.out]
          simp [iAt, hl, hl'] at e
          rw [e]
        have HF : Hid (iAt l k ≠ iAt l' k → decide (l = l') = false) := by
          intro e
          rw [decide_eq_false_iff_not]
          intro e'
          exact e (by rw [e'])
        clear hcell hcell' hbw hbw' HP HP' HT
        generalize iAt l k = ck at *
        generalize iAt l' k = ck' at *
        by_cases he : ck = ck'
        · have HS1 := hid (HS.out he)
          subst he
          have t : (ck != ck) = false := by simp
          clear HS HF
          go_wp2
          go_quiet (fail)
          go_wp2
          go_roundw
          case rel => exact ⟨k + 1, by omega, by go_num, Below.drewN' HB.out _, HS1.out⟩
          case measure => simp [intOf]; omega
        · have HF1 := hid (HF.out he)
          have t : (ck != ck') = true := by simp [he]
          clear he HS HF
          go_wp2
          go_quiet (fail)
          go_wp2
          go_ret
          exact ⟨by rw [HF1.out]; rfl, Below.drewN' HB.out _⟩
      · have HF : Hid (decide (l = l') = true) := by
          show decide (l = l') = true
          have hk' : k = n := by omega
          have e := HT.out
          have e1 : l.length ≤ k := by rw [← HN.out]; omega
          have e2 : l'.length ≤ k := by rw [← HN'.out]; omega
          rw [List.take_of_length_le e1, List.take_of_length_le e2] at e
          simp [e]
        clear HT
        go_wp2
        go_ret
        exact ⟨by rw [HF.out]; rfl, HB.out⟩
  · have hz : ((n : Int) != (n' : Int)) = true := by simp; omega
    have HF : Hid (decide (l = l') = false) := by
      show decide (l = l') = false
      rw [decide_eq_false_iff_not]
      intro e
      exact hne (by rw [HN.out, HN'.out, e])
    clear hne
    go_enter Tryd.func12, Tryd.ntmps12
    go_wp2
    go_ret
    exact ⟨by rw [HF.out]; rfl, Below.refl _ _⟩
def szOkS (l : List ByteArray) : Prop := ∀ i, (sAt l i).size ≤ 9223372036854775807
end Go.Proofs.YtijinngmfalfcabDoor

