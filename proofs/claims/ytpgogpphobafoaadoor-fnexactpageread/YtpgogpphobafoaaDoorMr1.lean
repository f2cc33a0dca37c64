/-
  What the law's helpers do, for every slice of bytes: toByteS makes a new row with the same bytes; eqByteS tells whether two slices have the same bytes.
-/
import Derived.Test.YtpgogpphobafoaaDoorRows
import Derived.WalkKit
import Derived.WalkSpells
import Derived.Deep.QuietTactic
import Derived.BigQuiet
import Derived.Deep.OwnRows
import Derived.Laws.IdiomStrings
import Derived.Laws.Cover1
import Derived.Laws.AppendOwnNone
import Derived.Deep.RegionHeld3
import Derived.Laws.MakeOwn
namespace Go.Proofs.YtpgogpphobafoaaDoor
open Go.RowKit

theorem hid {p : Prop} (h : p) : Hid p := h
theorem infoU8 : (Tryd.prog.info? 5).map (fun i => (i.zero, i.size, i.bytes)) = some (some (.int .u8 0), 1, 1) := by kernel_rfl

/-- The slice value '.slice a n c' has in the world w the bytes zs. -/
def Rd (w : World) (a : Option Addr) (n c : Nat) (zs : List Int) : Prop :=
  n = zs.length ∧ n ≤ c ∧ c ≤ 9223372036854775807 ∧ n ≤ 140737488355328 ∧ (∀ i : Nat, 0 ≤ zs[i]?.getD 0 ∧ zs[i]?.getD 0 ≤ 255) ∧
    (0 < n → ∃ b off, a = some ⟨b, off, none⟩ ∧ b < w.heap.size ∧ ∀ i, i < n → w.cell? ⟨b, off + i, none⟩ = some (.int .u8 (zs[i]?.getD 0)))

def byteVals (zs : List Int) : Array Value := (zs.map (Value.int .u8)).toArray

/-- The row that toByteS fills, k of its bytes being there. -/
def part (zs : List Int) (k : Nat) : Array Value := ((zs.take k).map (Value.int .u8) ++ List.replicate (zs.length - k) (Value.int .u8 0)).toArray
theorem part_zero (zs : List Int) : part zs 0 = madeCells #[.int .u8 0] zs.length := by
  apply Array.ext
  · simp [part, madeCells]
  · intro i h1 h2; simp [part, madeCells, Nat.mod_one]
theorem part_all (zs : List Int) : part zs zs.length = byteVals zs := by simp [part, byteVals]
theorem part_at (zs : List Int) (k : Nat) (h : k < zs.length) : (part zs k)[k]? = some (.int .u8 0) := by
  simp only [part, List.getElem?_toArray]
  have hl : ((zs.take k).map (Value.int .u8)).length = k := by simp; omega
  rw [List.getElem?_append_right (by omega), hl, List.getElem?_replicate]
  rw [if_pos (by omega)]
theorem part_set (zs : List Int) (k : Nat) (h : k < zs.length) : (part zs k).setIfInBounds k (.int .u8 (zs[k]?.getD 0)) = part zs (k + 1) := by
  have e : zs[k]?.getD 0 = zs[k] := by simp [h]
  rw [e]
  simp only [part, List.setIfInBounds_toArray]
  congr 1
  have hl : ((zs.take k).map (Value.int .u8)).length = k := by simp; omega
  rw [List.set_append_right _ _ (by omega), hl]
  have h2 : zs.length - k = (zs.length - (k + 1)) + 1 := by omega
  rw [List.take_succ_eq_append_getElem h, h2, List.replicate_succ, List.map_append, Nat.sub_self, List.set_cons_zero, List.append_assoc]
  rfl

set_option maxHeartbeats 400000 in
theorem toByteS_any (a : Option Addr) (n c : Nat) (zs : List Int) (w : World) (h : Rd w a n c zs) :
    Calls Tryd.prog 17 #[.slice a n c] w fun e w' => e = .returned (.slice (some ⟨w.heap.size, 0, none⟩) n n) ∧ w' = w.alloc (.cells (byteVals zs) 5) := by
  obtain ⟨hn0, hc, hm, hnm, hb, hcell⟩ := h
  have HN : Hid (n = zs.length) := hn0
  clear hn0
  have hmk := run_make_row' (P := Tryd.prog) 27 5 (.int .u8 0) 1 Tryd.underlying27 infoU8 rfl .i64 .i64 n (by omega) (by omega)
  have h63 : n ≤ 9223372036854775807 := by omega
  go_enter Tryd.func17, Tryd.ntmps17
  go_wp2
  go_loopw [4] (fun i wr => ∃ k : Nat, k ≤ n ∧ i = .int .i64 k ∧ wr = w.alloc (.cells (part zs k) 5)) (fun i _ => n - (intOf i).toNat)
  case atStart => exact ⟨0, Nat.zero_le _, rfl, by rw [part_zero, ← HN.out]⟩
  case round =>
    obtain ⟨k, hk, rfl, rfl⟩ := hrel
    by_cases hlt : k < n
    · obtain ⟨b, off, ha, hbw, hcell⟩ := hcell (by omega)
      have hck := hcell k hlt
      have hp := part_at zs k (by rw [← HN.out]; exact hlt)
      have HS : Hid ((part zs k).setIfInBounds k (.int .u8 (zs[k]?.getD 0)) = part zs (k + 1)) := part_set zs k (by rw [← HN.out]; exact hlt)
      have hlt' : (k : Int) < (n : Int) := by omega
      clear hcell
      rw [ha]
      go_wp2
      go_roundw
      case rel => exact ⟨k + 1, by omega, by go_num, by rw [HS.out]⟩
      case measure => simp [intOf]; omega
    · have hk' : k = n := by omega
      have HA : Hid (part zs k = byteVals zs) := by rw [hk', HN.out]; exact part_all zs
      clear hk'
      go_wp2
      go_ret
      exact ⟨rfl, by rw [HA.out]⟩

theorem Rd.len {w : World} {a : Option Addr} {n c : Nat} {zs : List Int} (h : Rd w a n c zs) : n = zs.length := h.1

/-- A slice reads as before in a world that has kept what lay below. -/
theorem Rd.below {w w' : World} {B : Nat} {a : Option Addr} {n c : Nat} {zs : List Int} (h : Rd w a n c zs) (hB : Below B w w') (hlt : ∀ x, a = some x → 0 < n → x.block < B) : Rd w' a n c zs := by
  obtain ⟨h1, h2, h3, h30, h4, h5⟩ := h
  refine ⟨h1, h2, h3, h30, h4, fun hp => ?_⟩
  obtain ⟨b, off, rfl, hb, hc⟩ := h5 hp
  refine ⟨b, off, rfl, Nat.lt_of_lt_of_le hb hB.size, fun i hi => ?_⟩
  rw [hB.cell (p := ⟨b, off + i, none⟩) (hlt ⟨b, off, none⟩ rfl hp)]
  exact hc i hi
theorem Rd.lt {w : World} {a : Option Addr} {n c : Nat} {zs : List Int} (h : Rd w a n c zs) : ∀ x, a = some x → 0 < n → x.block < w.heap.size := by
  intro x hx hp
  obtain ⟨b, off, ha, hb, _⟩ := h.2.2.2.2.2 hp
  rw [ha] at hx; cases hx; exact hb
theorem Rd.kept {w w' : World} {a : Option Addr} {n c : Nat} {zs : List Int} (h : Rd w a n c zs) (hB : Below w.heap.size w w') : Rd w' a n c zs := h.below hB h.lt
/-- The row that toByteS leaves. -/
theorem rd_new (w : World) (zs : List Int) (hl : zs.length ≤ 140737488355328) (hb : ∀ i : Nat, 0 ≤ zs[i]?.getD 0 ∧ zs[i]?.getD 0 ≤ 255) :
    Rd (w.alloc (.cells (byteVals zs) 5)) (some ⟨w.heap.size, 0, none⟩) zs.length zs.length zs := by
  refine ⟨rfl, Nat.le_refl _, by omega, hl, hb, fun _ => ⟨w.heap.size, 0, rfl, by simp, fun i hi => ?_⟩⟩
  rw [World.cell?_alloc_at (hn := rfl)]
  simp [byteVals, hi]

theorem take_succ_eq {xs ys : List Int} {k : Nat} (hx : k < xs.length) (hy : k < ys.length) (h : xs.take k = ys.take k) (e : xs[k]?.getD 0 = ys[k]?.getD 0) : xs.take (k + 1) = ys.take (k + 1) := by
  rw [List.take_succ_eq_append_getElem hx, List.take_succ_eq_append_getElem hy, h]
  simp [hx, hy] at e
  rw [e]

set_option maxHeartbeats 400000 in
theorem eqByteS_any (a a' : Option Addr) (n n' c c' : Nat) (zs zs' : List Int) (w : World) (h : Rd w a n c zs) (h' : Rd w a' n' c' zs') :
    Calls Tryd.prog 11 #[.slice a n c, .slice a' n' c'] w fun e w' => e = .returned (.bool (decide (zs = zs'))) ∧ ∃ q, w' = w.drewN q := by
  obtain ⟨hn0, hc, hm, hnm, hb, hcell⟩ := h
  obtain ⟨hn0', hc', hm', hnm', hb', hcell'⟩ := h'
  have HN : Hid (n = zs.length) := hn0
  have HN' : Hid (n' = zs'.length) := hn0'
  clear hn0 hn0'
  by_cases hne : n = n'
  · subst hne
    have hz : ((n : Int) != (n : Int)) = false := by simp
    go_enter Tryd.func11, Tryd.ntmps11
    go_wp2
    go_loopw [5] (fun i wr => ∃ k q : Nat, k ≤ n ∧ i = .int .i64 k ∧ wr = w.drewN q ∧ zs.take k = zs'.take k) (fun i _ => n - (intOf i).toNat)
    case atStart => exact ⟨0, 0, Nat.zero_le _, rfl, rfl, rfl⟩
    case round =>
      obtain ⟨k, q, hk, rfl, rfl, htk⟩ := hrel
      have HT : Hid (zs.take k = zs'.take k) := htk
      clear htk
      by_cases hlt : k < n
      · obtain ⟨b, off, ha, hbw, hcell⟩ := hcell (by omega)
        obtain ⟨b', off', ha', hbw', hcell'⟩ := hcell' (by omega)
        have hck := hcell k hlt
        have hck' := hcell' k hlt
        have hlt' : (k : Int) < (n : Int) := by omega
        clear hcell hcell'
        rw [ha, ha']
        by_cases hq : zs[k]?.getD 0 = zs'[k]?.getD 0
        · have hq' : (zs[k]?.getD 0 != zs'[k]?.getD 0) = false := by simp [hq]
          have HS : Hid (zs.take (k + 1) = zs'.take (k + 1)) := take_succ_eq (by rw [← HN.out]; exact hlt) (by rw [← HN'.out]; exact hlt) HT.out hq
          clear hq
          go_wp2
          go_quiet (fail)
          go_wp2
          exact ⟨⟨k + 1, q + nq, by omega, by go_num, rfl, HS.out⟩, by simp [intOf]; omega⟩
        · have hq' : (zs[k]?.getD 0 != zs'[k]?.getD 0) = true := by simp [hq]
          have HF : Hid (decide (zs = zs') = false) := by
            show decide (zs = zs') = false
            rw [decide_eq_false_iff_not]
            intro e
            exact hq (by rw [e])
          clear hq
          go_wp2
          go_quiet (fail)
          go_wp2
          go_ret
          exact ⟨by rw [HF.out]; rfl, q + nq, by simp⟩
      · have HF : Hid (decide (zs = zs') = true) := by
          show decide (zs = zs') = true
          have hk' : k = n := by omega
          have e := HT.out
          have e1 : zs.length ≤ k := by rw [← HN.out]; omega
          have e2 : zs'.length ≤ k := by rw [← HN'.out]; omega
          rw [List.take_of_length_le e1, List.take_of_length_le e2] at e
          simp [e]
        go_wp2
        go_ret
        exact ⟨by rw [HF.out]; rfl, q, rfl⟩
  · have hz : ((n : Int) != (n' : Int)) = true := by simp; omega
    have HF : Hid (decide (zs = zs') = false) := by
      show decide (zs = zs') = false
      rw [decide_eq_false_iff_not]
      intro e
      exact hne (by rw [HN.out, HN'.out, e])
    clear hne
    go_enter Tryd.func11, Tryd.ntmps11
    go_wp2
    go_ret
    exact ⟨by rw [HF.out]; rfl, 0, rfl⟩
theorem eqByteS_same (a a' : Option Addr) (n n' c c' : Nat) (zs : List Int) (w : World) (h : Rd w a n c zs) (h' : Rd w a' n' c' zs) :
    Calls Tryd.prog 11 #[.slice a n c, .slice a' n' c'] w fun e w' => e = .returned (.bool true) ∧ ∃ q, w' = w.drewN q := by
  refine (eqByteS_any a a' n n' c c' zs zs w h h').mono ?_
  rintro e w' ⟨he, hq⟩
  exact ⟨by rw [he, decide_eq_true rfl], hq⟩
/-- What is known of a slice of integers that came in: it is nil; or it leads to a row of 'cap' cells, the first 'len' of which are its elements. -/
def IsRow (k : IntKind) (w : World) (a : Option Addr) (len cap : Nat) (zs : List Int) : Prop :=
  (a = none ∧ len = 0 ∧ cap = 0 ∧ zs = []) ∨
  ∃ x, a = some x ∧ len ≤ cap ∧ cap ≤ maxLen ∧ zs.length = cap ∧ (∀ i, i < zs.length → w.cell? (x.add i) = some (.int k (zs.getD i 0))) ∧ ∀ n ∈ zs, (Lit.int k n).wf = true
theorem block_lt {w : World} {x : Addr} {v : Value} (h : w.cell? x = some v) : x.block < w.heap.size := by
  rcases Nat.lt_or_ge x.block w.heap.size with h' | h'
  · exact h'
  · simp [World.cell?, Array.getElem?_eq_none h'] at h
theorem rd_of_row {w : World} {a : Option Addr} {len cap : Nat} {zs : List Int} (h : IsRow .u8 w a len cap zs) (hl : len ≤ 140737488355328) : Rd w a len cap (zs.take len) := by
  rcases h with ⟨rfl, rfl, rfl, rfl⟩ | ⟨x, rfl, h1, h2, h3, h4, h5⟩
  · exact ⟨rfl, Nat.le_refl _, by omega, by omega, by simp, fun h => by omega⟩
  · refine ⟨by simp; omega, h1, by unfold maxLen at h2; omega, hl, fun i => ?_, fun hp => ?_⟩
    · by_cases hi : i < (zs.take len).length
      · have hm : (zs.take len)[i] ∈ zs := List.mem_of_mem_take (List.getElem_mem hi)
        have := h5 _ hm
        rw [List.getElem?_eq_getElem hi]
        simpa [Lit.wf, IntKind.min, IntKind.max, IntKind.signed, IntKind.bits] using this
      · rw [List.getElem?_eq_none (by omega)]; simp
    · obtain ⟨b, off, spot⟩ := x
      have hc := h4 0 (by omega)
      have hspot : spot = none := by simpa [Addr.add] using World.cell?_spot hc
      subst hspot
      refine ⟨b, off, rfl, by simpa [Addr.add] using block_lt hc, fun i hi => ?_⟩
      have hci := h4 i (by omega)
      rw [Addr.add_lit] at hci
      rw [hci, List.getElem?_take_of_lt hi]
      rfl
theorem i64_bounds {n : Int} (h : (Lit.int .i64 n).wf = true) : -9223372036854775808 ≤ n ∧ n ≤ 9223372036854775807 := by
  simpa [Lit.wf, IntKind.min, IntKind.max, IntKind.signed, IntKind.bits] using h
theorem Below.drewN' {B : Nat} {a w : World} (h : Below B a w) (q : Nat) : Below B a (w.drewN q) := ⟨h.os, h.tape, h.output, h.size, h.block⟩

end Go.Proofs.YtpgogpphobafoaaDoor
/-
  The order of byte strings: strict, total; the empty string is the least; a byte 0 behind makes the next one.
-/
namespace Go.Proofs.YtpgogpphobafoaaDoor

theorem less_irrefl (a : List UInt8) : Op.bytesLess a a = false := by
  induction a with
  | nil => rfl
  | cons x a ih => simp [Op.bytesLess, ih]
theorem less_asymm (a : List UInt8) : ∀ b, Op.bytesLess a b = true → Op.bytesLess b a = false := by
  induction a with
  | nil => intro b h; cases b <;> rfl
  | cons x a ih =>
    intro b h
    cases b with
    | nil => simp [Op.bytesLess] at h
    | cons y b =>
      simp only [Op.bytesLess, Bool.or_eq_true, decide_eq_true_eq, Bool.and_eq_true, beq_iff_eq, Bool.or_eq_false_iff, decide_eq_false_iff_not, Bool.and_eq_false_iff] at h ⊢
      rcases h with h | ⟨rfl, h⟩
      · exact ⟨fun h' => absurd (UInt8.lt_trans h h') (UInt8.lt_irrefl _), .inl (by
          simp only [beq_eq_false_iff_ne]; intro e; subst e; exact UInt8.lt_irrefl _ h)⟩
      · exact ⟨UInt8.lt_irrefl _, .inr (ih b h)⟩
theorem less_total (a : List UInt8) : ∀ b, Op.bytesLess a b = false → a ≠ b → Op.bytesLess b a = true := by
  induction a with
  | nil => intro b h hne; cases b with | nil => exact absurd rfl hne | cons y b => simp [Op.bytesLess] at h
  | cons x a ih =>
    intro b h hne
    cases b with
    | nil => rfl
    | cons y b =>
      simp only [Op.bytesLess, Bool.or_eq_true, decide_eq_true_eq, Bool.and_eq_true, beq_iff_eq, Bool.or_eq_false_iff, decide_eq_false_iff_not, Bool.and_eq_false_iff] at h ⊢
      by_cases e : x = y
      · subst e
        refine .inr ⟨rfl, ih b ?_ (fun e => hne (by rw [e]))⟩
        rcases h.2 with h' | h'
        · simp at h'
        · exact h'
      · refine .inl ?_
        rcases Nat.lt_or_ge y.toNat x.toNat with h' | h'
        · exact UInt8.lt_iff_toNat_lt.2 h'
        · refine absurd (UInt8.lt_iff_toNat_lt.2 (Nat.lt_of_le_of_ne h' fun e' => e (UInt8.toNat_inj.1 e'))) h.1
theorem less_trans (a : List UInt8) : ∀ b c, Op.bytesLess a b = true → Op.bytesLess b c = true → Op.bytesLess a c = true := by
  induction a with
  | nil => intro b c h1 h2; cases c with | nil => cases b <;> simp [Op.bytesLess] at h2 | cons z c => rfl
  | cons x a ih =>
    intro b c h1 h2
    cases b with
    | nil => simp [Op.bytesLess] at h1
    | cons y b =>
      cases c with
      | nil => simp [Op.bytesLess] at h2
      | cons z c =>
        simp only [Op.bytesLess, Bool.or_eq_true, decide_eq_true_eq, Bool.and_eq_true, beq_iff_eq] at h1 h2 ⊢
        rcases h1 with h1 | ⟨rfl, h1⟩
        · rcases h2 with h2 | ⟨rfl, h2⟩
          · exact .inl (UInt8.lt_trans h1 h2)
          · exact .inl h1
        · rcases h2 with h2 | ⟨rfl, h2⟩
          · exact .inl h2
          · exact .inr ⟨rfl, ih _ _ h1 h2⟩
/-- a is not above b, b is below c. -/
theorem nless_less (a b c : List UInt8) (h1 : Op.bytesLess b a = false) (h2 : Op.bytesLess b c = true) : Op.bytesLess a c = true := by
  by_cases e : a = b
  · subst e; exact h2
  · exact less_trans _ _ _ (less_total _ _ h1 (Ne.symm e)) h2
theorem less_nless (a b c : List UInt8) (h1 : Op.bytesLess a b = true) (h2 : Op.bytesLess c b = false) : Op.bytesLess a c = true := by
  by_cases e : b = c
  · subst e; exact h1
  · exact less_trans _ _ _ h1 (less_total _ _ h2 (Ne.symm e))
theorem nless_trans (a b c : List UInt8) (h1 : Op.bytesLess b a = false) (h2 : Op.bytesLess c b = false) : Op.bytesLess c a = false := by
  cases h : Op.bytesLess c a with
  | false => rfl
  | true => rw [less_nless c a b h h1] at h2; cases h2
theorem less_nil (a : List UInt8) : Op.bytesLess a [] = false := by cases a <;> rfl
theorem less_zero (a : List UInt8) : Op.bytesLess a (a ++ [0]) = true := by
  induction a with
  | nil => rfl
  | cons x a ih => simp [Op.bytesLess, ih]
theorem nil_less (a : List UInt8) (h : ¬ a = []) : Op.bytesLess [] a = true := by cases a with | nil => exact absurd rfl h | cons _ _ => rfl

theorem str_ext {a b : ByteArray} (h : a.toList = b.toList) : a = b := by
  rw [ByteArray.toList_eq, ByteArray.toList_eq] at h
  cases a; cases b
  simp at h
  rw [h]
theorem str_beq {a b : ByteArray} (h : a ≠ b) : (a.toList == b.toList) = false := by
  simp only [beq_eq_false_iff_ne, ne_eq]
  exact fun e => h (str_ext e)
theorem tri (a b : ByteArray) : (Op.bytesLess a.toList b.toList = true ∧ Op.bytesLess b.toList a.toList = false ∧ (a.toList == b.toList) = false ∧ (b.toList == a.toList) = false) ∨ a = b ∨
    (Op.bytesLess a.toList b.toList = false ∧ Op.bytesLess b.toList a.toList = true ∧ (a.toList == b.toList) = false ∧ (b.toList == a.toList) = false) := by
  by_cases e : a = b
  · exact .inr (.inl e)
  · cases h : Op.bytesLess a.toList b.toList with
    | true => exact .inl ⟨rfl, less_asymm _ _ h, str_beq e, str_beq (Ne.symm e)⟩
    | false => exact .inr (.inr ⟨rfl, less_total _ _ h (fun e' => e (str_ext e')), str_beq e, str_beq (Ne.symm e)⟩)
end Go.Proofs.YtpgogpphobafoaaDoor
/-
  Keys and values: what the program's functions and the specification's answer, for all strings.
-/
namespace Go.Proofs.YtpgogpphobafoaaDoor
open Go.RowKit

theorem str_empty {s : ByteArray} (h : s.toList = []) : s.size = 0 := by
  rw [ByteArray.toList_eq] at h
  show s.data.size = 0
  rw [← Array.length_toList, h]; rfl
theorem str_full {s : ByteArray} (h : ¬ s.toList = []) : 1 ≤ s.size := by
  rcases Nat.eq_zero_or_pos s.size with e | e
  · refine absurd ?_ h
    rw [ByteArray.toList_eq]
    exact List.eq_nil_of_length_eq_zero (by rw [Array.length_toList]; exact e)
  · exact e
theorem below_drew (w : World) : Below w.heap.size w w.drew := ⟨rfl, rfl, rfl, Nat.le_refl _, fun _ _ => rfl⟩
theorem Below.then' {B : Nat} {w w1 w2 : World} (h : Below B w w1) (h2 : Below w1.heap.size w1 w2) (hB : B ≤ w.heap.size) : Below B w w2 := h.trans (h2.mono (Nat.le_trans hB h.size))
theorem below_new {w w1 : World} {o : Obj} (h : Below (w.alloc o).heap.size (w.alloc o) w1) : Below w.heap.size w w1 := ((Below.refl _ _).alloc (Nat.le_refl _) o).trans (h.mono (by simp))

def kOk (k : ByteArray) : Bool := decide (1 ≤ k.size) && decide (k.size ≤ 16)
theorem implKeyOk_any (k : ByteArray) (w : World) : Calls Tryd.prog 83 #[.string k] w fun e w' => e = .returned (.bool (kOk k)) ∧ w = w' := by
  by_cases h : k.toList = []
  · have HE : Hid (kOk k = false) := by show kOk k = false; simp [kOk, str_empty h]
    go_enter Tryd.func83, Tryd.ntmps83
    go_wp2
    go_ret
    exact ⟨by rw [HE.out]; rfl, rfl⟩
  · have h2 : k.toList.isEmpty = false := by simpa using h
    have h3 : 1 ≤ k.size := str_full h
    have HE : Hid (kOk k = decide (k.size ≤ 16)) := by show kOk k = decide (k.size ≤ 16); simp [kOk, h3]
    by_cases h4 : k.size ≤ 16
    · have h5 : (k.size : Int) ≤ 16 := by omega
      go_enter Tryd.func83, Tryd.ntmps83
      go_wp2
      go_ret
      exact ⟨by rw [HE.out, decide_eq_true h4]; rfl, rfl⟩
    · have h5 : ¬ (k.size : Int) ≤ 16 := by omega
      go_enter Tryd.func83, Tryd.ntmps83
      go_wp2
      go_ret
      exact ⟨by rw [HE.out, decide_eq_false h4]; rfl, rfl⟩
theorem specKeyOk_any (k : ByteArray) (w : World) : Calls Tryd.prog 59 #[.string k] w fun e w' => e = .returned (.bool (kOk k)) ∧ w = w' := by
  by_cases h3 : 1 ≤ k.size
  · have HE : Hid (kOk k = decide (k.size ≤ 16)) := by show kOk k = decide (k.size ≤ 16); simp [kOk, h3]
    have h4 : (1 : Int) ≤ (k.size : Int) := by omega
    by_cases h4 : k.size ≤ 16
    · have h5 : (k.size : Int) ≤ 16 := by omega
      go_enter Tryd.func59, Tryd.ntmps59
      go_wp2
      go_ret
      exact ⟨by rw [HE.out, decide_eq_true h4]; rfl, rfl⟩
    · have h5 : ¬ (k.size : Int) ≤ 16 := by omega
      go_enter Tryd.func59, Tryd.ntmps59
      go_wp2
      go_ret
      exact ⟨by rw [HE.out, decide_eq_false h4]; rfl, rfl⟩
  · have HE : Hid (kOk k = false) := by show kOk k = false; simp [kOk, h3]
    have h4 : ¬ (1 : Int) ≤ (k.size : Int) := by omega
    go_enter Tryd.func59, Tryd.ntmps59
    go_wp2
    go_ret
    exact ⟨by rw [HE.out]; rfl, rfl⟩
def vOk (v : ByteArray) : Bool := decide (v.size ≤ 60)
theorem implValOk_any (v : ByteArray) (w : World) : Calls Tryd.prog 76 #[.string v] w fun e w' => e = .returned (.bool (vOk v)) ∧ w = w' := by
  have HE : Hid (vOk v = decide ((v.size : Int) ≤ 60)) := by
    show decide (v.size ≤ 60) = decide ((v.size : Int) ≤ 60)
    rw [decide_eq_decide]; omega
  go_enter Tryd.func76, Tryd.ntmps76
  go_wp2
  go_ret
  exact ⟨by rw [HE.out]; rfl, rfl⟩
theorem specValOk_any (v : ByteArray) (w : World) : Calls Tryd.prog 60 #[.string v] w fun e w' => e = .returned (.bool (vOk v)) ∧ w = w' := by
  have HE : Hid (vOk v = decide ((v.size : Int) ≤ 60)) := by
    show decide (v.size ≤ 60) = decide ((v.size : Int) ≤ 60)
    rw [decide_eq_decide]; omega
  go_enter Tryd.func60, Tryd.ntmps60
  go_wp2
  go_ret
  exact ⟨by rw [HE.out]; rfl, rfl⟩
theorem implKeyOk_is (k : ByteArray) (b : Bool) (h : kOk k = b) (w : World) : Calls Tryd.prog 83 #[.string k] w fun e w' => e = .returned (.bool b) ∧ w' = w := by
  subst h
  exact (implKeyOk_any k w).mono fun _ _ ⟨h1, h2⟩ => ⟨h1, h2.symm⟩
theorem specKeyOk_is (k : ByteArray) (b : Bool) (h : kOk k = b) (w : World) : Calls Tryd.prog 59 #[.string k] w fun e w' => e = .returned (.bool b) ∧ w' = w := by
  subst h
  exact (specKeyOk_any k w).mono fun _ _ ⟨h1, h2⟩ => ⟨h1, h2.symm⟩
theorem implValOk_is (k : ByteArray) (b : Bool) (h : vOk k = b) (w : World) : Calls Tryd.prog 76 #[.string k] w fun e w' => e = .returned (.bool b) ∧ w' = w := by
  subst h
  exact (implValOk_any k w).mono fun _ _ ⟨h1, h2⟩ => ⟨h1, h2.symm⟩
theorem specValOk_is (k : ByteArray) (b : Bool) (h : vOk k = b) (w : World) : Calls Tryd.prog 60 #[.string k] w fun e w' => e = .returned (.bool b) ∧ w' = w := by
  subst h
  exact (specValOk_any k w).mono fun _ _ ⟨h1, h2⟩ => ⟨h1, h2.symm⟩
end Go.Proofs.YtpgogpphobafoaaDoor
/-
  Trees as plain data: pairs at leaves, kids of branches; their least key, all pairs, depth, fullness, their nodes in the walk's order; and what reading a list of nodes gives, in the program's way and in the specification's.
-/
namespace Go.Proofs.YtpgogpphobafoaaDoor
open Go.RowKit

abbrev PB := ByteArray × ByteArray
structure NB where
  ps : List PB
  keys : List ByteArray
  kids : List Int
inductive T where
  | mk (ps : List PB) (ks : List T)
instance : Inhabited T := ⟨.mk [] []⟩
instance : Inhabited NB := ⟨⟨[], [], []⟩⟩
def T.ps : T → List PB | .mk ps _ => ps
def T.ks : T → List T | .mk _ ks => ks
theorem T.ind {P : T → Prop} (h : ∀ ps ks, (∀ k ∈ ks, P k) → P (.mk ps ks)) : ∀ t, P t := by
  intro t
  refine T.rec (motive_1 := P) (motive_2 := fun ks => ∀ k ∈ ks, P k) (fun ps ks ih => h ps ks ih) (by simp) ?_ t
  intro k ks h1 h2 x hx
  rcases List.mem_cons.1 hx with rfl | hx
  · exact h1
  · exact h2 x hx
mutual
def T.size : T → Nat | .mk _ ks => 1 + szL ks
def szL : List T → Nat | [] => 0 | k :: ks => k.size + szL ks
end
mutual
def T.all : T → List PB | .mk ps ks => ps ++ allL ks
def allL : List T → List PB | [] => [] | k :: ks => k.all ++ allL ks
end
def T.least : T → ByteArray
  | .mk ps [] => (ps.head?.map (·.1)).getD ⟨#[]⟩
  | .mk _ (k :: _) => k.least
/-- How far the first leaf is down. -/
def T.lv : T → Nat
  | .mk _ [] => 1
  | .mk _ (k :: _) => k.lv + 1
mutual
def T.dp : T → Int | .mk _ ks => if ks = [] then 1 else dpL true 0 ks
def dpL : Bool → Int → List T → Int
  | _, d, [] => d
  | f, d, k :: ks => if k.dp < 0 ∨ (f = false ∧ k.dp + 1 ≠ d) then -1 else dpL false (k.dp + 1) ks
end
mutual
def T.full : Bool → T → Bool | root, .mk ps ks => if ks = [] then decide (ps.length ≤ 4) && (decide (2 ≤ ps.length) || root && decide (ps.length = 1)) else decide (2 ≤ ks.length) && decide (ks.length ≤ 4) && decide (ps.length = 0) && fullL ks
def fullL : List T → Bool | [] => true | k :: ks => k.full false && fullL ks
end
def places : Nat → List T → List Int
  | _, [] => []
  | a, k :: ks => (a : Int) :: places (a + k.size) ks
mutual
def lay : Nat → T → List NB | a, .mk ps ks => if ks = [] then [⟨ps, [], []⟩] else ⟨[], ks.tail.map T.least, places (a + 1) ks⟩ :: layL (a + 1) ks
def layL : Nat → List T → List NB | _, [] => [] | a, k :: ks => lay a k ++ layL (a + k.size) ks
end
/-- All leaves are h down. -/
def Ev : Nat → T → Prop
  | 0, _ => False
  | h + 1, .mk _ ks => (ks = [] ∧ h = 0) ∨ (ks ≠ [] ∧ ∀ k ∈ ks, Ev h k)
def nAt (ns : List NB) (i : Nat) : NB := ns[i]?.getD ⟨[], [], []⟩
/-- At place a of ns lie the nodes l. -/
def Pre (ns : List NB) (a : Nat) (l : List NB) : Prop := ∀ i, i < l.length → ns[a + i]? = l[i]?
theorem pre_append {ns : List NB} {a : Nat} {l m : List NB} : Pre ns a (l ++ m) ↔ Pre ns a l ∧ Pre ns (a + l.length) m := by
  constructor
  · intro h
    refine ⟨fun i hi => ?_, fun i hi => ?_⟩
    · rw [h i (by simp; omega), List.getElem?_append_left hi]
    · have := h (l.length + i) (by simp; omega)
      rw [List.getElem?_append_right (by omega)] at this
      rw [Nat.add_assoc, this]
      congr 1
      omega
  · rintro ⟨h1, h2⟩ i hi
    by_cases hl : i < l.length
    · rw [h1 i hl, List.getElem?_append_left hl]
    · have := h2 (i - l.length) (by simp at hi; omega)
      rw [List.getElem?_append_right (by omega), ← this]
      congr 1
      omega
mutual
theorem lay_length : ∀ (t : T) (a : Nat), (lay a t).length = t.size
  | .mk ps ks, a => by
    by_cases h : ks = []
    · subst h; simp [lay, T.size, szL]
    · simp [lay, h, T.size, layL_length ks (a + 1)]; omega
theorem layL_length : ∀ (ks : List T) (a : Nat), (layL a ks).length = szL ks
  | [], a => by simp [layL, szL]
  | k :: ks, a => by simp [layL, szL, lay_length k a, layL_length ks (a + k.size)]
end

/-- What the specification's reading of the kids gives. -/
def rdSL (rd : Int → Option (T × Nat)) : List Int → Nat → Option (List T × Nat)
  | [], nx => some ([], nx)
  | k :: kids, nx => if k ≠ (nx : Int) then none else match rd k with
    | none => none
    | some (t, n1) => match rdSL rd kids n1 with
      | none => none
      | some (ts, n2) => some (t :: ts, n2)
def rdS (ns : List NB) : Nat → Int → Option (T × Nat)
  | 0, _ => none
  | f + 1, a => if a < 0 ∨ (ns.length : Int) ≤ a then none else match rdSL (rdS ns f) (nAt ns a.toNat).kids (a.toNat + 1) with
    | none => none
    | some (ts, n) => some (.mk (nAt ns a.toNat).ps ts, n)
/-- What the program's reading of the kids gives: ts0 have been read. -/
def rdIL (rd : Int → Nat → Option (T × Nat)) (keys : List ByteArray) : List T → List Int → Nat → Option (List T × Nat)
  | ts0, [], nx => some (ts0, nx)
  | ts0, k :: kids, nx => match rd k nx with
    | none => none
    | some (t, n1) => if 0 < ts0.length ∧ (t.least ≠ keys[ts0.length - 1]?.getD ⟨#[]⟩ ∨ t.lv ≠ (ts0[0]?.getD default).lv) then none else rdIL rd keys (ts0 ++ [t]) kids n1
def leafOk (n : NB) (root : Bool) : Bool := !(decide (n.ps.length = 0) || decide (4 < n.ps.length) || (decide (n.ps.length < 2) && !root) || !decide (n.keys.length = 0))
def brOk (n : NB) : Bool := !(decide (n.kids.length < 2) || decide (4 < n.kids.length) || !decide ((n.keys.length : Int) = (n.kids.length : Int) - 1) || !decide (n.ps.length = 0))
def rdI (ns : List NB) : Nat → Int → Nat → Option (T × Nat)
  | 0, _, _ => none
  | f + 1, pl, nx => if pl ≠ (nx : Int) ∨ (ns.length : Int) ≤ pl then none else
    if (nAt ns nx).kids.length = 0 then (if leafOk (nAt ns nx) (decide (pl = 0)) = true then some (.mk (nAt ns nx).ps [], nx + 1) else none)
    else if brOk (nAt ns nx) = true then (match rdIL (rdI ns f) (nAt ns nx).keys [] (nAt ns nx).kids (nx + 1) with
      | none => none
      | some (ts, n) => some (.mk [] ts, n)) else none
end Go.Proofs.YtpgogpphobafoaaDoor
/-
  Reading: the program reads just the trees that are full, evenly deep and laid in the walk's order; the specification reads these too.
-/
namespace Go.Proofs.YtpgogpphobafoaaDoor
open Go.RowKit

theorem ev_lv : ∀ (h : Nat) (t : T), Ev h t → t.lv = h
  | 0, _, e => e.elim
  | h + 1, .mk ps [], e => by
    rcases e with ⟨_, rfl⟩ | ⟨e, _⟩
    · rfl
    · exact absurd rfl e
  | h + 1, .mk ps (k :: ks), e => by
    rcases e with ⟨e, _⟩ | ⟨_, e⟩
    · cases e
    · simp [T.lv, ev_lv h k (e k (by simp))]
theorem ev_dpL (h : Nat) (ih : ∀ t, Ev h t → t.dp = h) : ∀ (ks : List T), (∀ k ∈ ks, Ev h k) → ∀ f, ks ≠ [] ∨ f = false → dpL f (if f then 0 else (h : Int) + 1) ks = h + 1
  | [], _, f, hf => by
    rcases hf with hf | rfl
    · exact absurd rfl hf
    · simp [dpL]
  | k :: ks, hk, f, _ => by
    have e := ih k (hk k (by simp))
    have := ev_dpL h ih ks (fun x hx => hk x (by simp [hx])) false (.inr rfl)
    simp only [dpL, e]
    rw [if_neg]
    · simpa using this
    · rintro (h1 | ⟨rfl, h1⟩)
      · omega
      · simp at h1
theorem ev_dp : ∀ (h : Nat) (t : T), Ev h t → t.dp = h
  | 0, _, e => e.elim
  | h + 1, .mk ps ks, e => by
    rcases e with ⟨rfl, rfl⟩ | ⟨e1, e2⟩
    · simp [T.dp]
    · have := ev_dpL h (ev_dp h) ks e2 true (.inl e1)
      simpa [T.dp, e1] using this
theorem dpL_neg_or (ks : List T) : ∀ (f : Bool) (d : Int), (dpL f d ks = -1) ∨ (∀ k ∈ ks, 0 ≤ k.dp ∧ k.dp + 1 = dpL f d ks) ∧ (f = false → ks ≠ [] → dpL f d ks = d) ∧ (ks = [] → dpL f d ks = d) := by
  induction ks with
  | nil => intro f d; right; simp [dpL]
  | cons k ks ih =>
    intro f d
    simp only [dpL]
    split
    · exact .inl rfl
    · rename_i h
      rcases ih false (k.dp + 1) with h1 | ⟨h1, h2, h3⟩
      · exact .inl h1
      · have hv : dpL false (k.dp + 1) ks = k.dp + 1 := by
          by_cases hk : ks = []
          · exact h3 hk
          · exact h2 rfl hk
        refine .inr ⟨fun x hx => ?_, fun hf _ => ?_, fun h => by cases h⟩
        · rcases List.mem_cons.1 hx with rfl | hx
          · exact ⟨by omega, hv.symm⟩
          · exact h1 x hx
        · rw [hv]
          by_cases e : k.dp + 1 = d
          · exact e
          · exact absurd (.inr ⟨hf, e⟩) h
theorem dp_ev : ∀ (t : T), 0 ≤ t.dp → Ev t.dp.toNat t := by
  refine T.ind ?_
  intro ps ks ih h0
  by_cases hk : ks = []
  · subst hk
    simp [T.dp, Ev]
  · have e : (T.mk ps ks).dp = dpL true 0 ks := by simp [T.dp, hk]
    rw [e] at h0 ⊢
    rcases dpL_neg_or ks true 0 with h1 | ⟨h1, _, _⟩
    · omega
    · obtain ⟨k, hk'⟩ := List.exists_mem_of_ne_nil ks hk
      have := h1 k hk'
      obtain ⟨m, hm⟩ : ∃ m : Nat, dpL true 0 ks = m + 1 := ⟨(dpL true 0 ks).toNat - 1, by omega⟩
      rw [hm]
      show Ev (m + 1) _
      refine .inr ⟨hk, fun x hx => ?_⟩
      have hx' := h1 x hx
      have := ih x hx hx'.1
      rwa [show x.dp.toNat = m by omega] at this
theorem pre_cons {ns : List NB} {a : Nat} {n : NB} {l : List NB} : Pre ns a (n :: l) ↔ ns[a]? = some n ∧ Pre ns (a + 1) l := by
  rw [show n :: l = [n] ++ l from rfl, pre_append]
  constructor
  · rintro ⟨h1, h2⟩; exact ⟨by simpa using h1 0 (by simp), h2⟩
  · rintro ⟨h1, h2⟩; refine ⟨fun i hi => ?_, h2⟩; simp at hi; subst hi; simpa using h1
theorem pre_lt {ns : List NB} {a : Nat} {n : NB} (h : ns[a]? = some n) : a < ns.length ∧ nAt ns a = n := by
  obtain ⟨h1, h2⟩ := List.getElem?_eq_some_iff.1 h
  exact ⟨h1, by simp [nAt, h]⟩
theorem nAt_some {ns : List NB} {a : Nat} (h : a < ns.length) : ns[a]? = some (nAt ns a) := by simp [nAt, h]
theorem T.size_pos (t : T) : 0 < t.size := by cases t; simp [T.size]; omega

theorem fullL_iff (ks : List T) : fullL ks = true ↔ ∀ k ∈ ks, k.full false = true := by
  induction ks with
  | nil => simp [fullL]
  | cons k ks ih => simp [fullL, ih]
theorem full_br {r : Bool} {ps : List PB} {ks : List T} (h : (T.mk ps ks).full r = true) (hk : ks ≠ []) : 2 ≤ ks.length ∧ ks.length ≤ 4 ∧ ps = [] ∧ ∀ k ∈ ks, k.full false = true := by
  simp only [T.full, hk, if_false, Bool.and_eq_true, decide_eq_true_eq] at h
  exact ⟨h.1.1.1, h.1.1.2, List.eq_nil_of_length_eq_zero h.1.2, (fullL_iff ks).1 h.2⟩
theorem full_lf {r : Bool} {ps : List PB} (h : (T.mk ps []).full r = true) : ps.length ≤ 4 ∧ (2 ≤ ps.length ∨ r = true ∧ ps.length = 1) := by
  simpa [T.full] using h

/-- The specification reads what lies there. -/
theorem rdSL_some (ns : List NB) (f : Nat) (ih : ∀ (t : T) (h a : Nat) (r : Bool), Ev h t → t.full r = true → h ≤ f → Pre ns a (lay a t) → rdS ns f a = some (t, a + t.size)) (h : Nat) (hf : h ≤ f) :
    ∀ (ks : List T) (a : Nat), (∀ k ∈ ks, Ev h k) → (∀ k ∈ ks, k.full false = true) → Pre ns a (layL a ks) → rdSL (rdS ns f) (places a ks) a = some (ks, a + szL ks)
  | [], a, _, _, _ => by simp [places, rdSL, szL]
  | k :: ks, a, he, hu, hp => by
    rw [layL, pre_append, lay_length] at hp
    have h1 := ih k h a false (he k (by simp)) (hu k (by simp)) hf hp.1
    have h2 := rdSL_some ns f ih h hf ks (a + k.size) (fun x hx => he x (by simp [hx])) (fun x hx => hu x (by simp [hx])) hp.2
    simp [places, rdSL, h1, h2, szL, Nat.add_assoc]
theorem rdS_some (ns : List NB) : ∀ (f : Nat) (t : T) (h a : Nat) (r : Bool), Ev h t → t.full r = true → h ≤ f → Pre ns a (lay a t) → rdS ns f a = some (t, a + t.size)
  | 0, t, h, a, r, he, hu, hf, hp => by obtain rfl : h = 0 := by omega
                                        exact he.elim
  | f + 1, .mk ps ks, 0, a, r, he, hu, hf, hp => he.elim
  | f + 1, .mk ps ks, h + 1, a, r, he, hu, hf, hp => by
    by_cases hk : ks = []
    · subst hk
      simp only [lay, if_true] at hp
      obtain ⟨h1, h2⟩ := pre_lt (pre_cons.1 hp).1
      simp [rdS, h2, rdSL, T.size, szL]
      omega
    · simp only [lay, hk, if_false] at hp
      obtain ⟨h0, h3⟩ := pre_cons.1 hp
      obtain ⟨h1, h2⟩ := pre_lt h0
      obtain ⟨_, _, rfl, hu'⟩ := full_br hu hk
      rcases he with ⟨e, _⟩ | ⟨_, e⟩
      · exact absurd e hk
      · have := rdSL_some ns f (rdS_some ns f) h (by omega) ks (a + 1) e hu' h3
        simp [rdS, h2, this, T.size]
        omega
/-- The program reads what lies there. -/
theorem rdIL_some (ns : List NB) (f : Nat) (ih : ∀ (t : T) (h a : Nat), Ev h t → t.full (decide (a = 0)) = true → h ≤ f → Pre ns a (lay a t) → rdI ns f a a = some (t, a + t.size)) (h : Nat) (hf : h ≤ f) (keys : List ByteArray) :
    ∀ (ks ts0 : List T) (a : Nat), 0 < a → (∀ k ∈ ts0, Ev h k) → (∀ k ∈ ks, Ev h k) → (∀ k ∈ ks, k.full false = true) → (∀ i, 0 < i → i < (ts0 ++ ks).length → keys[i - 1]?.getD ⟨#[]⟩ = ((ts0 ++ ks)[i]?.getD default).least) →
      Pre ns a (layL a ks) → rdIL (rdI ns f) keys ts0 (places a ks) a = some (ts0 ++ ks, a + szL ks)
  | [], ts0, a, _, _, _, _, _, _ => by simp [places, rdIL, szL]
  | k :: ks, ts0, a, ha, hz, he, hu, hkey, hp => by
    rw [layL, pre_append, lay_length] at hp
    have h1 := ih k h a (he k (by simp)) (by rw [decide_eq_false (by omega)]; exact hu k (by simp)) hf hp.1
    have h2 := rdIL_some ns f ih h hf keys ks (ts0 ++ [k]) (a + k.size) (by omega) (by
        intro x hx
        rcases List.mem_append.1 hx with hx | hx
        · exact hz x hx
        · simp at hx; subst hx; exact he x (by simp)) (fun x hx => he x (by simp [hx])) (fun x hx => hu x (by simp [hx])) (by simpa using hkey) hp.2
    simp only [places, rdIL, h1]
    rw [if_neg]
    · rw [h2]; simp [szL, Nat.add_assoc]
    · rintro ⟨h0, h3 | h3⟩
      · have := hkey ts0.length h0 (by simp)
        simp at this
        exact h3 (by rw [this])
      · apply h3
        rw [ev_lv h k (he k (by simp))]
        obtain ⟨x, hx⟩ : ∃ x, ts0[0]? = some x := ⟨ts0[0], by simp⟩
        rw [hx]
        exact (ev_lv h x (hz x (List.mem_of_getElem? hx))).symm
theorem rdI_some (ns : List NB) : ∀ (f : Nat) (t : T) (h a : Nat), Ev h t → t.full (decide (a = 0)) = true → h ≤ f → Pre ns a (lay a t) → rdI ns f a a = some (t, a + t.size)
  | 0, t, h, a, he, hu, hf, hp => by obtain rfl : h = 0 := by omega
                                     exact he.elim
  | f + 1, .mk ps ks, 0, a, he, hu, hf, hp => he.elim
  | f + 1, .mk ps ks, h + 1, a, he, hu, hf, hp => by
    by_cases hk : ks = []
    · subst hk
      simp only [lay, if_true] at hp
      obtain ⟨h1, h2⟩ := pre_lt (pre_cons.1 hp).1
      obtain ⟨u1, u2⟩ := full_lf hu
      have hl : leafOk ⟨ps, [], []⟩ (decide ((a : Int) = 0)) = true := by
        have e1 : ps.length ≠ 0 := by rcases u2 with u2 | ⟨_, u2⟩ <;> omega
        have e2 : ps.length < 2 → a = 0 := by
          intro h; rcases u2 with u2 | ⟨u2, _⟩
          · omega
          · exact of_decide_eq_true u2
        simp only [leafOk, Bool.not_eq_true', Bool.or_eq_false_iff, decide_eq_false_iff_not, Bool.and_eq_false_iff, List.length_nil, decide_true, Bool.not_true]
        refine ⟨⟨⟨e1, by omega⟩, ?_⟩, trivial⟩
        by_cases h2 : ps.length < 2
        · right; simp [e2 h2]
        · left; exact h2
      rw [rdI, if_neg (by omega), h2, if_pos (by rfl), if_pos hl]
      simp [T.size, szL]
    · simp only [lay, hk, if_false] at hp
      obtain ⟨h0, h3⟩ := pre_cons.1 hp
      obtain ⟨h1, h2⟩ := pre_lt h0
      obtain ⟨u1, u2, rfl, hu'⟩ := full_br hu hk
      rcases he with ⟨e, _⟩ | ⟨_, e⟩
      · exact absurd e hk
      · have := rdIL_some ns f (rdI_some ns f) h (by omega) (ks.tail.map T.least) ks [] (a + 1) (by omega) (by simp) e hu' (by
          intro i hi hlt
          obtain ⟨j, rfl⟩ : ∃ j, i = j + 1 := ⟨i - 1, by omega⟩
          simp at hlt ⊢
          simp [hlt]) h3
        have hpl : ∀ (ks : List T) (a : Nat), (places a ks).length = ks.length := by
          intro ks; induction ks with
          | nil => intro a; rfl
          | cons k ks ih => intro a; simp [places, ih]
        have hb : brOk ⟨[], ks.tail.map T.least, places (a + 1) ks⟩ = true := by
          simp only [brOk, hpl, Bool.not_eq_true', Bool.or_eq_false_iff, decide_eq_false_iff_not, Bool.not_eq_false', decide_eq_true_eq, List.length_nil, List.length_map, List.length_tail]
          refine ⟨⟨⟨by omega, by omega⟩, by omega⟩, trivial⟩
        rw [rdI, if_neg (by omega), h2, if_neg (by simp only [hpl]; omega), if_pos hb]
        simp only [this]
        simp [T.size]
        omega
theorem rdIL_sound (ns : List NB) (f : Nat) (ih : ∀ (pl : Int) (nx : Nat) (t : T) (n1 : Nat), rdI ns f pl nx = some (t, n1) → pl = nx ∧ nx < ns.length ∧ t.full (decide (nx = 0)) = true ∧ (∃ h, Ev h t) ∧ Pre ns nx (lay nx t) ∧ n1 = nx + t.size)
    (keys : List ByteArray) (h : Nat) : ∀ (kids : List Int) (ts0 : List T) (nx : Nat) (ts : List T) (n : Nat), 0 < nx → 0 < ts0.length → (∀ k ∈ ts0, Ev h k) → rdIL (rdI ns f) keys ts0 kids nx = some (ts, n) →
      ∃ ks, ts = ts0 ++ ks ∧ kids = places nx ks ∧ (∀ k ∈ ks, Ev h k) ∧ (∀ k ∈ ks, k.full false = true) ∧ (∀ i, ts0.length ≤ i → i < ts.length → keys[i - 1]?.getD ⟨#[]⟩ = (ts[i]?.getD default).least) ∧ Pre ns nx (layL nx ks) ∧ n = nx + szL ks
  | [], ts0, nx, ts, n, hnx, hl, hz, hr => by
    simp only [rdIL, Option.some.injEq, Prod.mk.injEq] at hr
    obtain ⟨rfl, rfl⟩ := hr
    exact ⟨[], by simp, rfl, by simp, by simp, fun i h1 h2 => by omega, fun i hi => by simp [layL] at hi, rfl⟩
  | k :: kids, ts0, nx, ts, n, hnx, hl, hz, hr => by
    simp only [rdIL] at hr
    cases e : rdI ns f k nx with
    | none => simp [e] at hr
    | some x =>
      obtain ⟨t, n1⟩ := x
      obtain ⟨rfl, i2, i3, ⟨h', i4⟩, i5, rfl⟩ := ih _ _ _ _ e
      simp only [e] at hr
      split at hr
      · cases hr
      · rename_i hc
        have hl0 : t.least = keys[ts0.length - 1]?.getD ⟨#[]⟩ := by
          by_cases q : t.least = keys[ts0.length - 1]?.getD ⟨#[]⟩
          · exact q
          · exact absurd ⟨hl, .inl q⟩ hc
        have hl1 : t.lv = (ts0[0]?.getD default).lv := by
          by_cases q : t.lv = (ts0[0]?.getD default).lv
          · exact q
          · exact absurd ⟨hl, .inr q⟩ hc
        obtain ⟨x, hx⟩ : ∃ x, ts0[0]? = some x := ⟨ts0[0], by simp⟩
        have hh : h' = h := by
          rw [← ev_lv h' t i4, hl1, hx]
          exact ev_lv h x (hz x (List.mem_of_getElem? hx))
        subst hh
        obtain ⟨ks, rfl, rfl, k3, k4, k5, k6, rfl⟩ := rdIL_sound ns f ih keys h' kids (ts0 ++ [t]) (nx + t.size) ts n (by omega) (by simp) (by
          intro y hy
          rcases List.mem_append.1 hy with hy | hy
          · exact hz y hy
          · simp at hy; subst hy; exact i4) hr
        refine ⟨t :: ks, by simp, rfl, ?_, ?_, ?_, ?_, by simp [szL, Nat.add_assoc]⟩
        · intro y hy
          rcases List.mem_cons.1 hy with rfl | hy
          · exact i4
          · exact k3 y hy
        · intro y hy
          rcases List.mem_cons.1 hy with rfl | hy
          · rwa [decide_eq_false (by omega)] at i3
          · exact k4 y hy
        · intro i h1 h2
          by_cases hi : i = ts0.length
          · subst hi
            rw [← hl0]
            simp
          · exact k5 i (by simp; omega) h2
        · rw [layL, pre_append, lay_length]
          exact ⟨i5, k6⟩
theorem rdI_sound (ns : List NB) : ∀ (f : Nat) (pl : Int) (nx : Nat) (t : T) (n1 : Nat), rdI ns f pl nx = some (t, n1) → pl = nx ∧ nx < ns.length ∧ t.full (decide (nx = 0)) = true ∧ (∃ h, Ev h t) ∧ Pre ns nx (lay nx t) ∧ n1 = nx + t.size
  | 0, pl, nx, t, n1, h => by simp [rdI] at h
  | f + 1, pl, nx, t, n1, h => by
    rw [rdI] at h
    split at h
    · cases h
    · rename_i h0
      have hpl : pl = nx := by omega
      subst hpl
      have hlt : nx < ns.length := by omega
      have hn := nAt_some hlt
      generalize nAt ns nx = N at h hn
      obtain ⟨nps, nkeys, nkids⟩ := N
      refine ⟨rfl, hlt, ?_⟩
      split at h
      · rename_i hk
        have hk := List.eq_nil_of_length_eq_zero hk
        simp only at hk
        subst hk
        split at h
        · rename_i hl
          simp only [Option.some.injEq, Prod.mk.injEq] at h
          obtain ⟨rfl, rfl⟩ := h
          simp only [leafOk, Bool.not_eq_true', Bool.or_eq_false_iff, decide_eq_false_iff_not, Bool.and_eq_false_iff, Bool.not_eq_false', decide_eq_true_eq] at hl
          obtain ⟨⟨⟨l1, l2⟩, l3⟩, l4⟩ := hl
          have l4 := List.eq_nil_of_length_eq_zero l4
          subst l4
          refine ⟨?_, ⟨1, by simp [Ev]⟩, ?_, by simp [T.size, szL]⟩
          · simp only [T.full, if_true, Bool.and_eq_true, decide_eq_true_eq, Bool.or_eq_true]
            refine ⟨by omega, ?_⟩
            rcases l3 with l3 | l3
            · left; omega
            · by_cases h2 : 2 ≤ nps.length
              · exact .inl h2
              · right; exact ⟨by omega, by omega⟩
          · simp only [lay, if_true]
            exact pre_cons.2 ⟨hn, fun i hi => by simp at hi⟩
        · cases h
      · rename_i hk
        split at h
        · rename_i hb
          simp only [brOk, Bool.not_eq_true', Bool.or_eq_false_iff, decide_eq_false_iff_not, Bool.not_eq_false', decide_eq_true_eq] at hb
          obtain ⟨⟨⟨b1, b2⟩, b3⟩, b4⟩ := hb
          have b4 := List.eq_nil_of_length_eq_zero b4
          subst b4
          cases nkids with
          | nil => simp at b1
          | cons k kids =>
            cases e : rdIL (rdI ns f) nkeys [] (k :: kids) (nx + 1) with
            | none => simp [e] at h
            | some x =>
              obtain ⟨ts, n⟩ := x
              simp only [e, Option.some.injEq, Prod.mk.injEq] at h
              obtain ⟨rfl, rfl⟩ := h
              simp only [rdIL] at e
              cases e1 : rdI ns f k (nx + 1) with
              | none => simp [e1] at e
              | some y =>
                obtain ⟨t0, n1⟩ := y
                simp only [e1, List.length_nil, Nat.lt_irrefl, false_and, if_false, List.nil_append] at e
                obtain ⟨rfl, i2, i3, ⟨h', i4⟩, i5, rfl⟩ := rdI_sound ns f _ _ _ _ e1
                rw [decide_eq_false (by omega)] at i3
                obtain ⟨ks, rfl, rfl, k3, k4, k5, k6, rfl⟩ := rdIL_sound ns f (rdI_sound ns f) nkeys h' kids [t0] (nx + 1 + t0.size) ts n (by omega) (by simp) (by simp; exact i4) e
                have hpl : ∀ (ks : List T) (a : Nat), (places a ks).length = ks.length := by
                  intro ks; induction ks with
                  | nil => intro a; rfl
                  | cons k ks ih => intro a; simp [places, ih]
                simp only [List.length_cons, hpl] at b1 b2 b3
                have hkeys : nkeys = ks.map T.least := by
                  apply List.ext_getElem
                  · simp; omega
                  · intro i h1 h2
                    have := k5 (i + 1) (by simp) (by simp at h2 ⊢; omega)
                    simp at h2
                    simp [h1, h2] at this
                    simpa using this
                refine ⟨?_, ⟨h' + 1, .inr ⟨by simp, ?_⟩⟩, ?_, by simp [T.size, szL]; omega⟩
                · simp only [T.full, List.singleton_append, reduceCtorEq, if_false, Bool.and_eq_true, decide_eq_true_eq, List.length_cons, List.length_nil]
                  refine ⟨⟨⟨by omega, by omega⟩, trivial⟩, ?_⟩
                  simp only [fullL, i3, Bool.true_and]
                  exact (fullL_iff ks).2 k4
                · intro y hy
                  rcases List.mem_cons.1 hy with rfl | hy
                  · exact i4
                  · exact k3 y hy
                · simp only [lay, List.singleton_append, reduceCtorEq, if_false, List.tail_cons]
                  refine pre_cons.2 ⟨by rw [hn, hkeys]; rfl, ?_⟩
                  rw [layL, pre_append, lay_length]
                  exact ⟨i5, k6⟩
        · cases h
end Go.Proofs.YtpgogpphobafoaaDoor
/-
  Which lists of nodes are right trees, said once for the program's way of reading and the specification's.
-/
namespace Go.Proofs.YtpgogpphobafoaaDoor
open Go.RowKit

def pAtB (l : List PB) (i : Nat) : PB := l[i]?.getD (⟨#[]⟩, ⟨#[]⟩)
/-- The pairs are right from place k on. -/
def pOkF (l : List PB) : Nat → Nat → Bool
  | 0, _ => true
  | f + 1, k => kOk (pAtB l k).1 && vOk (pAtB l k).2 && (decide (k = 0) || Op.bytesLess (pAtB l (k - 1)).1.toList (pAtB l k).1.toList) && pOkF l f (k + 1)
def pOk (l : List PB) : Bool := decide (l.length ≤ 200) && pOkF l l.length 0
theorem pOk_len {l : List PB} (h : pOk l = true) : l.length ≤ 200 := by simp [pOk] at h; exact h.1
mutual
theorem full_all : ∀ (t : T), t.full false = true → t.size + 1 ≤ t.all.length
  | .mk ps ks, h => by
    by_cases hk : ks = []
    · subst hk
      have := full_lf h
      simp at this
      simp [T.size, szL, T.all, allL]
      omega
    · obtain ⟨h1, h2, rfl, h3⟩ := full_br h hk
      have := fullL_all ks h3
      simp [T.size, T.all]
      omega
theorem fullL_all : ∀ (ks : List T), (∀ k ∈ ks, k.full false = true) → szL ks + ks.length ≤ (allL ks).length
  | [], _ => by simp [szL]
  | k :: ks, h => by
    have h1 := full_all k (h k (by simp))
    have h2 := fullL_all ks (fun x hx => h x (by simp [hx]))
    simp [szL, allL]
    omega
end
theorem full_root {t : T} (h : t.full true = true) : t.size ≤ t.all.length := by
  obtain ⟨ps, ks⟩ := t
  by_cases hk : ks = []
  · subst hk
    have := full_lf h
    simp [T.size, szL, T.all, allL]
    omega
  · obtain ⟨h1, h2, rfl, h3⟩ := full_br h hk
    have := fullL_all ks h3
    simp [T.size, T.all]
    omega
theorem ev_size : ∀ (h : Nat) (t : T) (r : Bool), Ev h t → t.full r = true → 2 ^ h ≤ t.size + 1
  | 0, t, r, e, _ => e.elim
  | h + 1, .mk ps ks, r, e, hu => by
    rcases e with ⟨rfl, rfl⟩ | ⟨hk, e⟩
    · simp [T.size, szL]
    · obtain ⟨h1, h2, rfl, h3⟩ := full_br hu hk
      have : ∀ (l : List T), (∀ k ∈ l, k ∈ ks) → l.length * (2 ^ h - 1) ≤ szL l := by
        intro l
        induction l with
        | nil => simp [szL]
        | cons k l ih =>
          intro hl
          have a1 := ev_size h k false (e k (hl k (by simp))) (h3 k (hl k (by simp)))
          have a2 := ih (fun x hx => hl x (by simp [hx]))
          simp only [szL, List.length_cons, Nat.add_mul, Nat.one_mul]
          omega
      have a1 := this ks (fun _ h => h)
      have a2 : 2 * (2 ^ h - 1) ≤ ks.length * (2 ^ h - 1) := Nat.mul_le_mul_right _ h1
      have a3 : 0 < 2 ^ h := Nat.pos_of_ne_zero (by simp)
      simp only [T.size]
      rw [Nat.pow_succ]
      omega
theorem ev_le_size {h : Nat} {t : T} {r : Bool} (e : Ev h t) (hu : t.full r = true) : h ≤ t.size := by
  have h1 := ev_size h t r e hu
  have h2 : h < 2 ^ h := Nat.lt_two_pow_self
  omega
/-- The nodes ns are the right tree t. -/
structure Good (ns : List NB) (t : T) : Prop where
  full : t.full true = true
  even : ∃ h, Ev h t
  ok : pOk t.all = true
  laid : lay 0 t = ns
def okT (ns : List NB) : Option T :=
  if ns.length = 0 then some (.mk [] []) else if 400 ≤ ns.length then none else match rdI ns ns.length 0 0 with
    | none => none
    | some (t, n) => if n = ns.length ∧ pOk t.all = true then some t else none
theorem pre_self (ns : List NB) : Pre ns 0 ns := fun i _ => by simp
theorem pre_all {ns l : List NB} (h : Pre ns 0 l) (hl : l.length = ns.length) : l = ns := by
  apply List.ext_getElem?
  intro i
  by_cases hi : i < l.length
  · have := h i hi; simpa using this.symm
  · rw [List.getElem?_eq_none (by omega), List.getElem?_eq_none (by omega)]
theorem Good.len {ns : List NB} {t : T} (g : Good ns t) : ns.length = t.size ∧ ns.length ≤ 200 := by
  have h1 := full_root g.full
  have h2 := pOk_len g.ok
  have h3 := lay_length t 0
  rw [g.laid] at h3
  omega
theorem okT_good {ns : List NB} {t : T} (hne : ns.length ≠ 0) : okT ns = some t ↔ Good ns t := by
  constructor
  · intro h
    rw [okT, if_neg hne] at h
    split at h
    · cases h
    · split at h
      · cases h
      · rename_i x t' n hr
        split at h
        · rename_i hc
          cases h
          obtain ⟨_, _, h3, h4, h5, rfl⟩ := rdI_sound ns _ _ _ _ _ hr
          exact ⟨h3, h4, hc.2, pre_all h5 (by rw [lay_length]; omega)⟩
        · cases h
  · intro g
    obtain ⟨h, hh⟩ := g.even
    have hl := g.len
    have := rdI_some ns ns.length t h 0 hh g.full (by have := ev_le_size hh g.full; omega) (by rw [g.laid]; exact pre_self ns)
    rw [okT, if_neg hne, if_neg (by omega)]
    rw [show rdI ns ns.length 0 0 = some (t, 0 + t.size) from this]
    simp only
    rw [if_pos ⟨by omega, g.ok⟩]
instance : DecidableEq NB := fun a b => decidable_of_iff (a.ps = b.ps ∧ a.keys = b.keys ∧ a.kids = b.kids) (by cases a; cases b; simp)
/-- What the specification asks of the nodes. -/
def spOk (ns : List NB) : Bool :=
  if ns.length = 0 then true else if 400 < ns.length then false else match rdS ns 13 0 with
    | none => false
    | some (t, n) => decide (n = ns.length) && t.full true && decide (0 ≤ t.dp) && pOk t.all && decide (lay 0 t = ns)
theorem Good.read {ns : List NB} {t : T} (g : Good ns t) : rdS ns 13 0 = some (t, ns.length) := by
  obtain ⟨h, hh⟩ := g.even
  have hl := g.len
  have h1 := ev_size h t true hh g.full
  have h2 : h ≤ 13 := by
    rcases Nat.lt_or_ge 13 h with h3 | h3
    · have : 2 ^ 13 ≤ 2 ^ h := Nat.pow_le_pow_right (by omega) (by omega)
      have e : 2 ^ 13 = 8192 := by decide
      omega
    · exact h3
  have := rdS_some ns 13 t h 0 true hh g.full h2 (by rw [g.laid]; exact pre_self ns)
  rw [show rdS ns 13 0 = some (t, 0 + t.size) from this]
  simp; omega
theorem Good.dp {ns : List NB} {t : T} (g : Good ns t) : t.dp = t.lv := by
  obtain ⟨h, hh⟩ := g.even
  rw [ev_dp h t hh, ev_lv h t hh]
theorem spOk_eq (ns : List NB) : spOk ns = (okT ns).isSome := by
  by_cases hne : ns.length = 0
  · simp [spOk, okT, hne]
  · cases e : okT ns with
    | some t =>
      have g := (okT_good hne).1 e
      have hl := g.len
      have hd := g.dp
      simp only [spOk, hne, if_false, g.read, g.full, g.ok, g.laid]
      rw [if_neg (by omega)]
      simp
      omega
    | none =>
      rw [Option.isSome_none, Bool.eq_false_iff]
      intro h
      simp only [spOk, hne, if_false] at h
      split at h
      · cases h
      · split at h
        · cases h
        · rename_i x t n hr
          simp only [Bool.and_eq_true, decide_eq_true_eq] at h
          obtain ⟨⟨⟨⟨h1, h2⟩, h3⟩, h4⟩, h5⟩ := h
          have := (okT_good hne).2 ⟨h2, ⟨_, dp_ev t h3⟩, h4, h5⟩
          rw [e] at this
          cases this
end Go.Proofs.YtpgogpphobafoaaDoor
/-
  What is read through a slice value, and in which blocks it lies; which blocks a stretch of the program may have turned.
-/
namespace Go.Proofs.YtpgogpphobafoaaDoor
open Go.RowKit

/-- Of the blocks of w only those of R have turned in w'. -/
structure Only (R : Nat → Prop) (w w' : World) : Prop where
  os : w'.os = w.os
  tape : w'.tape = w.tape
  output : w'.output = w.output
  size : w.heap.size ≤ w'.heap.size
  block : ∀ b, b < w.heap.size → ¬ R b → w'.heap[b]? = w.heap[b]?
theorem Only.refl (R : Nat → Prop) (w : World) : Only R w w := ⟨rfl, rfl, rfl, Nat.le_refl _, fun _ _ _ => rfl⟩
theorem Only.trans {R : Nat → Prop} {a b c : World} (h : Only R a b) (k : Only R b c) : Only R a c :=
  ⟨k.os.trans h.os, k.tape.trans h.tape, k.output.trans h.output, Nat.le_trans h.size k.size, fun i hi hr => (k.block i (Nat.lt_of_lt_of_le hi h.size) hr).trans (h.block i hi hr)⟩
/-- What was made since a may turn. -/
theorem Only.then {R R' : Nat → Prop} {a b c : World} (h : Only R a b) (k : Only R' b c) (hr : ∀ i, i < a.heap.size → R' i → R i) : Only R a c :=
  ⟨k.os.trans h.os, k.tape.trans h.tape, k.output.trans h.output, Nat.le_trans h.size k.size, fun i hi hn => (k.block i (Nat.lt_of_lt_of_le hi h.size) (fun h' => hn (hr i hi h'))).trans (h.block i hi hn)⟩
theorem Only.mono {R R' : Nat → Prop} {a b : World} (h : Only R a b) (hr : ∀ i, i < a.heap.size → R i → R' i) : Only R' a b :=
  ⟨h.os, h.tape, h.output, h.size, fun i hi hn => h.block i hi (fun h' => hn (hr i hi h'))⟩
theorem only_of_below {w w' : World} (h : Below w.heap.size w w') (R : Nat → Prop) : Only R w w' := ⟨h.os, h.tape, h.output, h.size, fun b hb _ => h.block b hb⟩
theorem only_of_grown {w w' : World} {row : Option Nat} (h : w.grownBy w' row) {R : Nat → Prop} (hr : ∀ k, row = some k → R k) : Only R w w' :=
  ⟨h.os, h.tape, h.output, h.size, fun b hb hn => h.block b hb (fun e => hn (hr b e.symm))⟩
theorem Only.below {R : Nat → Prop} {w w' : World} {B : Nat} (h : Only R w w') (hB : B ≤ w.heap.size) (hr : ∀ b, b < B → ¬ R b) : Below B w w' := ⟨h.os, h.tape, h.output, h.size, fun b hb => h.block b (by omega) (hr b hb)⟩
theorem only_alloc (R : Nat → Prop) (w : World) (o : Obj) : Only R w (w.alloc o) := ⟨rfl, rfl, rfl, by simp, fun b hb _ => Below.heap_alloc _ _ _ hb⟩
theorem only_set {R : Nat → Prop} {w : World} {p : Addr} (h : R p.block) (u : Value) : Only R w (w.setCell p u) := ⟨rfl, rfl, rfl, by simp [World.setCell], fun b _ hn => Below.heap_setCell _ _ _ _ (fun e => hn (e ▸ h))⟩
theorem only_drew (R : Nat → Prop) (w : World) (q : Nat) : Only R w (w.drewN q) := ⟨rfl, rfl, rfl, Nat.le_refl _, fun _ _ _ => rfl⟩

/-- The slice value v leads in w to n elements whose cells are xs, in a block of S. -/
def Rw (w : World) (S : Nat → Prop) (v : Value) (n : Nat) (xs : List Value) : Prop :=
  ∃ a c, v = .slice a n c ∧ n ≤ c ∧ c ≤ 9223372036854775807 ∧ (n = 0 → xs = []) ∧ (a = none → c = 0) ∧ (0 < n → ∃ b off, a = some ⟨b, off, none⟩ ∧ b < w.heap.size ∧ S b ∧ ∀ j u, xs[j]? = some u → w.cell? ⟨b, off + j, none⟩ = some u)
theorem Rw.to {w w' : World} {S R : Nat → Prop} {v : Value} {n : Nat} {xs : List Value} (h : Rw w S v n xs) (ho : Only R w w') (hd : ∀ b, S b → b < w.heap.size → ¬ R b) : Rw w' S v n xs := by
  obtain ⟨a, c, h1, h2, h3, h4, hn, h5⟩ := h
  refine ⟨a, c, h1, h2, h3, h4, hn, fun hp => ?_⟩
  obtain ⟨b, off, h6, h7, h8, h9⟩ := h5 hp
  refine ⟨b, off, h6, Nat.lt_of_lt_of_le h7 ho.size, h8, fun j u hu => ?_⟩
  rw [← h9 j u hu]
  exact World.cell?_of_block (w := w) (ho.block b h7 (hd b h8 h7))
theorem Rw.mono {w : World} {S R : Nat → Prop} {v : Value} {n : Nat} {xs : List Value} (h : Rw w S v n xs) (hd : ∀ b, S b → b < w.heap.size → R b) : Rw w R v n xs := by
  obtain ⟨a, c, h1, h2, h3, h4, hn, h5⟩ := h
  refine ⟨a, c, h1, h2, h3, h4, hn, fun hp => ?_⟩
  obtain ⟨b, off, h6, h7, h8, h9⟩ := h5 hp
  exact ⟨b, off, h6, h7, hd b h8 h7, h9⟩
theorem rw_nil (w : World) (S : Nat → Prop) : Rw w S (.slice none 0 0) 0 [] := ⟨none, 0, rfl, Nat.le_refl _, by omega, fun _ => rfl, fun _ => rfl, fun h => by omega⟩
/-- What one owns is read. -/
theorem rw_own {w : World} {base : Nat} {e : TypeId} {size : Nat} {v : Value} {n : Nat} {xs : List Value} (h : w.ownsRow base e size v n xs) {S : Nat → Prop} (hS : ∀ k, v.ownBlock = some k → base ≤ k → k < w.heap.size → S k) : Rw w S v n xs := by
  have hlt := World.ownsRow.lt h
  have hc := fun g hg => World.ownsRow.cells h (g := g) hg
  obtain ⟨h1, h2⟩ := h
  rcases h2 with ⟨rfl, rfl⟩ | ⟨g, cap, cur, rfl, h3, h4, h5, h6, h7, h8⟩
  · have : xs = [] := List.eq_nil_of_length_eq_zero (by omega)
    subst this
    exact rw_nil w S
  · refine ⟨_, cap, rfl, h5, by unfold maxLen at h6; omega, fun h0 => List.eq_nil_of_length_eq_zero (by rw [h1, h0]; omega), fun h => by (cases h), fun _ => ⟨g, 0, rfl, (hlt g rfl).2, hS g rfl h3 (hlt g rfl).2, fun j u hu => ?_⟩⟩
    have := hc g rfl j u hu
    rwa [Addr.add_lit] at this
theorem own_kept {w w' : World} {R : Nat → Prop} {base : Nat} {e : TypeId} {size : Nat} {v : Value} {n : Nat} {xs : List Value} (h : w.ownsRow base e size v n xs) (ho : Only R w w') (hR : ∀ k, v.ownBlock = some k → ¬ R k) : w'.ownsRow base e size v n xs := by
  have hlt := World.ownsRow.lt h
  obtain ⟨h1, h2⟩ := h
  refine ⟨h1, ?_⟩
  rcases h2 with h2 | ⟨g, cap, cur, rfl, h3, h4, h5⟩
  · exact .inl h2
  · exact .inr ⟨g, cap, cur, rfl, h3, (ho.block g (hlt g rfl).2 (hR g rfl)).trans h4, h5⟩
theorem own_shape {w : World} {base : Nat} {e : TypeId} {size : Nat} {v : Value} {n : Nat} {xs : List Value} (h : w.ownsRow base e size v n xs) : ∃ a c, v = .slice a n c := by
  rcases h.2 with ⟨rfl, rfl⟩ | ⟨g, cap, cur, rfl, _⟩
  · exact ⟨none, 0, rfl⟩
  · exact ⟨_, cap, rfl⟩

/-- append(dst, src...): dst a row of one's own, src any row. -/
theorem run_append_row {P : Program} {w : World} (base : Nat) (t ty e : TypeId) (i : TypeInfo) (z : Value) (size bytes : Nat) (ht : P.underlying t = some (.slice e)) (hi : P.info? e = some i) (hz : i.zero = some z)
    (hsize : i.size = size) (hby : i.bytes = bytes) (hzs : z.cells.size = size) (hsz : 0 < size) (v : Value) (n : Nat) (xs : List Value) (hown : w.ownsRow base e size v n xs)
    (S : Nat → Prop) (src : Value) (m : Nat) (news : List Value) (hsrc : Rw w S src m news) (hl : news.length = m * size) (h1 : ∀ u ∈ news, u.oneCell' = true)
    (h63 : n + m ≤ maxLen) (hbytes : (n + m) * bytes ≤ 140737488355328) (hbase : base ≤ w.heap.size) :
    ∃ v' w', (Builtin.append_ #[t, t] ty #[v, src]).run P w = .ok v' w' ∧ w'.ownsRow base e size v' (n + m) (xs ++ news) ∧ w.grownBy w' v.ownBlock := by
  obtain ⟨a, c, rfl, h2, h3, h4, hn, h5⟩ := hsrc
  by_cases hm : 0 < m
  · obtain ⟨b, off, rfl, hb, hS, hc⟩ := h5 hm
    obtain ⟨v', w', hr, ho, hg, _⟩ := run_append_own w base t ty e i z size bytes ht hi hz hsize hby hzs hsz v n xs hown ⟨b, off, none⟩ m c news hl (fun j u hu => by rw [Addr.add_lit]; exact hc j u hu) h1 h63 hbytes hbase
    exact ⟨v', w', hr, ho, hg⟩
  · obtain rfl : m = 0 := by omega
    obtain rfl := h4 rfl
    cases a with
    | some ad =>
      obtain ⟨v', w', hr, ho, hg, _⟩ := run_append_own w base t ty e i z size bytes ht hi hz hsize hby hzs hsz v n xs hown ad 0 c [] hl (fun j u hu => by simp at hu) h1 h63 hbytes hbase
      exact ⟨v', w', hr, ho, hg⟩
    | none =>
      obtain rfl := hn rfl
      have hrun := run_append_owned_none (P := P) (w := w) base t ty e i size ht hi v n xs hown
      exact ⟨v, w, hrun, by simpa using hown, ⟨rfl, rfl, rfl, Nat.le_refl _, fun _ _ _ => rfl⟩⟩
theorem wpList_append_row {P : Program} {w : World} {ops : Array Oper} {rest : List Oper} {o : Oper} {a : Act} {Q : Exit → Act → World → Prop} (hgd : o.guard = none) (s x : Operand) (t : TypeId)
    (ho : o.op = .call { callee := .builtin .append, args := #[s, x], argTypes := #[t, t] })
    (base : Nat) (e : TypeId) (i : TypeInfo) (z : Value) (size bytes : Nat) (ht : P.underlying t = some (.slice e)) (hi : P.info? e = some i) (hz : i.zero = some z)
    (hsize : i.size = size) (hby : i.bytes = bytes) (hzs : z.cells.size = size) (hsz : 0 < size) (v : Value) (n : Nat) (xs : List Value) (hs : a.eval s = v) (hown : w.ownsRow base e size v n xs)
    (S : Nat → Prop) (src : Value) (m : Nat) (news : List Value) (hx : a.eval x = src) (hsrc : Rw w S src m news) (hl : news.length = m * size) (h1 : ∀ u ∈ news, u.oneCell' = true)
    (h63 : n + m ≤ maxLen) (hbytes : (n + m) * bytes ≤ 140737488355328) (hbase : base ≤ w.heap.size)
    (h : ∀ v' w', w'.ownsRow base e size v' (n + m) (xs ++ news) → w.grownBy w' v.ownBlock → wpList P ops Q rest (a.put o.dst v') w') : wpList P ops Q (o :: rest) a w := by
  refine wpList_plain hgd fun K hK => ?_
  obtain ⟨v', w', hr, h2, h3⟩ := run_append_row (P := P) (w := w) base t o.type e i z size bytes ht hi hz hsize hby hzs hsz v n xs hown S src m news hsrc hl h1 h63 hbytes hbase
  unfold Oper.wp execOp
  simp only [ho, resolve, invoke, builtin, Sem.run_bind, Sem.run_pure, Result.andThen_ok, List.map_toArray, List.map_cons, List.map_nil, hs, hx, hr]
  exact hK _ _ (h v' w' h2 h3)

/-- The cells of a list of pairs. -/
def pcs : List PB → List Value
  | [] => []
  | p :: ps => .string p.1 :: .string p.2 :: pcs ps
theorem pcs_length (ps : List PB) : (pcs ps).length = ps.length * 2 := by
  induction ps with
  | nil => rfl
  | cons p ps ih => simp only [pcs, List.length_cons, ih]; omega
theorem pcs_append (ps qs : List PB) : pcs (ps ++ qs) = pcs ps ++ pcs qs := by
  induction ps with
  | nil => rfl
  | cons p ps ih => simp only [pcs, List.cons_append, ih]
theorem pcs_one (ps : List PB) : ∀ u ∈ pcs ps, u.oneCell' = true := by
  induction ps with
  | nil => intro u hu; cases hu
  | cons p ps ih =>
    intro u hu
    simp only [pcs, List.mem_cons] at hu
    rcases hu with rfl | rfl | hu
    · rfl
    · rfl
    · exact ih u hu
theorem pcs_at (ps : List PB) : ∀ i, i < ps.length → (pcs ps)[i * 2]? = some (.string (pAtB ps i).1) ∧ (pcs ps)[i * 2 + 1]? = some (.string (pAtB ps i).2) := by
  induction ps with
  | nil => intro i h; exact absurd h (Nat.not_lt_zero _)
  | cons p ps ih =>
    intro i h
    cases i with
    | zero => exact ⟨rfl, rfl⟩
    | succ i =>
      have := ih i (by simpa using h)
      have e : (i + 1) * 2 = i * 2 + 2 := by omega
      rw [e]
      exact this
/-- The slice value v leads to the pairs ps. -/
def Pr (w : World) (S : Nat → Prop) (v : Value) (ps : List PB) : Prop := Rw w S v ps.length (pcs ps)
theorem Pr.cell {w : World} {S : Nat → Prop} {v : Value} {ps : List PB} (h : Pr w S v ps) (hp : 0 < ps.length) : ∃ b off c, v = .slice (some ⟨b, off, none⟩) ps.length c ∧ S b ∧ b < w.heap.size ∧
    ∀ i, i < ps.length → w.cell? ⟨b, off + i * 2, none⟩ = some (.string (pAtB ps i).1) ∧ w.cell? ⟨b, off + i * 2 + 1, none⟩ = some (.string (pAtB ps i).2) := by
  obtain ⟨a, c, rfl, h2, h3, h4, hn, h5⟩ := h
  obtain ⟨b, off, rfl, h7, h8, h9⟩ := h5 hp
  refine ⟨b, off, c, rfl, h8, h7, fun i hi => ?_⟩
  obtain ⟨e1, e2⟩ := pcs_at ps i hi
  exact ⟨h9 _ _ e1, h9 _ _ e2⟩
theorem Rw.shape {w : World} {S : Nat → Prop} {v : Value} {n : Nat} {xs : List Value} (h : Rw w S v n xs) : ∃ a c, v = .slice a n c ∧ n ≤ c ∧ c ≤ 9223372036854775807 := by
  obtain ⟨a, c, h1, h2, h3, _⟩ := h
  exact ⟨a, c, h1, h2, h3⟩
theorem Rw.len {w : World} {S : Nat → Prop} {a : Option Addr} {n m c : Nat} {xs : List Value} (h : Rw w S (.slice a n c) m xs) : n = m ∧ n ≤ c ∧ c ≤ 9223372036854775807 := by
  obtain ⟨a', c', h1, h2, h3, _⟩ := h
  cases h1
  exact ⟨rfl, h2, h3⟩
theorem Pr.shape {w : World} {S : Nat → Prop} {v : Value} {ps : List PB} (h : Pr w S v ps) : ∃ a c, v = .slice a ps.length c ∧ ps.length ≤ c ∧ c ≤ 9223372036854775807 := Rw.shape h
theorem Pr.at {w : World} {S : Nat → Prop} {a : Option Addr} {n c : Nat} {ps : List PB} (h : Pr w S (.slice a n c) ps) (hp : 0 < n) : ∃ b off, a = some ⟨b, off, none⟩ ∧ S b ∧ b < w.heap.size ∧
    ∀ i, i < n → w.cell? ⟨b, off + i * 2, none⟩ = some (.string (pAtB ps i).1) ∧ w.cell? ⟨b, off + i * 2 + 1, none⟩ = some (.string (pAtB ps i).2) := by
  have hn := (Rw.len h).1
  obtain ⟨b, off, c', hv, h1, h2, h3⟩ := h.cell (by omega)
  cases hv
  exact ⟨b, off, rfl, h1, h2, h3⟩
end Go.Proofs.YtpgogpphobafoaaDoor
/-
  PairsOk of the program and of the specification: both answer pOk.
-/
namespace Go.Proofs.YtpgogpphobafoaaDoor
open Go.RowKit

theorem pOkF_k (l : List PB) (f k : Nat) (h : kOk (pAtB l k).1 = false) : pOkF l (f + 1) k = false := by simp [pOkF, h]
theorem pOkF_v (l : List PB) (f k : Nat) (h : vOk (pAtB l k).2 = false) : pOkF l (f + 1) k = false := by simp [pOkF, h]
theorem pOkF_0 (l : List PB) (f : Nat) (h : kOk (pAtB l 0).1 = true) (h2 : vOk (pAtB l 0).2 = true) : pOkF l (f + 1) 0 = pOkF l f 1 := by simp [pOkF, h, h2]
theorem pOkF_s (l : List PB) (f j : Nat) (h : kOk (pAtB l (j + 1)).1 = true) (h2 : vOk (pAtB l (j + 1)).2 = true) (b : Bool) (h3 : Op.bytesLess (pAtB l j).1.toList (pAtB l (j + 1)).1.toList = b) : pOkF l (f + 1) (j + 1) = (b && pOkF l f (j + 1 + 1)) := by
  simp only [pOkF, h, h2, Nat.add_sub_cancel, h3]; simp
theorem Pr.below {w w' : World} {S : Nat → Prop} {v : Value} {ps : List PB} (h : Pr w S v ps) (hb : Below w.heap.size w w') : Pr w' S v ps := Rw.to h (only_of_below hb (fun _ => False)) (fun _ _ _ h => h)
end Go.Proofs.YtpgogpphobafoaaDoor
/-
  Cells that are kept, with all else that was there, while a stretch of the program reads and calls in an order that is not known.
-/
namespace Go.Proofs.YtpgogpphobafoaaDoor
open Go.RowKit
structure KC (u v : World) (cs : List (Addr × Value)) : Prop where
  cells : ∀ p ∈ cs, u.cell? p.1 = some p.2
  bel : Below u.heap.size u v
theorem KC.at {u v : World} {cs : List (Addr × Value)} (h : KC u v cs) {a : Addr} {x : Value} (hp : (a, x) ∈ cs) : v.cell? a = some x := by
  have hc := h.cells (a, x) hp
  rw [h.bel.cell (p := a) (block_lt hc)]
  exact hc
theorem KC.call {u v v' : World} {cs : List (Addr × Value)} (h : KC u v cs) (k : Below v.heap.size v v') : KC u v' cs := ⟨h.cells, h.bel.trans (k.mono h.bel.size)⟩
theorem kc2 {u v : World} {a0 a1 : Addr} {x0 x1 : Value} (h : KC u v [(a0, x0), (a1, x1)]) : v.cell? a0 = some x0 ∧ v.cell? a1 = some x1 ∧ KC u v [(a0, x0), (a1, x1)] := ⟨h.at (by simp), h.at (by simp), h⟩
theorem kc3 {u v : World} {a0 a1 a2 : Addr} {x0 x1 x2 : Value} (h : KC u v [(a0, x0), (a1, x1), (a2, x2)]) : v.cell? a0 = some x0 ∧ v.cell? a1 = some x1 ∧ v.cell? a2 = some x2 ∧ KC u v [(a0, x0), (a1, x1), (a2, x2)] := ⟨h.at (by simp), h.at (by simp), h.at (by simp), h⟩
theorem kc4 {u v : World} {a0 a1 a2 a3 : Addr} {x0 x1 x2 x3 : Value} (h : KC u v [(a0, x0), (a1, x1), (a2, x2), (a3, x3)]) : v.cell? a0 = some x0 ∧ v.cell? a1 = some x1 ∧ v.cell? a2 = some x2 ∧ v.cell? a3 = some x3 ∧ KC u v [(a0, x0), (a1, x1), (a2, x2), (a3, x3)] := ⟨h.at (by simp), h.at (by simp), h.at (by simp), h.at (by simp), h⟩
theorem kc5 {u v : World} {a0 a1 a2 a3 a4 : Addr} {x0 x1 x2 x3 x4 : Value} (h : KC u v [(a0, x0), (a1, x1), (a2, x2), (a3, x3), (a4, x4)]) : v.cell? a0 = some x0 ∧ v.cell? a1 = some x1 ∧ v.cell? a2 = some x2 ∧ v.cell? a3 = some x3 ∧ v.cell? a4 = some x4 ∧ KC u v [(a0, x0), (a1, x1), (a2, x2), (a3, x3), (a4, x4)] := ⟨h.at (by simp), h.at (by simp), h.at (by simp), h.at (by simp), h.at (by simp), h⟩
theorem kc6 {u v : World} {a0 a1 a2 a3 a4 a5 : Addr} {x0 x1 x2 x3 x4 x5 : Value} (h : KC u v [(a0, x0), (a1, x1), (a2, x2), (a3, x3), (a4, x4), (a5, x5)]) : v.cell? a0 = some x0 ∧ v.cell? a1 = some x1 ∧ v.cell? a2 = some x2 ∧ v.cell? a3 = some x3 ∧ v.cell? a4 = some x4 ∧ v.cell? a5 = some x5 ∧ KC u v [(a0, x0), (a1, x1), (a2, x2), (a3, x3), (a4, x4), (a5, x5)] := ⟨h.at (by simp), h.at (by simp), h.at (by simp), h.at (by simp), h.at (by simp), h.at (by simp), h⟩
theorem kc0_2 {u : World} {a0 a1 : Addr} {x0 x1 : Value} (h0 : u.cell? a0 = some x0) (h1 : u.cell? a1 = some x1) : KC u u [(a0, x0), (a1, x1)] :=
  ⟨fun p hp => by simp at hp; rcases hp with rfl | rfl <;> assumption, Below.refl _ _⟩
theorem kc0_3 {u : World} {a0 a1 a2 : Addr} {x0 x1 x2 : Value} (h0 : u.cell? a0 = some x0) (h1 : u.cell? a1 = some x1) (h2 : u.cell? a2 = some x2) : KC u u [(a0, x0), (a1, x1), (a2, x2)] :=
  ⟨fun p hp => by simp at hp; rcases hp with rfl | rfl | rfl <;> assumption, Below.refl _ _⟩
theorem kc0_4 {u : World} {a0 a1 a2 a3 : Addr} {x0 x1 x2 x3 : Value} (h0 : u.cell? a0 = some x0) (h1 : u.cell? a1 = some x1) (h2 : u.cell? a2 = some x2) (h3 : u.cell? a3 = some x3) : KC u u [(a0, x0), (a1, x1), (a2, x2), (a3, x3)] :=
  ⟨fun p hp => by simp at hp; rcases hp with rfl | rfl | rfl | rfl <;> assumption, Below.refl _ _⟩
theorem kc0_6 {u : World} {a0 a1 a2 a3 a4 a5 : Addr} {x0 x1 x2 x3 x4 x5 : Value} (h0 : u.cell? a0 = some x0) (h1 : u.cell? a1 = some x1) (h2 : u.cell? a2 = some x2) (h3 : u.cell? a3 = some x3) (h4 : u.cell? a4 = some x4) (h5 : u.cell? a5 = some x5) : KC u u [(a0, x0), (a1, x1), (a2, x2), (a3, x3), (a4, x4), (a5, x5)] :=
  ⟨fun p hp => by simp at hp; rcases hp with rfl | rfl | rfl | rfl | rfl | rfl <;> assumption, Below.refl _ _⟩
theorem kc2c {u v v' : World} {a0 a1 : Addr} {x0 x1 : Value} (k : Below v.heap.size v v') (h : v.cell? a0 = some x0 ∧ v.cell? a1 = some x1 ∧ KC u v [(a0, x0), (a1, x1)]) : v'.cell? a0 = some x0 ∧ v'.cell? a1 = some x1 ∧ KC u v' [(a0, x0), (a1, x1)] := kc2 (KC.call h.2.2 k)
theorem kc3c {u v v' : World} {a0 a1 a2 : Addr} {x0 x1 x2 : Value} (k : Below v.heap.size v v') (h : v.cell? a0 = some x0 ∧ v.cell? a1 = some x1 ∧ v.cell? a2 = some x2 ∧ KC u v [(a0, x0), (a1, x1), (a2, x2)]) : v'.cell? a0 = some x0 ∧ v'.cell? a1 = some x1 ∧ v'.cell? a2 = some x2 ∧ KC u v' [(a0, x0), (a1, x1), (a2, x2)] := kc3 (KC.call h.2.2.2 k)
theorem kc4c {u v v' : World} {a0 a1 a2 a3 : Addr} {x0 x1 x2 x3 : Value} (k : Below v.heap.size v v') (h : v.cell? a0 = some x0 ∧ v.cell? a1 = some x1 ∧ v.cell? a2 = some x2 ∧ v.cell? a3 = some x3 ∧ KC u v [(a0, x0), (a1, x1), (a2, x2), (a3, x3)]) : v'.cell? a0 = some x0 ∧ v'.cell? a1 = some x1 ∧ v'.cell? a2 = some x2 ∧ v'.cell? a3 = some x3 ∧ KC u v' [(a0, x0), (a1, x1), (a2, x2), (a3, x3)] := kc4 (KC.call h.2.2.2.2 k)
theorem kc5c {u v v' : World} {a0 a1 a2 a3 a4 : Addr} {x0 x1 x2 x3 x4 : Value} (k : Below v.heap.size v v') (h : v.cell? a0 = some x0 ∧ v.cell? a1 = some x1 ∧ v.cell? a2 = some x2 ∧ v.cell? a3 = some x3 ∧ v.cell? a4 = some x4 ∧ KC u v [(a0, x0), (a1, x1), (a2, x2), (a3, x3), (a4, x4)]) : v'.cell? a0 = some x0 ∧ v'.cell? a1 = some x1 ∧ v'.cell? a2 = some x2 ∧ v'.cell? a3 = some x3 ∧ v'.cell? a4 = some x4 ∧ KC u v' [(a0, x0), (a1, x1), (a2, x2), (a3, x3), (a4, x4)] := kc5 (KC.call h.2.2.2.2.2 k)
theorem kc6c {u v v' : World} {a0 a1 a2 a3 a4 a5 : Addr} {x0 x1 x2 x3 x4 x5 : Value} (k : Below v.heap.size v v') (h : v.cell? a0 = some x0 ∧ v.cell? a1 = some x1 ∧ v.cell? a2 = some x2 ∧ v.cell? a3 = some x3 ∧ v.cell? a4 = some x4 ∧ v.cell? a5 = some x5 ∧ KC u v [(a0, x0), (a1, x1), (a2, x2), (a3, x3), (a4, x4), (a5, x5)]) : v'.cell? a0 = some x0 ∧ v'.cell? a1 = some x1 ∧ v'.cell? a2 = some x2 ∧ v'.cell? a3 = some x3 ∧ v'.cell? a4 = some x4 ∧ v'.cell? a5 = some x5 ∧ KC u v' [(a0, x0), (a1, x1), (a2, x2), (a3, x3), (a4, x4), (a5, x5)] := kc6 (KC.call h.2.2.2.2.2.2 k)
end Go.Proofs.YtpgogpphobafoaaDoor
/-
  What the law's helpers do with pairs and slices of pairs: sizes summed, copied, held against each other.
-/
namespace Go.Proofs.YtpgogpphobafoaaDoor
open Go.RowKit

/-- Block g is a row with the cells xs. -/
def Bk (w : World) (g : Nat) (T : TypeId) (xs : List Value) : Prop := w.heap[g]? = some (.cells xs.toArray T (0, 0))
theorem Bk.lt {w : World} {g : Nat} {T : TypeId} {xs : List Value} (h : Bk w g T xs) : g < w.heap.size := (Array.getElem?_eq_some_iff.1 h).1
theorem Bk.to {w w' : World} {g : Nat} {T : TypeId} {xs : List Value} {R : Nat → Prop} (h : Bk w g T xs) (ho : Only R w w') (hR : ¬ R g) : Bk w' g T xs := (ho.block g h.lt hR).trans h
theorem Bk.below {w w' : World} {g : Nat} {T : TypeId} {xs : List Value} (h : Bk w g T xs) (hb : Below w.heap.size w w') : Bk w' g T xs := (hb.block g h.lt).trans h
theorem Bk.new (w : World) (T : TypeId) (xs : List Value) : Bk (w.alloc (.cells xs.toArray T)) w.heap.size T xs := heap_alloc_new w _
theorem Bk.cell {w : World} {g : Nat} {T : TypeId} {xs : List Value} (h : Bk w g T xs) {j : Nat} {u : Value} (hu : xs[j]? = some u) : w.cell? ⟨g, j, none⟩ = some u := by
  have h' : w.heap[g]? = some (.cells xs.toArray T (0, 0)) := h
  simp [World.cell?, h', hu]
theorem Bk.free {w : World} {g : Nat} {T : TypeId} {xs : List Value} (h : Bk w g T xs) (j : Nat) : w.frozen? ⟨g, j, none⟩ = false := by
  have h' : w.heap[g]? = some (.cells xs.toArray T (0, 0)) := h
  simp [World.frozen?, h']
theorem Bk.set {w : World} {g : Nat} {T : TypeId} {xs : List Value} (h : Bk w g T xs) (o : Nat) (x : Value) : Bk (w.setCell ⟨g, o, none⟩ x) g T (xs.set o x) := by
  have h' : w.heap[g]? = some (.cells xs.toArray T (0, 0)) := h
  show (w.setCell ⟨g, o, none⟩ x).heap[g]? = _
  simp [World.setCell, Array.getElem?_modify, h']
theorem Bk.setOther {w : World} {g : Nat} {T : TypeId} {xs : List Value} (h : Bk w g T xs) {b : Nat} (hb : g ≠ b) (o : Nat) (x : Value) : Bk (w.setCell ⟨b, o, none⟩ x) g T xs := by
  show (w.setCell ⟨b, o, none⟩ x).heap[g]? = _
  rw [Below.heap_setCell _ _ _ _ hb]
  exact h
theorem Bk.alloc {w : World} {g : Nat} {T : TypeId} {xs : List Value} (h : Bk w g T xs) (o : Obj) : Bk (w.alloc o) g T xs := by
  show (w.alloc o).heap[g]? = _
  rw [Below.heap_alloc _ _ _ h.lt]
  exact h
theorem Bk.rw {w : World} {g : Nat} {T : TypeId} {xs : List Value} {n c : Nat} (h : Bk w g T xs) (hn : n ≤ c) (hc : c ≤ 9223372036854775807) (h0 : n = 0 → xs = []) (S : Nat → Prop) (hS : S g) : Rw w S (.slice (some ⟨g, 0, none⟩) n c) n xs :=
  ⟨_, c, rfl, hn, hc, h0, fun h => by (cases h), fun _ => ⟨g, 0, rfl, h.lt, hS, fun j u hu => by rw [Nat.zero_add]; exact h.cell hu⟩⟩
theorem Bk.pr {w : World} {g n : Nat} {T : TypeId} {ps : List PB} (h : Bk w g T (pcs ps)) (hn : n = ps.length) (hc : n ≤ 9223372036854775807) (S : Nat → Prop) (hS : S g) : Pr w S (.slice (some ⟨g, 0, none⟩) n n) ps := by
  subst hn
  exact h.rw (Nat.le_refl _) hc (fun h0 => by rw [List.eq_nil_of_length_eq_zero h0]; rfl) S hS
theorem pcs_set (ps : List PB) (p : PB) : ∀ j, j < ps.length → pcs (ps.set j p) = ((pcs ps).set (j * 2) (.string p.1)).set (j * 2 + 1) (.string p.2) := by
  induction ps with
  | nil => intro j h; exact absurd h (Nat.not_lt_zero _)
  | cons q ps ih =>
    intro j h
    cases j with
    | zero => rfl
    | succ j =>
      have := ih j (by simpa using h)
      rw [show (j + 1) * 2 = j * 2 + 2 by omega, show j * 2 + 2 + 1 = j * 2 + 1 + 2 by omega]
      show Value.string q.1 :: Value.string q.2 :: pcs (ps.set j p) = _
      rw [this]
      rfl
/-- make([]T, n). -/
theorem run_make_n {P : Program} (t e : TypeId) (z : Value) (size bytes : Nat) (ht : P.underlying t = some (.slice e)) (hinfo : (P.info? e).map (fun i => (i.zero, i.size, i.bytes)) = some (some z, size, bytes)) (n : Nat) (hb : bytes * n ≤ 281474976710656) (h63 : n ≤ 9223372036854775807) (w : World) :
    (Instr.makeSlice t (.int .i64 (n : Int)) (.int .i64 (n : Int))).run P w = .ok (.slice (some ⟨w.heap.size, 0, none⟩) n n) (w.alloc (.cells (madeCells z.cells (n * size)) e)) := by
  obtain ⟨i, hi, hz⟩ := Option.map_eq_some_iff.1 hinfo
  simp only [Prod.mk.injEq] at hz
  obtain ⟨hz, rfl, rfl⟩ := hz
  have hb' : (i.bytes : Int) * (n : Int) ≤ 281474976710656 := by
    have h : ((i.bytes * n : Nat) : Int) ≤ 281474976710656 := by omega
    rwa [Int.natCast_mul] at h
  have := run_make (P := P) w t e i z ht hi hz .i64 .i64 n n (by omega) (Int.le_refl _) hb' (by omega)
  simpa using this
theorem made_pairs (n : Nat) : madeCells (Value.agg #[.string ⟨#[]⟩, .string ⟨#[]⟩]).cells (n * 2) = (pcs (List.replicate n (⟨#[]⟩, ⟨#[]⟩))).toArray := by
  apply Array.ext
  · simp [madeCells, pcs_length]
  · intro i h1 h2
    simp [pcs_length] at h2
    simp only [madeCells, List.getElem_toArray]
    have h3 : (pcs (List.replicate n ((⟨#[]⟩, ⟨#[]⟩) : PB)))[i]? = some (.string ⟨#[]⟩) := by
      rcases Nat.mod_two_eq_zero_or_one i with e | e
      · have := (pcs_at (List.replicate n ((⟨#[]⟩, ⟨#[]⟩) : PB)) (i / 2) (by simp; omega)).1
        rw [show i / 2 * 2 = i by omega] at this
        rw [this]
        simp [pAtB, show i / 2 < n by omega]
      · have := (pcs_at (List.replicate n ((⟨#[]⟩, ⟨#[]⟩) : PB)) (i / 2) (by simp; omega)).2
        rw [show i / 2 * 2 + 1 = i by omega] at this
        rw [this]
        simp [pAtB, show i / 2 < n by omega]
    have h4 := List.getElem?_eq_some_iff.1 h3
    rw [h4.2]
    rcases Nat.mod_two_eq_zero_or_one i with e | e <;> simp [Value.cells, e]
/-- The pairs as far as copied. -/
def ptP (l : List PB) (k : Nat) : List PB := l.take k ++ List.replicate (l.length - k) (⟨#[]⟩, ⟨#[]⟩)
theorem ptP_length (l : List PB) (k : Nat) (h : k ≤ l.length) : (ptP l k).length = l.length := by simp [ptP]; omega
theorem ptP_set (l : List PB) (k : Nat) (h : k < l.length) : (ptP l k).set k (pAtB l k) = ptP l (k + 1) := by
  have e : pAtB l k = l[k] := by simp [pAtB, h]
  rw [e]
  have hl : (l.take k).length = k := by simp; omega
  simp only [ptP]
  rw [List.set_append_right _ _ (by omega), hl]
  have h2 : l.length - k = (l.length - (k + 1)) + 1 := by omega
  rw [List.take_succ_eq_append_getElem h, h2, List.replicate_succ, Nat.sub_self, List.set_cons_zero, List.append_assoc]
  rfl
def szOkP (l : List PB) : Prop := ∀ i, (pAtB l i).1.size ≤ 9223372036854775807 ∧ (pAtB l i).2.size ≤ 9223372036854775807
end Go.Proofs.YtpgogpphobafoaaDoor
/-
  Slices of strings, of numbers and of nodes: what is read through them.
-/
namespace Go.Proofs.YtpgogpphobafoaaDoor
open Go.RowKit

def Sr (w : World) (S : Nat → Prop) (v : Value) (ss : List ByteArray) : Prop := Rw w S v ss.length (ss.map Value.string)
def Ir (w : World) (S : Nat → Prop) (v : Value) (ks : List Int) : Prop := Rw w S v ks.length (ks.map (Value.int .i64))
def sAt (ss : List ByteArray) (i : Nat) : ByteArray := ss[i]?.getD ⟨#[]⟩
def iAt (ks : List Int) (i : Nat) : Int := ks[i]?.getD 0
theorem Sr.to {w w' : World} {S R : Nat → Prop} {v : Value} {ss : List ByteArray} (h : Sr w S v ss) (ho : Only R w w') (hd : ∀ b, S b → b < w.heap.size → ¬ R b) : Sr w' S v ss := Rw.to h ho hd
theorem Ir.to {w w' : World} {S R : Nat → Prop} {v : Value} {ss : List Int} (h : Ir w S v ss) (ho : Only R w w') (hd : ∀ b, S b → b < w.heap.size → ¬ R b) : Ir w' S v ss := Rw.to h ho hd
theorem Pr.to {w w' : World} {S R : Nat → Prop} {v : Value} {ss : List PB} (h : Pr w S v ss) (ho : Only R w w') (hd : ∀ b, S b → b < w.heap.size → ¬ R b) : Pr w' S v ss := Rw.to h ho hd
theorem Rw.below {w w' : World} {S : Nat → Prop} {v : Value} {n : Nat} {xs : List Value} (h : Rw w S v n xs) (hb : Below w.heap.size w w') : Rw w' S v n xs := Rw.to h (only_of_below hb (fun _ => False)) (fun _ _ _ h => h)
theorem Sr.below {w w' : World} {S : Nat → Prop} {v : Value} {ss : List ByteArray} (h : Sr w S v ss) (hb : Below w.heap.size w w') : Sr w' S v ss := Rw.below h hb
theorem Ir.below {w w' : World} {S : Nat → Prop} {v : Value} {ss : List Int} (h : Ir w S v ss) (hb : Below w.heap.size w w') : Ir w' S v ss := Rw.below h hb
theorem Sr.shape {w : World} {S : Nat → Prop} {v : Value} {ss : List ByteArray} (h : Sr w S v ss) : ∃ a c, v = .slice a ss.length c ∧ ss.length ≤ c ∧ c ≤ 9223372036854775807 := Rw.shape h
theorem Ir.shape {w : World} {S : Nat → Prop} {v : Value} {ss : List Int} (h : Ir w S v ss) : ∃ a c, v = .slice a ss.length c ∧ ss.length ≤ c ∧ c ≤ 9223372036854775807 := Rw.shape h
theorem Rw.at {w : World} {S : Nat → Prop} {a : Option Addr} {n c m : Nat} {xs : List Value} (h : Rw w S (.slice a n c) m xs) (hp : 0 < n) : ∃ b off, a = some ⟨b, off, none⟩ ∧ S b ∧ b < w.heap.size ∧ ∀ j u, xs[j]? = some u → w.cell? ⟨b, off + j, none⟩ = some u := by
  obtain ⟨a', c', h1, h2, h3, h4, hn, h5⟩ := h
  cases h1
  obtain ⟨b, off, h6, h7, h8, h9⟩ := h5 hp
  exact ⟨b, off, h6, h8, h7, h9⟩
theorem Sr.at {w : World} {S : Nat → Prop} {a : Option Addr} {n c : Nat} {ss : List ByteArray} (h : Sr w S (.slice a n c) ss) (hp : 0 < n) : ∃ b off, a = some ⟨b, off, none⟩ ∧ S b ∧ b < w.heap.size ∧ ∀ i, i < n → w.cell? ⟨b, off + i, none⟩ = some (.string (sAt ss i)) := by
  have hn := (Rw.len h).1
  obtain ⟨b, off, h1, h2, h3, h4⟩ := Rw.at h hp
  refine ⟨b, off, h1, h2, h3, fun i hi => h4 i _ ?_⟩
  simp [sAt, show i < ss.length by omega]
theorem Ir.at {w : World} {S : Nat → Prop} {a : Option Addr} {n c : Nat} {ss : List Int} (h : Ir w S (.slice a n c) ss) (hp : 0 < n) : ∃ b off, a = some ⟨b, off, none⟩ ∧ S b ∧ b < w.heap.size ∧ ∀ i, i < n → w.cell? ⟨b, off + i, none⟩ = some (.int .i64 (iAt ss i)) := by
  have hn := (Rw.len h).1
  obtain ⟨b, off, h1, h2, h3, h4⟩ := Rw.at h hp
  refine ⟨b, off, h1, h2, h3, fun i hi => h4 i _ ?_⟩
  simp [iAt, show i < ss.length by omega]
abbrev V3 := Value × Value × Value
/-- The cells of a list of nodes. -/
def ncs : List V3 → List Value
  | [] => []
  | p :: ps => p.1 :: p.2.1 :: p.2.2 :: ncs ps
def vAt (V : List V3) (i : Nat) : V3 := V[i]?.getD (.slice none 0 0, .slice none 0 0, .slice none 0 0)
theorem ncs_length (ps : List V3) : (ncs ps).length = ps.length * 3 := by
  induction ps with
  | nil => rfl
  | cons p ps ih => simp only [ncs, List.length_cons, ih]; omega
theorem ncs_append (ps qs : List V3) : ncs (ps ++ qs) = ncs ps ++ ncs qs := by
  induction ps with
  | nil => rfl
  | cons p ps ih => simp only [ncs, List.cons_append, ih]
theorem ncs_at (ps : List V3) : ∀ i, i < ps.length → (ncs ps)[i * 3]? = some (vAt ps i).1 ∧ (ncs ps)[i * 3 + 1]? = some (vAt ps i).2.1 ∧ (ncs ps)[i * 3 + 2]? = some (vAt ps i).2.2 := by
  induction ps with
  | nil => intro i h; exact absurd h (Nat.not_lt_zero _)
  | cons p ps ih =>
    intro i h
    cases i with
    | zero => exact ⟨rfl, rfl, rfl⟩
    | succ i =>
      have := ih i (by simpa using h)
      have e : (i + 1) * 3 = i * 3 + 3 := by omega
      rw [e]
      exact this
theorem ncs_set (ps : List V3) (p : V3) : ∀ j, j < ps.length → ncs (ps.set j p) = (((ncs ps).set (j * 3) p.1).set (j * 3 + 1) p.2.1).set (j * 3 + 2) p.2.2 := by
  induction ps with
  | nil => intro j h; exact absurd h (Nat.not_lt_zero _)
  | cons q ps ih =>
    intro j h
    cases j with
    | zero => rfl
    | succ j =>
      have := ih j (by simpa using h)
      rw [show (j + 1) * 3 = j * 3 + 3 by omega, show j * 3 + 3 + 1 = j * 3 + 1 + 3 by omega, show j * 3 + 3 + 2 = j * 3 + 2 + 3 by omega]
      show q.1 :: q.2.1 :: q.2.2 :: ncs (ps.set j p) = _
      rw [this]
      rfl
/-- A node's three values lead to what it holds. -/
def N1 (w : World) (S : Nat → Prop) (p : V3) (x : NB) : Prop := Pr w S p.1 x.ps ∧ Sr w S p.2.1 x.keys ∧ Ir w S p.2.2 x.kids
theorem N1.to {w w' : World} {S R : Nat → Prop} {p : V3} {x : NB} (h : N1 w S p x) (ho : Only R w w') (hd : ∀ b, S b → b < w.heap.size → ¬ R b) : N1 w' S p x := ⟨h.1.to ho hd, h.2.1.to ho hd, h.2.2.to ho hd⟩
theorem N1.mono {w : World} {S R : Nat → Prop} {p : V3} {x : NB} (h : N1 w S p x) (hd : ∀ b, S b → b < w.heap.size → R b) : N1 w R p x := ⟨Rw.mono h.1 hd, Rw.mono h.2.1 hd, Rw.mono h.2.2 hd⟩
theorem N1.below {w w' : World} {S : Nat → Prop} {p : V3} {x : NB} (h : N1 w S p x) (hb : Below w.heap.size w w') : N1 w' S p x := h.to (only_of_below hb (fun _ => False)) (fun _ _ _ h => h)
/-- The slice value v leads to the nodes ns. -/
def Nr (w : World) (S : Nat → Prop) (v : Value) (ns : List NB) : Prop := ∃ V : List V3, V.length = ns.length ∧ Rw w S v ns.length (ncs V) ∧ ∀ i, i < ns.length → N1 w S (vAt V i) (nAt ns i)
theorem Nr.to {w w' : World} {S R : Nat → Prop} {v : Value} {ns : List NB} (h : Nr w S v ns) (ho : Only R w w') (hd : ∀ b, S b → b < w.heap.size → ¬ R b) : Nr w' S v ns := by
  obtain ⟨V, h1, h2, h3⟩ := h
  exact ⟨V, h1, h2.to ho hd, fun i hi => (h3 i hi).to ho hd⟩
theorem Nr.mono {w : World} {S R : Nat → Prop} {v : Value} {ns : List NB} (h : Nr w S v ns) (hd : ∀ b, S b → b < w.heap.size → R b) : Nr w R v ns := by
  obtain ⟨V, h1, h2, h3⟩ := h
  exact ⟨V, h1, h2.mono hd, fun i hi => (h3 i hi).mono hd⟩
theorem Nr.below {w w' : World} {S : Nat → Prop} {v : Value} {ns : List NB} (h : Nr w S v ns) (hb : Below w.heap.size w w') : Nr w' S v ns := h.to (only_of_below hb (fun _ => False)) (fun _ _ _ h => h)
theorem Nr.shape {w : World} {S : Nat → Prop} {v : Value} {ns : List NB} (h : Nr w S v ns) : ∃ a c, v = .slice a ns.length c ∧ ns.length ≤ c ∧ c ≤ 9223372036854775807 := by
  obtain ⟨V, h1, h2, h3⟩ := h
  exact h2.shape
theorem Nr.len {w : World} {S : Nat → Prop} {a : Option Addr} {n c : Nat} {ns : List NB} (h : Nr w S (.slice a n c) ns) : n = ns.length ∧ n ≤ c ∧ c ≤ 9223372036854775807 := by
  obtain ⟨V, h1, h2, h3⟩ := h
  exact Rw.len h2
/-- The node at place i: its three values, the shapes of these, where they lie. -/
theorem Nr.at {w : World} {S : Nat → Prop} {a : Option Addr} {n c : Nat} {ns : List NB} (h : Nr w S (.slice a n c) ns) (hp : 0 < n) : ∃ b off, a = some ⟨b, off, none⟩ ∧ S b ∧ b < w.heap.size ∧ ∀ i, i < n → ∃ ap np cp ax nx cx ai ni ci,
    w.cell? ⟨b, off + i * 3, none⟩ = some (.slice ap np cp) ∧ w.cell? ⟨b, off + i * 3 + 1, none⟩ = some (.slice ax nx cx) ∧ w.cell? ⟨b, off + i * 3 + 2, none⟩ = some (.slice ai ni ci) ∧
      Pr w S (.slice ap np cp) (nAt ns i).ps ∧ Sr w S (.slice ax nx cx) (nAt ns i).keys ∧ Ir w S (.slice ai ni ci) (nAt ns i).kids := by
  obtain ⟨V, h1, h2, h3⟩ := h
  have hn := (Rw.len h2).1
  obtain ⟨b, off, e1, e2, e3, e4⟩ := h2.at hp
  refine ⟨b, off, e1, e2, e3, fun i hi => ?_⟩
  obtain ⟨k1, k2, k3⟩ := h3 i (by omega)
  obtain ⟨c0, c1, c2⟩ := ncs_at V i (by omega)
  have d0 := e4 _ _ c0
  have d1 := e4 _ _ c1
  have d2 := e4 _ _ c2
  generalize vAt V i = p at *
  obtain ⟨p0, p1, p2⟩ := p
  obtain ⟨ap, cp, g0, _⟩ := k1.shape
  obtain ⟨ax, cx, g1, _⟩ := k2.shape
  obtain ⟨ai, ci, g2, _⟩ := k3.shape
  simp only at g0 g1 g2
  subst g0 g1 g2
  exact ⟨ap, _, cp, ax, _, cx, ai, _, ci, d0, d1, d2, k1, k2, k3⟩
end Go.Proofs.YtpgogpphobafoaaDoor
/-
  Keys and ranges: what the program's functions and the specification's answer, for all strings.
-/
namespace Go.Proofs.YtpgogpphobafoaaDoor
open Go.RowKit

def rng (lo hi : ByteArray) : Value := .agg #[.string lo, .string hi]
/-- Whether s lies ahead of the end hi. -/
def ahd (s hi : ByteArray) : Bool := decide (hi.toList = []) || Op.bytesLess s.toList hi.toList
/-- A range that lies in a new block, kept. -/
theorem s2 {w w1 : World} {lo hi : ByteArray} {T : TypeId} (h : Below (w.alloc (.cells #[.string lo, .string hi] T)).heap.size (w.alloc (.cells #[.string lo, .string hi] T)) w1) :
    w1.cell? ⟨w.heap.size, 0, none⟩ = some (.string lo) ∧ w1.cell? ⟨w.heap.size, 1, none⟩ = some (.string hi) ∧ Below (w.alloc (.cells #[.string lo, .string hi] T)).heap.size (w.alloc (.cells #[.string lo, .string hi] T)) w1 := by
  refine ⟨?_, ?_, h⟩
  · rw [h.cell (p := ⟨w.heap.size, 0, none⟩) (by simp), World.cell?_alloc_at (hn := rfl)]; rfl
  · rw [h.cell (p := ⟨w.heap.size, 1, none⟩) (by simp), World.cell?_alloc_at (hn := rfl)]; rfl
theorem s2k {w w1 w2 : World} {lo hi : ByteArray} {T : TypeId} (h2 : Below w1.heap.size w1 w2)
    (h : w1.cell? ⟨w.heap.size, 0, none⟩ = some (.string lo) ∧ w1.cell? ⟨w.heap.size, 1, none⟩ = some (.string hi) ∧ Below (w.alloc (.cells #[.string lo, .string hi] T)).heap.size (w.alloc (.cells #[.string lo, .string hi] T)) w1) :
    w2.cell? ⟨w.heap.size, 0, none⟩ = some (.string lo) ∧ w2.cell? ⟨w.heap.size, 1, none⟩ = some (.string hi) ∧ Below (w.alloc (.cells #[.string lo, .string hi] T)).heap.size (w.alloc (.cells #[.string lo, .string hi] T)) w2 :=
  s2 (h.2.2.trans (h2.mono h.2.2.size))
def rOk (lo hi : ByteArray) : Bool := decide (lo.size ≤ 17) && decide (hi.size ≤ 17) && ahd lo hi
def rHas (lo hi k : ByteArray) : Bool := rOk lo hi && kOk k && !Op.bytesLess k.toList lo.toList && ahd k hi

end Go.Proofs.YtpgogpphobafoaaDoor
/-
  Slices of strings: what is read of one; the law's helpers over them; SplitsOk of the program and of the specification.
-/
namespace Go.Proofs.YtpgogpphobafoaaDoor
open Go.RowKit

/-- The slice value '.slice a n c' has in the world w the strings ss. -/
def Sd (w : World) (a : Option Addr) (n c : Nat) (ss : List ByteArray) : Prop :=
  n = ss.length ∧ n ≤ c ∧ c ≤ 9223372036854775807 ∧ (∀ i : Nat, (ss[i]?.getD ⟨#[]⟩).size ≤ 9223372036854775807) ∧
    (0 < n → ∃ b off, a = some ⟨b, off, none⟩ ∧ b < w.heap.size ∧ ∀ i, i < n → w.cell? ⟨b, off + i, none⟩ = some (.string (ss[i]?.getD ⟨#[]⟩)))
theorem Sd.kept {w w' : World} {a : Option Addr} {n c : Nat} {ss : List ByteArray} (h : Sd w a n c ss) (hB : Below w.heap.size w w') : Sd w' a n c ss := by
  obtain ⟨h1, h2, h3, h4, h5⟩ := h
  refine ⟨h1, h2, h3, h4, fun hp => ?_⟩
  obtain ⟨b, off, rfl, hb, hc⟩ := h5 hp
  refine ⟨b, off, rfl, Nat.lt_of_lt_of_le hb hB.size, fun i hi => ?_⟩
  rw [hB.cell (p := ⟨b, off + i, none⟩) hb]
  exact hc i hi
/-- The list is right from place k on: keys, each above the one ahead. -/
def sOkF (ss : List ByteArray) : Nat → Nat → Bool
  | 0, _ => true
  | f + 1, k => kOk (ss[k]?.getD ⟨#[]⟩) && (decide (k = 0) || Op.bytesLess (ss[k - 1]?.getD ⟨#[]⟩).toList (ss[k]?.getD ⟨#[]⟩).toList) && sOkF ss f (k + 1)
def sOk (ss : List ByteArray) : Bool := decide (ss.length ≤ 3) && sOkF ss ss.length 0
theorem sOkF_no (ss : List ByteArray) (f k : Nat) (h : kOk (ss[k]?.getD ⟨#[]⟩) = false) : sOkF ss (f + 1) k = false := by simp [sOkF, h]
theorem sOkF_0 (ss : List ByteArray) (f : Nat) (h : kOk (ss[0]?.getD ⟨#[]⟩) = true) : sOkF ss (f + 1) 0 = sOkF ss f 1 := by simp only [sOkF, h]; simp
theorem sOkF_s (ss : List ByteArray) (f j : Nat) (h : kOk (ss[j + 1]?.getD ⟨#[]⟩) = true) (b : Bool) (h2 : Op.bytesLess (ss[j]?.getD ⟨#[]⟩).toList (ss[j + 1]?.getD ⟨#[]⟩).toList = b) : sOkF ss (f + 1) (j + 1) = (b && sOkF ss f (j + 1 + 1)) := by
  simp only [sOkF, h, Nat.add_sub_cancel, h2]; simp
set_option maxHeartbeats 4000000 in
theorem implKeysRise_any (a : Option Addr) (n c : Nat) (ss : List ByteArray) (w : World) (hn0 : n = ss.length) (hm : c ≤ 9223372036854775807) (hc : n ≤ c)
    (hcell : 0 < n → ∃ b off, a = some ⟨b, off, none⟩ ∧ ∀ i, i < n → w.cell? ⟨b, off + i, none⟩ = some (.string (ss[i]?.getD ⟨#[]⟩))) :
    Calls Tryd.prog 73 #[.slice a n c] w fun e w' => e = .returned (.bool (sOkF ss n 0)) ∧ w = w' := by
  have HN : Hid (n = ss.length) := hn0
  clear hn0
  go_enter Tryd.func73, Tryd.ntmps73
  go_wp2_with fail
  go_loopw [7] (fun i wr => ∃ k : Nat, k ≤ n ∧ i = .int .i64 k ∧ wr = w ∧ Hid (sOkF ss (n - k) k = sOkF ss n 0)) (fun i _ => n - (intOf i).toNat)
  case atStart => exact ⟨0, Nat.zero_le _, rfl, rfl, rfl⟩
  case round =>
    obtain ⟨k, hk, rfl, rfl, HS⟩ := hrel
    by_cases hlt : k < n
    · obtain ⟨b, off, ha, hcell⟩ := hcell (by omega)
      have hck := hcell k hlt
      have hlt' : (k : Int) < (n : Int) := by omega
      have e1 : n - k = (n - (k + 1)) + 1 := by omega
      have HE1 := hid e1
      clear e1
      rw [ha]
      rw [HE1.out] at HS
      cases k with
      | zero =>
        clear hcell
        rw [Nat.add_zero] at hck
        generalize hcur : ss[0]?.getD ⟨#[]⟩ = cur at hck
        have HC := hid hcur
        clear hcur
        go_wp2_with fail
        refine (implKeyOk_any cur _).mono ?_
        rintro e w1 ⟨rfl, rfl⟩
        cases h1 : kOk cur
        · have HZ : Hid (sOkF ss n 0 = false) := by show sOkF ss n 0 = false; rw [← HS.out]; exact sOkF_no ss _ _ (by rw [HC.out]; exact h1)
          go_wp2
          go_ret
          exact ⟨by rw [HZ.out]; rfl, rfl⟩
        · have HZ : Hid (sOkF ss (n - 1) 1 = sOkF ss n 0) := by
            show sOkF ss (n - 1) 1 = sOkF ss n 0
            rw [← HS.out]; exact (sOkF_0 ss _ (by rw [HC.out]; exact h1)).symm
          go_wp2
          go_roundw
          case rel => exact ⟨1, by omega, by go_num, by trivial, HZ⟩
          case measure => simp [intOf]; omega
      | succ j =>
        have hcj := hcell j (by omega)
        have hj1 : (0 : Int) < (j : Int) + 1 := by omega
        clear hcell
        generalize hcur : ss[j + 1]?.getD ⟨#[]⟩ = cur at hck
        generalize hprev : ss[j]?.getD ⟨#[]⟩ = prev at hcj
        have HC := hid hcur
        have HP := hid hprev
        clear hcur hprev
        go_wp2_with fail
        refine (implKeyOk_any cur _).mono ?_
        rintro e w1 ⟨rfl, rfl⟩
        cases h1 : kOk cur
        · have HZ : Hid (sOkF ss n 0 = false) := by show sOkF ss n 0 = false; rw [← HS.out]; exact sOkF_no ss _ _ (by rw [HC.out]; exact h1)
          go_wp2
          go_ret
          exact ⟨by rw [HZ.out]; rfl, rfl⟩
        · have HG : Hid (∀ b, Op.bytesLess prev.toList cur.toList = b → (b && sOkF ss (n - (j + 1 + 1)) (j + 1 + 1)) = sOkF ss n 0) := by
            intro b hb
            rw [← HS.out]
            exact (sOkF_s ss _ j (by rw [HC.out]; exact h1) b (by rw [HP.out, HC.out]; exact hb)).symm
          rcases tri prev cur with ⟨t1, t2, t3, t4⟩ | rfl | ⟨t1, t2, t3, t4⟩
          · have HZ : Hid (sOkF ss (n - (j + 1 + 1)) (j + 1 + 1) = sOkF ss n 0) := by show sOkF ss (n - (j + 1 + 1)) (j + 1 + 1) = sOkF ss n 0; have := HG.out _ t1; simpa using this
            go_wp2
            go_roundw
            case rel => exact ⟨j + 1 + 1, by omega, by go_num, by trivial, HZ⟩
            case measure => simp [intOf]; omega
          · have t1 := less_irrefl prev.toList
            have HZ : Hid (sOkF ss n 0 = false) := by show sOkF ss n 0 = false; have := HG.out _ t1; simpa using this.symm
            go_wp2
            go_ret
            exact ⟨by rw [HZ.out]; rfl, rfl⟩
          · have HZ : Hid (sOkF ss n 0 = false) := by show sOkF ss n 0 = false; have := HG.out _ t1; simpa using this.symm
            go_wp2
            go_ret
            exact ⟨by rw [HZ.out]; rfl, rfl⟩
    · have hk' : k = n := by omega
      have HZ : Hid (sOkF ss n 0 = true) := by show sOkF ss n 0 = true; rw [← HS.out, hk', Nat.sub_self]; rfl
      clear hk' hcell
      go_wp2
      go_ret
      exact ⟨by rw [HZ.out]; rfl, rfl⟩
end Go.Proofs.YtpgogpphobafoaaDoor
/-
  Pages as plain data; PageOk of the specification.
-/
namespace Go.Proofs.YtpgogpphobafoaaDoor
open Go.RowKit
/-- A page: its keys, values and kids. -/
structure PG where
  keys : List ByteArray
  vals : List ByteArray
  kids : List Int
def kidOk (k : Int) : Bool := decide (2 ≤ k) && decide (k < 400)
def pgLeaf (p : PG) : Bool := p.vals.all vOk && (decide (1 ≤ p.keys.length) && decide (p.keys.length ≤ 4) && decide (p.vals.length = p.keys.length))
def pgBranch (p : PG) : Bool := p.kids.all kidOk && (decide (2 ≤ p.kids.length) && decide (p.kids.length ≤ 4) && decide (p.keys.length + 1 = p.kids.length) && decide (p.vals.length = 0))
def pgOk (p : PG) : Bool := sOkF p.keys p.keys.length 0 && (if p.kids.length = 0 then pgLeaf p else pgBranch p)
theorem pgOk_leaf {p : PG} (h : sOkF p.keys p.keys.length 0 = true) (h0 : p.kids.length = 0) : pgOk p = pgLeaf p := by rw [pgOk, h, if_pos h0]; rfl
theorem pgOk_branch {p : PG} (h : sOkF p.keys p.keys.length 0 = true) (h0 : ¬ p.kids.length = 0) : pgOk p = pgBranch p := by rw [pgOk, h, if_neg h0]; rfl
theorem pgOk_no {p : PG} (h : sOkF p.keys p.keys.length 0 = false) : pgOk p = false := by rw [pgOk, h]; rfl
theorem all_take {α : Type} (l : List α) (f : α → Bool) (d : α) {k : Nat} (h : k < l.length) : (l.take (k + 1)).all f = ((l.take k).all f && f (l[k]?.getD d)) := by
  rw [List.take_succ_eq_append_getElem h, List.all_append]
  simp [h]
theorem all_no {α : Type} (l : List α) (f : α → Bool) (d : α) {k : Nat} (h : k < l.length) (hf : f (l[k]?.getD d) = false) : l.all f = false := by
  rw [List.all_eq_false]
  refine ⟨l[k], List.getElem_mem h, ?_⟩
  simp [h] at hf
  simp [hf]
theorem pgLeaf_no {p : PG} (h : p.vals.all vOk = false) : pgLeaf p = false := by rw [pgLeaf, h]; rfl
theorem pgBranch_no {p : PG} (h : p.kids.all kidOk = false) : pgBranch p = false := by rw [pgBranch, h]; rfl
/-- The slices lead to the page. -/
structure Pgr (w : World) (S : Nat → Prop) (ka : Option Addr) (kn kc : Nat) (va : Option Addr) (vn vc : Nat) (ia : Option Addr) (jn ic : Nat) (p : PG) : Prop where
  hk : Sr w S (.slice ka kn kc) p.keys
  hv : Sr w S (.slice va vn vc) p.vals
  hi : Ir w S (.slice ia jn ic) p.kids
theorem Pgr.below {w w' : World} {S : Nat → Prop} {ka : Option Addr} {kn kc : Nat} {va : Option Addr} {vn vc : Nat} {ia : Option Addr} {jn ic : Nat} {p : PG} (h : Pgr w S ka kn kc va vn vc ia jn ic p) (hb : Below w.heap.size w w') : Pgr w' S ka kn kc va vn vc ia jn ic p := ⟨h.hk.below hb, h.hv.below hb, h.hi.below hb⟩
theorem Pgr.to {w w' : World} {S R : Nat → Prop} {ka : Option Addr} {kn kc : Nat} {va : Option Addr} {vn vc : Nat} {ia : Option Addr} {jn ic : Nat} {p : PG} (h : Pgr w S ka kn kc va vn vc ia jn ic p) (ho : Only R w w') (hd : ∀ b, S b → b < w.heap.size → ¬ R b) : Pgr w' S ka kn kc va vn vc ia jn ic p := ⟨h.hk.to ho hd, h.hv.to ho hd, h.hi.to ho hd⟩
set_option maxHeartbeats 8000000 in
set_option maxRecDepth 20000 in
theorem specPageOk_any (S : Nat → Prop) (ka : Option Addr) (kn kc : Nat) (va : Option Addr) (vn vc : Nat) (ia : Option Addr) (jn ic : Nat) (p : PG) (w : World) (h : Pgr w S ka kn kc va vn vc ia jn ic p) :
    Calls Tryd.prog 28 #[.agg #[.slice ka kn kc, .slice va vn vc, .slice ia jn ic]] w fun e w' => e = .returned (.bool (pgOk p)) ∧ Below w.heap.size w w' := by
  have hb0 := below_new (o := .cells #[.slice ka kn kc, .slice va vn vc, .slice ia jn ic] 30) (w := w) (Below.refl _ _)
  have P0 := hid (h.below hb0)
  have HB := hid hb0
  have K0 := Bk.new w 30 [.slice ka kn kc, .slice va vn vc, .slice ia jn ic]
  have c0 := K0.cell (j := 0) rfl
  have c1 := K0.cell (j := 1) rfl
  have c2 := K0.cell (j := 2) rfl
  have HNK := hid (Rw.len h.hk).1
  have HNV := hid (Rw.len h.hv).1
  have HNI := hid (Rw.len h.hi).1
  have bk := (Rw.len h.hk).2
  have bv := (Rw.len h.hv).2
  have bi := (Rw.len h.hi).2
  clear h hb0 K0
  go_enter Tryd.func28, Tryd.ntmps28
  go_wp2_with fail
  generalize w.alloc (.cells #[.slice ka kn kc, .slice va vn vc, .slice ia jn ic] 30) = U at *
  generalize hx : w.heap.size = x at c0 c1 c2 ⊢
  clear hx
  go_loopw [12] (fun i wr => ∃ k : Nat, k ≤ kn ∧ i = .int .i64 k ∧ wr = U ∧ Hid (sOkF p.keys (kn - k) k = sOkF p.keys kn 0)) (fun i _ => kn - (intOf i).toNat)
  case atStart => exact ⟨0, Nat.zero_le _, rfl, rfl, rfl⟩
  case round =>
    obtain ⟨k, hk, rfl, rfl, HS⟩ := hrel
    by_cases hlt : k < kn
    · have hlt' : (k : Int) < (kn : Int) := by omega
      obtain ⟨b, off, ha, -, -, hcell⟩ := P0.out.hk.at (by omega)
      have hck := hcell k hlt
      have e1 : kn - k = (kn - (k + 1)) + 1 := by omega
      have HE1 := hid e1
      clear e1
      subst ha
      rw [HE1.out] at HS
      have HNO : Hid (sOkF p.keys kn 0 = false → pgOk p = false) := fun e => pgOk_no (by rw [← HNK.out]; exact e)
      cases k with
      | zero =>
        clear hcell
        rw [Nat.add_zero] at hck
        generalize hcur : sAt p.keys 0 = cur at hck
        have HC : Hid (p.keys[0]?.getD ⟨#[]⟩ = cur) := hcur
        clear hcur
        go_wp2_with fail
        refine (specKeyOk_any cur _).mono ?_
        rintro e w1 ⟨rfl, rfl⟩
        cases h1 : kOk cur
        · have HZ : Hid (pgOk p = false) := HNO.out (by rw [← HS.out]; exact sOkF_no p.keys _ _ (by rw [HC.out]; exact h1))
          go_wp2
          go_ret
          exact ⟨by rw [HZ.out]; rfl, HB.out⟩
        · have HZ : Hid (sOkF p.keys (kn - 1) 1 = sOkF p.keys kn 0) := by
            show sOkF p.keys (kn - 1) 1 = sOkF p.keys kn 0
            rw [← HS.out]; exact (sOkF_0 p.keys _ (by rw [HC.out]; exact h1)).symm
          go_wp2
          go_roundw
          case rel => exact ⟨1, by omega, by go_num, by trivial, HZ⟩
          case measure => simp [intOf]; omega
      | succ j =>
        have hcj := hcell j (by omega)
        have hj1 : (0 : Int) < (j : Int) + 1 := by omega
        clear hcell
        generalize hcur : sAt p.keys (j + 1) = cur at hck
        generalize hprev : sAt p.keys j = prev at hcj
        have HC : Hid (p.keys[j + 1]?.getD ⟨#[]⟩ = cur) := hcur
        have HP : Hid (p.keys[j]?.getD ⟨#[]⟩ = prev) := hprev
        clear hcur hprev
        go_wp2_with fail
        refine (specKeyOk_any cur _).mono ?_
        rintro e w1 ⟨rfl, rfl⟩
        cases h1 : kOk cur
        · have HZ : Hid (pgOk p = false) := HNO.out (by rw [← HS.out]; exact sOkF_no p.keys _ _ (by rw [HC.out]; exact h1))
          go_wp2
          go_ret
          exact ⟨by rw [HZ.out]; rfl, HB.out⟩
        · have HG : Hid (∀ b, Op.bytesLess prev.toList cur.toList = b → (b && sOkF p.keys (kn - (j + 1 + 1)) (j + 1 + 1)) = sOkF p.keys kn 0) := by
            intro b hb
            rw [← HS.out]
            exact (sOkF_s p.keys _ j (by rw [HC.out]; exact h1) b (by rw [HP.out, HC.out]; exact hb)).symm
          rcases tri prev cur with ⟨t1, t2, t3, t4⟩ | rfl | ⟨t1, t2, t3, t4⟩
          · have HZ : Hid (sOkF p.keys (kn - (j + 1 + 1)) (j + 1 + 1) = sOkF p.keys kn 0) := by show sOkF p.keys (kn - (j + 1 + 1)) (j + 1 + 1) = sOkF p.keys kn 0; have := HG.out _ t1; simpa using this
            go_wp2
            go_roundw
            case rel => exact ⟨j + 1 + 1, by omega, by go_num, by trivial, HZ⟩
            case measure => simp [intOf]; omega
          · have t1 := less_irrefl prev.toList
            have HZ : Hid (pgOk p = false) := HNO.out (by have := HG.out _ t1; simpa using this.symm)
            go_wp2
            go_ret
            exact ⟨by rw [HZ.out]; rfl, HB.out⟩
          · have HZ : Hid (pgOk p = false) := HNO.out (by have := HG.out _ t1; simpa using this.symm)
            go_wp2
            go_ret
            exact ⟨by rw [HZ.out]; rfl, HB.out⟩
    · have hk' : k = kn := by omega
      have HZ : Hid (sOkF p.keys p.keys.length 0 = true) := by show sOkF p.keys p.keys.length 0 = true; rw [← HNK.out, ← HS.out, hk', Nat.sub_self]; rfl
      clear hk' HS
      by_cases hi0 : jn = 0
      · subst hi0
        have HR : Hid (pgOk p = pgLeaf p) := pgOk_leaf HZ.out HNI.out.symm
        go_wp2_with fail
        go_loopw [42] (fun i v => ∃ k : Nat, k ≤ vn ∧ i = .int .i64 k ∧ v = wr ∧ Hid ((p.vals.take k).all vOk = true)) (fun i _ => vn - (intOf i).toNat)
        case atStart => exact ⟨0, Nat.zero_le _, rfl, rfl, rfl⟩
        case round =>
          obtain ⟨m, hm, rfl, rfl, HT⟩ := hrel
          by_cases hlt2 : m < vn
          · have hlt2' : (m : Int) < (vn : Int) := by omega
            have hml : m < p.vals.length := by rw [← HNV.out]; exact hlt2
            obtain ⟨b, off, ha, -, -, hcell⟩ := P0.out.hv.at (by omega)
            have hcm := hcell m hlt2
            clear hcell
            subst ha
            generalize hcur : sAt p.vals m = cur at hcm
            have HC : Hid (p.vals[m]?.getD ⟨#[]⟩ = cur) := hcur
            clear hcur
            go_wp2_with fail
            refine (specValOk_any cur _).mono ?_
            rintro e w1 ⟨rfl, rfl⟩
            cases h1 : vOk cur
            · have HZ2 : Hid (pgOk p = false) := by
                show pgOk p = false
                rw [HR.out]; exact pgLeaf_no (all_no _ _ ⟨#[]⟩ hml (by rw [HC.out]; exact h1))
              go_wp2
              go_ret
              exact ⟨by rw [HZ2.out]; rfl, HB.out⟩
            · have HT2 : Hid ((p.vals.take (m + 1)).all vOk = true) := by
                show _ = true
                rw [all_take _ _ ⟨#[]⟩ hml, HT.out, HC.out, h1]; rfl
              go_wp2
              go_roundw
              case rel => exact ⟨m + 1, by omega, by go_num, by trivial, HT2⟩
              case measure => simp [intOf]; omega
          · have HA : Hid (p.vals.all vOk = true) := by
              have := HT.out
              rwa [List.take_of_length_le (by rw [← HNV.out]; omega)] at this
            have HR2 : Hid (pgOk p = (decide (1 ≤ kn) && decide (kn ≤ 4) && decide (vn = kn))) := by
              show pgOk p = _
              rw [HR.out, pgLeaf, HA.out, HNK.out, HNV.out]; rfl
            clear HT HA HR
            by_cases q1 : 1 ≤ kn
            · by_cases q2 : kn ≤ 4
              · by_cases q3 : vn = kn
                · have HF : Hid (pgOk p = true) := by show _ = true; rw [HR2.out, decide_eq_true q1, decide_eq_true q2, decide_eq_true q3]; rfl
                  subst q3
                  have q1' : (1 : Int) ≤ (vn : Int) := by omega
                  have q2' : (vn : Int) ≤ 4 := by omega
                  clear HR2
                  go_wp2
                  go_ret
                  exact ⟨by rw [HF.out]; rfl, HB.out⟩
                · have HF : Hid (pgOk p = false) := by show _ = false; rw [HR2.out, decide_eq_false q3]; simp
                  have q1' : (1 : Int) ≤ (kn : Int) := by omega
                  have q2' : (kn : Int) ≤ 4 := by omega
                  have q3' : ((vn : Int) == (kn : Int)) = false := by simp; omega
                  have q4' : ¬ (vn : Int) = (kn : Int) := by omega
                  clear HR2
                  go_wp2
                  go_ret
                  exact ⟨by rw [HF.out]; rfl, HB.out⟩
              · have HF : Hid (pgOk p = false) := by show _ = false; rw [HR2.out, decide_eq_false q2]; simp
                have q1' : (1 : Int) ≤ (kn : Int) := by omega
                have q2' : ¬ (kn : Int) ≤ 4 := by omega
                clear HR2
                go_wp2
                go_ret
                exact ⟨by rw [HF.out]; rfl, HB.out⟩
            · have HF : Hid (pgOk p = false) := by show _ = false; rw [HR2.out, decide_eq_false q1]; simp
              have q1' : ¬ (1 : Int) ≤ (kn : Int) := by omega
              clear HR2
              go_wp2
              go_ret
              exact ⟨by rw [HF.out]; rfl, HB.out⟩
      · have hi0' : ¬ (jn : Int) = 0 := by omega
        have HR : Hid (pgOk p = pgBranch p) := pgOk_branch HZ.out (by rw [← HNI.out]; exact hi0)
        go_wp2_with fail
        go_loopw [72] (fun i v => ∃ k : Nat, k ≤ jn ∧ i = .int .i64 k ∧ v = wr ∧ Hid ((p.kids.take k).all kidOk = true)) (fun i _ => jn - (intOf i).toNat)
        case atStart => exact ⟨0, Nat.zero_le _, rfl, rfl, rfl⟩
        case round =>
          obtain ⟨m, hm, rfl, rfl, HT⟩ := hrel
          by_cases hlt2 : m < jn
          · have hlt2' : (m : Int) < (jn : Int) := by omega
            have hml : m < p.kids.length := by rw [← HNI.out]; exact hlt2
            obtain ⟨b, off, ha, -, -, hcell⟩ := P0.out.hi.at (by omega)
            have hcm := hcell m hlt2
            clear hcell
            subst ha
            generalize hcur : iAt p.kids m = cur at hcm
            have HC : Hid (p.kids[m]?.getD 0 = cur) := hcur
            clear hcur
            by_cases g1 : cur < 2
            · have HZ2 : Hid (pgOk p = false) := by
                show pgOk p = false
                rw [HR.out]; exact pgBranch_no (all_no _ _ 0 hml (by rw [HC.out, kidOk, decide_eq_false (by omega)]; rfl))
              go_wp2
              go_ret
              exact ⟨by rw [HZ2.out]; rfl, HB.out⟩
            · by_cases g2 : 400 ≤ cur
              · have HZ2 : Hid (pgOk p = false) := by
                  show pgOk p = false
                  rw [HR.out]; exact pgBranch_no (all_no _ _ 0 hml (by rw [HC.out, kidOk, decide_eq_false (show ¬ cur < 400 by omega)]; simp))
                go_wp2
                go_ret
                exact ⟨by rw [HZ2.out]; rfl, HB.out⟩
              · have HT2 : Hid ((p.kids.take (m + 1)).all kidOk = true) := by
                  show _ = true
                  rw [all_take _ _ 0 hml, HT.out, HC.out, kidOk, decide_eq_true (by omega), decide_eq_true (by omega)]; rfl
                go_wp2
                go_roundw
                case rel => exact ⟨m + 1, by omega, by go_num, by trivial, HT2⟩
                case measure => simp [intOf]; omega
          · have HA : Hid (p.kids.all kidOk = true) := by
              have := HT.out
              rwa [List.take_of_length_le (by rw [← HNI.out]; omega)] at this
            have HR2 : Hid (pgOk p = (decide (2 ≤ jn) && decide (jn ≤ 4) && decide (kn + 1 = jn) && decide (vn = 0))) := by
              show pgOk p = _
              rw [HR.out, pgBranch, HA.out, HNK.out, HNV.out, HNI.out]; rfl
            clear HT HA HR
            by_cases q1 : 2 ≤ jn
            · by_cases q2 : jn ≤ 4
              · by_cases q3 : kn + 1 = jn
                · by_cases q4 : vn = 0
                  · have HF : Hid (pgOk p = true) := by show _ = true; rw [HR2.out, decide_eq_true q1, decide_eq_true q2, decide_eq_true q3, decide_eq_true q4]; rfl
                    subst q4
                    have q1' : (2 : Int) ≤ (jn : Int) := by omega
                    have q2' : (jn : Int) ≤ 4 := by omega
                    have q3' : (jn : Int) - 1 = (kn : Int) := by omega
                    clear HR2
                    go_wp2
                    go_ret
                    exact ⟨by rw [HF.out]; rfl, HB.out⟩
                  · have HF : Hid (pgOk p = false) := by show _ = false; rw [HR2.out, decide_eq_false q4]; simp
                    have q1' : (2 : Int) ≤ (jn : Int) := by omega
                    have q2' : (jn : Int) ≤ 4 := by omega
                    have q3' : (jn : Int) - 1 = (kn : Int) := by omega
                    have q4' : ¬ (vn : Int) = 0 := by omega
                    have q5' : ((vn : Int) == 0) = false := by simp; omega
                    have q6' : (vn == 0) = false := by simp; omega
                    clear HR2
                    go_wp2
                    go_ret
                    exact ⟨by rw [HF.out]; rfl, HB.out⟩
                · have HF : Hid (pgOk p = false) := by show _ = false; rw [HR2.out, decide_eq_false q3]; simp
                  have q1' : (2 : Int) ≤ (jn : Int) := by omega
                  have q2' : (jn : Int) ≤ 4 := by omega
                  have q3' : ¬ (kn : Int) = (jn : Int) - 1 := by omega
                  have q4' : ((kn : Int) == (jn : Int) - 1) = false := by simp; omega
                  clear HR2
                  go_wp2
                  go_ret
                  exact ⟨by rw [HF.out]; rfl, HB.out⟩
              · have HF : Hid (pgOk p = false) := by show _ = false; rw [HR2.out, decide_eq_false q2]; simp
                have q1' : (2 : Int) ≤ (jn : Int) := by omega
                have q2' : ¬ (jn : Int) ≤ 4 := by omega
                clear HR2
                go_wp2
                go_ret
                exact ⟨by rw [HF.out]; rfl, HB.out⟩
            · have HF : Hid (pgOk p = false) := by show _ = false; rw [HR2.out, decide_eq_false q1]; simp
              have q1' : ¬ (2 : Int) ≤ (jn : Int) := by omega
              clear HR2
              go_wp2
              go_ret
              exact ⟨by rw [HF.out]; rfl, HB.out⟩
end Go.Proofs.YtpgogpphobafoaaDoor
