/-
  What the law's helpers do, for every slice of bytes: toByteS makes a new row with the same bytes; eqByteS tells whether two slices have the same bytes.
-/
import Derived.Test.YtidjehapeanpbaaGreatDoorRows
import Derived.WalkKit
import Derived.WalkSpells
import Derived.Deep.QuietTactic
import Derived.BigQuiet
import Derived.Deep.OwnRows
import Derived.Laws.IdiomStrings
import Derived.Laws.Cover1
import Derived.Laws.AppendOwnNone
import Derived.Deep.RegionHeld3
import Derived.Laws.MakeOwn
import Derived.Deep.AppendSrc
namespace Go.Proofs.YtidjehapeanpbaaGreatDoor
open Go.RowKit
theorem hid {p : Prop} (h : p) : Hid p := h
theorem infoU8 : (Tryz.prog.info? 5).map (fun i => (i.zero, i.size, i.bytes)) = some (some (.int .u8 0), 1, 1) := by kernel_rfl
def Rd (w : World) (a : Option Addr) (n c : Nat) (zs : List Int) : Prop :=
 n = zs.length ∧ n ≤ c ∧ c ≤ 9223372036854775807 ∧ n ≤ 140737488355328 ∧ (∀ i : Nat, 0 ≤ zs[i]?.getD 0 ∧ zs[i]?.getD 0 ≤ 255) ∧
  (0 < n → ∃ b off, a = some ⟨b, off, none⟩ ∧ b < w.heap.size ∧ ∀ i, i < n → w.cell? ⟨b, off + i, none⟩ = some (.int .u8 (zs[i]?.getD 0)))
def byteVals (zs : List Int) : Array Value := (zs.map (Value.int .u8)).toArray
def part (zs : List Int) (k : Nat) : Array Value := ((zs.take k).map (Value.int .u8) ++ List.replicate (zs.length - k) (Value.int .u8 0)).toArray
theorem part_zero (zs : List Int) : part zs 0 = madeCells #[.int .u8 0] zs.length := by
 apply Array.ext
 ·simp [part, madeCells]
 ·intro i h1 h2; simp [part, madeCells, Nat.mod_one]
theorem part_all (zs : List Int) : part zs zs.length = byteVals zs := by simp [part, byteVals]
theorem part_at (zs : List Int) (k : Nat) (h : k < zs.length) : (part zs k)[k]? = some (.int .u8 0) := by
 simp only [part, List.getElem?_toArray]
 have hl : ((zs.take k).map (Value.int .u8)).length = k := by simp; omega
 rw [List.getElem?_append_right (by omega), hl, List.getElem?_replicate]
 rw [if_pos (by omega)]
theorem part_set (zs : List Int) (k : Nat) (h : k < zs.length) : (part zs k).setIfInBounds k (.int .u8 (zs[k]?.getD 0)) = part zs (k + 1) := by
 have e : zs[k]?.getD 0 = zs[k] := by simp [h]
 rw [e]
 simp only [part, List.setIfInBounds_toArray]
 congr 1
 have hl : ((zs.take k).map (Value.int .u8)).length = k := by simp; omega
 rw [List.set_append_right _ _ (by omega), hl]
 have h2 : zs.length - k = (zs.length - (k + 1)) + 1 := by omega
 rw [List.take_succ_eq_append_getElem h, h2, List.replicate_succ, List.map_append, Nat.sub_self, List.set_cons_zero, List.append_assoc]
 rfl
set_option maxHeartbeats 400000 in
theorem toByteS_any (a : Option Addr) (n c : Nat) (zs : List Int) (w : World) (h : Rd w a n c zs) :
  Calls Tryz.prog 111 #[.slice a n c] w fun e w' => e = .returned (.slice (some ⟨w.heap.size, 0, none⟩) n n) ∧ w' = w.alloc (.cells (byteVals zs) 5) := by
 obtain ⟨hn0, hc, hm, hnm, hb, hcell⟩ := h
 have HN : Hid (n = zs.length) := hn0
 clear hn0
 have hmk := run_make_row' (P := Tryz.prog) 89 5 (.int .u8 0) 1 Tryz.underlying89 infoU8 rfl .i64 .i64 n (by omega) (by omega)
 have h63 : n ≤ 9223372036854775807 := by omega
 go_enter Tryz.func111, Tryz.ntmps111
 go_wp2
 go_loopw [4] (fun i wr => ∃ k : Nat, k ≤ n ∧ i = .int .i64 k ∧ wr = w.alloc (.cells (part zs k) 5)) (fun i _ => n - (intOf i).toNat)
 case atStart => exact ⟨0, Nat.zero_le _, rfl, by rw [part_zero, ← HN.out]⟩
 case round =>
  obtain ⟨k, hk, rfl, rfl⟩ := hrel
  by_cases hlt : k < n
  ·obtain ⟨b, off, ha, hbw, hcell⟩ := hcell (by omega)
   have hck := hcell k hlt
   have hp := part_at zs k (by rw [← HN.out]; exact hlt)
   have HS : Hid ((part zs k).setIfInBounds k (.int .u8 (zs[k]?.getD 0)) = part zs (k + 1)) := part_set zs k (by rw [← HN.out]; exact hlt)
   have hlt' : (k : Int) < (n : Int) := by omega
   clear hcell
   rw [ha]
   go_wp2
   go_roundw
   case rel => exact ⟨k + 1, by omega, by go_num, by rw [HS.out]⟩
   case measure => simp [intOf]; omega
  ·have hk' : k = n := by omega
   have HA : Hid (part zs k = byteVals zs) := by rw [hk', HN.out]; exact part_all zs
   clear hk'
   go_wp2
   go_ret
   exact ⟨rfl, by rw [HA.out]⟩
theorem Rd.below {w w' : World} {B : Nat} {a : Option Addr} {n c : Nat} {zs : List Int} (h : Rd w a n c zs) (hB : Below B w w') (hlt : ∀ x, a = some x → 0 < n → x.block < B) : Rd w' a n c zs := by
 obtain ⟨h1, h2, h3, h30, h4, h5⟩ := h
 refine ⟨h1, h2, h3, h30, h4, fun hp => ?_⟩
 obtain ⟨b, off, rfl, hb, hc⟩ := h5 hp
 refine ⟨b, off, rfl, Nat.lt_of_lt_of_le hb hB.size, fun i hi => ?_⟩
 rw [hB.cell (p := ⟨b, off + i, none⟩) (hlt ⟨b, off, none⟩ rfl hp)]
 exact hc i hi
theorem Rd.lt {w : World} {a : Option Addr} {n c : Nat} {zs : List Int} (h : Rd w a n c zs) : ∀ x, a = some x → 0 < n → x.block < w.heap.size := by
 intro x hx hp
 obtain ⟨b, off, ha, hb, _⟩ := h.2.2.2.2.2 hp
 rw [ha] at hx; cases hx; exact hb
theorem Rd.kept {w w' : World} {a : Option Addr} {n c : Nat} {zs : List Int} (h : Rd w a n c zs) (hB : Below w.heap.size w w') : Rd w' a n c zs := h.below hB h.lt
theorem rd_new (w : World) (zs : List Int) (hl : zs.length ≤ 140737488355328) (hb : ∀ i : Nat, 0 ≤ zs[i]?.getD 0 ∧ zs[i]?.getD 0 ≤ 255) :
  Rd (w.alloc (.cells (byteVals zs) 5)) (some ⟨w.heap.size, 0, none⟩) zs.length zs.length zs := by
 refine ⟨rfl, Nat.le_refl _, by omega, hl, hb, fun _ => ⟨w.heap.size, 0, rfl, by simp, fun i hi => ?_⟩⟩
 rw [World.cell?_alloc_at (hn := rfl)]
 simp [byteVals, hi]
theorem take_succ_eq {xs ys : List Int} {k : Nat} (hx : k < xs.length) (hy : k < ys.length) (h : xs.take k = ys.take k) (e : xs[k]?.getD 0 = ys[k]?.getD 0) : xs.take (k + 1) = ys.take (k + 1) := by
 rw [List.take_succ_eq_append_getElem hx, List.take_succ_eq_append_getElem hy, h]
 simp [hx, hy] at e
 rw [e]
set_option maxHeartbeats 400000 in
theorem eqByteS_any (a a' : Option Addr) (n n' c c' : Nat) (zs zs' : List Int) (w : World) (h : Rd w a n c zs) (h' : Rd w a' n' c' zs') :
  Calls Tryz.prog 121 #[.slice a n c, .slice a' n' c'] w fun e w' => e = .returned (.bool (decide (zs = zs'))) ∧ ∃ q, w' = w.drewN q := by
 obtain ⟨hn0, hc, hm, hnm, hb, hcell⟩ := h
 obtain ⟨hn0', hc', hm', hnm', hb', hcell'⟩ := h'
 have HN : Hid (n = zs.length) := hn0
 have HN' : Hid (n' = zs'.length) := hn0'
 clear hn0 hn0'
 by_cases hne : n = n'
 ·subst hne
  have hz : ((n : Int) != (n : Int)) = false := by simp
  go_enter Tryz.func121, Tryz.ntmps121
  go_wp2
  go_loopw [5] (fun i wr => ∃ k q : Nat, k ≤ n ∧ i = .int .i64 k ∧ wr = w.drewN q ∧ zs.take k = zs'.take k) (fun i _ => n - (intOf i).toNat)
  case atStart => exact ⟨0, 0, Nat.zero_le _, rfl, rfl, rfl⟩
  case round =>
   obtain ⟨k, q, hk, rfl, rfl, htk⟩ := hrel
   have HT : Hid (zs.take k = zs'.take k) := htk
   clear htk
   by_cases hlt : k < n
   ·obtain ⟨b, off, ha, hbw, hcell⟩ := hcell (by omega)
    obtain ⟨b', off', ha', hbw', hcell'⟩ := hcell' (by omega)
    have hck := hcell k hlt
    have hck' := hcell' k hlt
    have hlt' : (k : Int) < (n : Int) := by omega
    clear hcell hcell'
    rw [ha, ha']
    by_cases hq : zs[k]?.getD 0 = zs'[k]?.getD 0
    ·have hq' : (zs[k]?.getD 0 != zs'[k]?.getD 0) = false := by simp [hq]
     have HS : Hid (zs.take (k + 1) = zs'.take (k + 1)) := take_succ_eq (by rw [← HN.out]; exact hlt) (by rw [← HN'.out]; exact hlt) HT.out hq
     clear hq
     go_wp2
     go_quiet (fail)
     go_wp2
     exact ⟨⟨k + 1, q + nq, by omega, by go_num, rfl, HS.out⟩, by simp [intOf]; omega⟩
    ·have hq' : (zs[k]?.getD 0 != zs'[k]?.getD 0) = true := by simp [hq]
     have HF : Hid (decide (zs = zs') = false) := by
      show decide (zs = zs') = false
      rw [decide_eq_false_iff_not]
      intro e
      exact hq (by rw [e])
     clear hq
     go_wp2
     go_quiet (fail)
     go_wp2
     go_ret
     exact ⟨by rw [HF.out]; rfl, q + nq, by simp⟩
   ·have HF : Hid (decide (zs = zs') = true) := by
     show decide (zs = zs') = true
     have hk' : k = n := by omega
     have e := HT.out
     have e1 : zs.length ≤ k := by rw [← HN.out]; omega
     have e2 : zs'.length ≤ k := by rw [← HN'.out]; omega
     rw [List.take_of_length_le e1, List.take_of_length_le e2] at e
     simp [e]
    go_wp2
    go_ret
    exact ⟨by rw [HF.out]; rfl, q, rfl⟩
 ·have hz : ((n : Int) != (n' : Int)) = true := by simp; omega
  have HF : Hid (decide (zs = zs') = false) := by
   show decide (zs = zs') = false
   rw [decide_eq_false_iff_not]
   intro e
   exact hne (by rw [HN.out, HN'.out, e])
  clear hne
  go_enter Tryz.func121, Tryz.ntmps121
  go_wp2
  go_ret
  exact ⟨by rw [HF.out]; rfl, 0, rfl⟩
theorem block_lt {w : World} {x : Addr} {v : Value} (h : w.cell? x = some v) : x.block < w.heap.size := by
 rcases Nat.lt_or_ge x.block w.heap.size with h' | h'
 ·exact h'
 ·simp [World.cell?, Array.getElem?_eq_none h'] at h
theorem Below.drewN' {B : Nat} {a w : World} (h : Below B a w) (q : Nat) : Below B a (w.drewN q) := ⟨h.os, h.tape, h.output, h.size, h.block⟩
theorem less_irrefl (a : List UInt8) : Op.bytesLess a a = false := by
 induction a with
 | nil => rfl
 | cons x a ih => simp [Op.bytesLess, ih]
theorem less_asymm (a : List UInt8) : ∀ b, Op.bytesLess a b = true → Op.bytesLess b a = false := by
 induction a with
 | nil => intro b h; cases b <;> rfl
 | cons x a ih =>
  intro b h
  cases b with
  | nil => simp [Op.bytesLess] at h
  | cons y b =>
   simp only [Op.bytesLess, Bool.or_eq_true, decide_eq_true_eq, Bool.and_eq_true, beq_iff_eq, Bool.or_eq_false_iff, decide_eq_false_iff_not, Bool.and_eq_false_iff] at h ⊢
   rcases h with h | ⟨rfl, h⟩
   ·exact ⟨fun h' => absurd (UInt8.lt_trans h h') (UInt8.lt_irrefl _), .inl (by
     simp only [beq_eq_false_iff_ne]; intro e; subst e; exact UInt8.lt_irrefl _ h)⟩
   ·exact ⟨UInt8.lt_irrefl _, .inr (ih b h)⟩
theorem less_total (a : List UInt8) : ∀ b, Op.bytesLess a b = false → a ≠ b → Op.bytesLess b a = true := by
 induction a with
 | nil => intro b h hne; cases b with | nil => exact absurd rfl hne | cons y b => simp [Op.bytesLess] at h
 | cons x a ih =>
  intro b h hne
  cases b with
  | nil => rfl
  | cons y b =>
   simp only [Op.bytesLess, Bool.or_eq_true, decide_eq_true_eq, Bool.and_eq_true, beq_iff_eq, Bool.or_eq_false_iff, decide_eq_false_iff_not, Bool.and_eq_false_iff] at h ⊢
   by_cases e : x = y
   ·subst e
    refine .inr ⟨rfl, ih b ?_ (fun e => hne (by rw [e]))⟩
    rcases h.2 with h' | h'
    ·simp at h'
    ·exact h'
   ·refine .inl ?_
    rcases Nat.lt_or_ge y.toNat x.toNat with h' | h'
    ·exact UInt8.lt_iff_toNat_lt.2 h'
    ·refine absurd (UInt8.lt_iff_toNat_lt.2 (Nat.lt_of_le_of_ne h' fun e' => e (UInt8.toNat_inj.1 e'))) h.1
theorem str_ext {a b : ByteArray} (h : a.toList = b.toList) : a = b := by
 rw [ByteArray.toList_eq, ByteArray.toList_eq] at h
 cases a; cases b
 simp at h
 rw [h]
theorem str_beq {a b : ByteArray} (h : a ≠ b) : (a.toList == b.toList) = false := by
 simp only [beq_eq_false_iff_ne, ne_eq]
 exact fun e => h (str_ext e)
theorem tri (a b : ByteArray) : (Op.bytesLess a.toList b.toList = true ∧ Op.bytesLess b.toList a.toList = false ∧ (a.toList == b.toList) = false ∧ (b.toList == a.toList) = false) ∨ a = b ∨
  (Op.bytesLess a.toList b.toList = false ∧ Op.bytesLess b.toList a.toList = true ∧ (a.toList == b.toList) = false ∧ (b.toList == a.toList) = false) := by
 by_cases e : a = b
 ·exact .inr (.inl e)
 ·cases h : Op.bytesLess a.toList b.toList with
  | true => exact .inl ⟨rfl, less_asymm _ _ h, str_beq e, str_beq (Ne.symm e)⟩
  | false => exact .inr (.inr ⟨rfl, less_total _ _ h (fun e' => e (str_ext e')), str_beq e, str_beq (Ne.symm e)⟩)
open Go.RowKit
theorem str_empty {s : ByteArray} (h : s.toList = []) : s.size = 0 := by
 rw [ByteArray.toList_eq] at h
 show s.data.size = 0
 rw [← Array.length_toList, h]; rfl
theorem str_full {s : ByteArray} (h : ¬ s.toList = []) : 1 ≤ s.size := by
 rcases Nat.eq_zero_or_pos s.size with e | e
 ·refine absurd ?_ h
  rw [ByteArray.toList_eq]
  exact List.eq_nil_of_length_eq_zero (by rw [Array.length_toList]; exact e)
 ·exact e
theorem below_drew (w : World) : Below w.heap.size w w.drew := ⟨rfl, rfl, rfl, Nat.le_refl _, fun _ _ => rfl⟩
theorem Below.then' {B : Nat} {w w1 w2 : World} (h : Below B w w1) (h2 : Below w1.heap.size w1 w2) (hB : B ≤ w.heap.size) : Below B w w2 := h.trans (h2.mono (Nat.le_trans hB h.size))
theorem below_new {w w1 : World} {o : Obj} (h : Below (w.alloc o).heap.size (w.alloc o) w1) : Below w.heap.size w w1 := ((Below.refl _ _).alloc (Nat.le_refl _) o).trans (h.mono (by simp))
def kOk (k : ByteArray) : Bool := decide (1 ≤ k.size) && decide (k.size ≤ 16)
theorem implKeyOk_any (k : ByteArray) (w : World) : Calls Tryz.prog 172 #[.string k] w fun e w' => e = .returned (.bool (kOk k)) ∧ w = w' := by
 by_cases h : k.toList = []
 ·have HE : Hid (kOk k = false) := by show kOk k = false; simp [kOk, str_empty h]
  go_enter Tryz.func172, Tryz.ntmps172
  go_wp2
  go_ret
  exact ⟨by rw [HE.out]; rfl, rfl⟩
 ·have h2 : k.toList.isEmpty = false := by simpa using h
  have h3 : 1 ≤ k.size := str_full h
  have HE : Hid (kOk k = decide (k.size ≤ 16)) := by show kOk k = decide (k.size ≤ 16); simp [kOk, h3]
  by_cases h4 : k.size ≤ 16
  ·have h5 : (k.size : Int) ≤ 16 := by omega
   go_enter Tryz.func172, Tryz.ntmps172
   go_wp2
   go_ret
   exact ⟨by rw [HE.out, decide_eq_true h4]; rfl, rfl⟩
  ·have h5 : ¬ (k.size : Int) ≤ 16 := by omega
   go_enter Tryz.func172, Tryz.ntmps172
   go_wp2
   go_ret
   exact ⟨by rw [HE.out, decide_eq_false h4]; rfl, rfl⟩
theorem specKeyOk_any (k : ByteArray) (w : World) : Calls Tryz.prog 108 #[.string k] w fun e w' => e = .returned (.bool (kOk k)) ∧ w = w' := by
 by_cases h3 : 1 ≤ k.size
 ·have HE : Hid (kOk k = decide (k.size ≤ 16)) := by show kOk k = decide (k.size ≤ 16); simp [kOk, h3]
  have h4 : (1 : Int) ≤ (k.size : Int) := by omega
  by_cases h4 : k.size ≤ 16
  ·have h5 : (k.size : Int) ≤ 16 := by omega
   go_enter Tryz.func108, Tryz.ntmps108
   go_wp2
   go_ret
   exact ⟨by rw [HE.out, decide_eq_true h4]; rfl, rfl⟩
  ·have h5 : ¬ (k.size : Int) ≤ 16 := by omega
   go_enter Tryz.func108, Tryz.ntmps108
   go_wp2
   go_ret
   exact ⟨by rw [HE.out, decide_eq_false h4]; rfl, rfl⟩
 ·have HE : Hid (kOk k = false) := by show kOk k = false; simp [kOk, h3]
  have h4 : ¬ (1 : Int) ≤ (k.size : Int) := by omega
  go_enter Tryz.func108, Tryz.ntmps108
  go_wp2
  go_ret
  exact ⟨by rw [HE.out]; rfl, rfl⟩
def vOk (v : ByteArray) : Bool := decide (v.size ≤ 60)
theorem implValOk_any (v : ByteArray) (w : World) : Calls Tryz.prog 173 #[.string v] w fun e w' => e = .returned (.bool (vOk v)) ∧ w = w' := by
 have HE : Hid (vOk v = decide ((v.size : Int) ≤ 60)) := by
  show decide (v.size ≤ 60) = decide ((v.size : Int) ≤ 60)
  rw [decide_eq_decide]; omega
 go_enter Tryz.func173, Tryz.ntmps173
 go_wp2
 go_ret
 exact ⟨by rw [HE.out]; rfl, rfl⟩
theorem specValOk_any (v : ByteArray) (w : World) : Calls Tryz.prog 109 #[.string v] w fun e w' => e = .returned (.bool (vOk v)) ∧ w = w' := by
 have HE : Hid (vOk v = decide ((v.size : Int) ≤ 60)) := by
  show decide (v.size ≤ 60) = decide ((v.size : Int) ≤ 60)
  rw [decide_eq_decide]; omega
 go_enter Tryz.func109, Tryz.ntmps109
 go_wp2
 go_ret
 exact ⟨by rw [HE.out]; rfl, rfl⟩
theorem implKeyOk_is (k : ByteArray) (b : Bool) (h : kOk k = b) (w : World) : Calls Tryz.prog 172 #[.string k] w fun e w' => e = .returned (.bool b) ∧ w' = w := by
 subst h
 exact (implKeyOk_any k w).mono fun _ _ ⟨h1, h2⟩ => ⟨h1, h2.symm⟩
theorem specKeyOk_is (k : ByteArray) (b : Bool) (h : kOk k = b) (w : World) : Calls Tryz.prog 108 #[.string k] w fun e w' => e = .returned (.bool b) ∧ w' = w := by
 subst h
 exact (specKeyOk_any k w).mono fun _ _ ⟨h1, h2⟩ => ⟨h1, h2.symm⟩
theorem implValOk_is (k : ByteArray) (b : Bool) (h : vOk k = b) (w : World) : Calls Tryz.prog 173 #[.string k] w fun e w' => e = .returned (.bool b) ∧ w' = w := by
 subst h
 exact (implValOk_any k w).mono fun _ _ ⟨h1, h2⟩ => ⟨h1, h2.symm⟩
theorem specValOk_is (k : ByteArray) (b : Bool) (h : vOk k = b) (w : World) : Calls Tryz.prog 109 #[.string k] w fun e w' => e = .returned (.bool b) ∧ w' = w := by
 subst h
 exact (specValOk_any k w).mono fun _ _ ⟨h1, h2⟩ => ⟨h1, h2.symm⟩
open Go.RowKit
abbrev PB := ByteArray × ByteArray
structure NB where
 ps : List PB
 keys : List ByteArray
 kids : List Int
inductive T where
 | mk (ps : List PB) (ks : List T)
instance : Inhabited T := ⟨.mk [] []⟩
instance : Inhabited NB := ⟨⟨[], [], []⟩⟩
def T.ps : T → List PB | .mk ps _ => ps
def T.ks : T → List T | .mk _ ks => ks
theorem T.ind {P : T → Prop} (h : ∀ ps ks, (∀ k ∈ ks, P k) → P (.mk ps ks)) : ∀ t, P t := by
 intro t
 refine T.rec (motive_1 := P) (motive_2 := fun ks => ∀ k ∈ ks, P k) (fun ps ks ih => h ps ks ih) (by simp) ?_ t
 intro k ks h1 h2 x hx
 rcases List.mem_cons.1 hx with rfl | hx
 ·exact h1
 ·exact h2 x hx
mutual
def T.size : T → Nat | .mk _ ks => 1 + szL ks
def szL : List T → Nat | [] => 0 | k :: ks => k.size + szL ks
end
mutual
def T.all : T → List PB | .mk ps ks => ps ++ allL ks
def allL : List T → List PB | [] => [] | k :: ks => k.all ++ allL ks
end
def T.least : T → ByteArray
 | .mk ps [] => (ps.head?.map (·.1)).getD ⟨#[]⟩
 | .mk _ (k :: _) => k.least
def T.lv : T → Nat
 | .mk _ [] => 1
 | .mk _ (k :: _) => k.lv + 1
mutual
def T.dp : T → Int | .mk _ ks => if ks = [] then 1 else dpL true 0 ks
def dpL : Bool → Int → List T → Int
 | _, d, [] => d
 | f, d, k :: ks => if k.dp < 0 ∨ (f = false ∧ k.dp + 1 ≠ d) then -1 else dpL false (k.dp + 1) ks
end
mutual
def T.full : Bool → T → Bool | root, .mk ps ks => if ks = [] then decide (ps.length ≤ 4) && (decide (2 ≤ ps.length) || root && decide (ps.length = 1)) else decide (2 ≤ ks.length) && decide (ks.length ≤ 4) && decide (ps.length = 0) && fullL ks
def fullL : List T → Bool | [] => true | k :: ks => k.full false && fullL ks
end
def places : Nat → List T → List Int
 | _, [] => []
 | a, k :: ks => (a : Int) :: places (a + k.size) ks
mutual
def lay : Nat → T → List NB | a, .mk ps ks => if ks = [] then [⟨ps, [], []⟩] else ⟨[], ks.tail.map T.least, places (a + 1) ks⟩ :: layL (a + 1) ks
def layL : Nat → List T → List NB | _, [] => [] | a, k :: ks => lay a k ++ layL (a + k.size) ks
end
def Ev : Nat → T → Prop
 | 0, _ => False
 | h + 1, .mk _ ks => (ks = [] ∧ h = 0) ∨ (ks ≠ [] ∧ ∀ k ∈ ks, Ev h k)
def nAt (ns : List NB) (i : Nat) : NB := ns[i]?.getD ⟨[], [], []⟩
def Pre (ns : List NB) (a : Nat) (l : List NB) : Prop := ∀ i, i < l.length → ns[a + i]? = l[i]?
theorem pre_append {ns : List NB} {a : Nat} {l m : List NB} : Pre ns a (l ++ m) ↔ Pre ns a l ∧ Pre ns (a + l.length) m := by
 constructor
 ·intro h
  refine ⟨fun i hi => ?_, fun i hi => ?_⟩
  ·rw [h i (by simp; omega), List.getElem?_append_left hi]
  ·have := h (l.length + i) (by simp; omega)
   rw [List.getElem?_append_right (by omega)] at this
   rw [Nat.add_assoc, this]
   congr 1
   omega
 ·rintro ⟨h1, h2⟩ i hi
  by_cases hl : i < l.length
  ·rw [h1 i hl, List.getElem?_append_left hl]
  ·have := h2 (i - l.length) (by simp at hi; omega)
   rw [List.getElem?_append_right (by omega), ← this]
   congr 1
   omega
mutual
theorem lay_length : ∀ (t : T) (a : Nat), (lay a t).length = t.size
 | .mk ps ks, a => by
  by_cases h : ks = []
  ·subst h; simp [lay, T.size, szL]
  ·simp [lay, h, T.size, layL_length ks (a + 1)]; omega
theorem layL_length : ∀ (ks : List T) (a : Nat), (layL a ks).length = szL ks
 | [], a => by simp [layL, szL]
 | k :: ks, a => by simp [layL, szL, lay_length k a, layL_length ks (a + k.size)]
end
def rdSL (rd : Int → Option (T × Nat)) : List Int → Nat → Option (List T × Nat)
 | [], nx => some ([], nx)
 | k :: kids, nx => if k ≠ (nx : Int) then none else match rd k with
  | none => none
  | some (t, n1) => match rdSL rd kids n1 with
   | none => none
   | some (ts, n2) => some (t :: ts, n2)
def rdS (ns : List NB) : Nat → Int → Option (T × Nat)
 | 0, _ => none
 | f + 1, a => if a < 0 ∨ (ns.length : Int) ≤ a then none else match rdSL (rdS ns f) (nAt ns a.toNat).kids (a.toNat + 1) with
  | none => none
  | some (ts, n) => some (.mk (nAt ns a.toNat).ps ts, n)
def rdIL (rd : Int → Nat → Option (T × Nat)) (keys : List ByteArray) : List T → List Int → Nat → Option (List T × Nat)
 | ts0, [], nx => some (ts0, nx)
 | ts0, k :: kids, nx => match rd k nx with
  | none => none
  | some (t, n1) => if 0 < ts0.length ∧ (t.least ≠ keys[ts0.length - 1]?.getD ⟨#[]⟩ ∨ t.lv ≠ (ts0[0]?.getD default).lv) then none else rdIL rd keys (ts0 ++ [t]) kids n1
def leafOk (n : NB) (root : Bool) : Bool := !(decide (n.ps.length = 0) || decide (4 < n.ps.length) || (decide (n.ps.length < 2) && !root) || !decide (n.keys.length = 0))
def brOk (n : NB) : Bool := !(decide (n.kids.length < 2) || decide (4 < n.kids.length) || !decide ((n.keys.length : Int) = (n.kids.length : Int) - 1) || !decide (n.ps.length = 0))
def rdI (ns : List NB) : Nat → Int → Nat → Option (T × Nat)
 | 0, _, _ => none
 | f + 1, pl, nx => if pl ≠ (nx : Int) ∨ (ns.length : Int) ≤ pl then none else
  if (nAt ns nx).kids.length = 0 then (if leafOk (nAt ns nx) (decide (pl = 0)) = true then some (.mk (nAt ns nx).ps [], nx + 1) else none)
  else if brOk (nAt ns nx) = true then (match rdIL (rdI ns f) (nAt ns nx).keys [] (nAt ns nx).kids (nx + 1) with
   | none => none
   | some (ts, n) => some (.mk [] ts, n)) else none
open Go.RowKit
theorem ev_lv : ∀ (h : Nat) (t : T), Ev h t → t.lv = h
 | 0, _, e => e.elim
 | h + 1, .mk ps [], e => by
  rcases e with ⟨_, rfl⟩ | ⟨e, _⟩
  ·rfl
  ·exact absurd rfl e
 | h + 1, .mk ps (k :: ks), e => by
  rcases e with ⟨e, _⟩ | ⟨_, e⟩
  ·cases e
  ·simp [T.lv, ev_lv h k (e k (by simp))]
theorem ev_dpL (h : Nat) (ih : ∀ t, Ev h t → t.dp = h) : ∀ (ks : List T), (∀ k ∈ ks, Ev h k) → ∀ f, ks ≠ [] ∨ f = false → dpL f (if f then 0 else (h : Int) + 1) ks = h + 1
 | [], _, f, hf => by
  rcases hf with hf | rfl
  ·exact absurd rfl hf
  ·simp [dpL]
 | k :: ks, hk, f, _ => by
  have e := ih k (hk k (by simp))
  have := ev_dpL h ih ks (fun x hx => hk x (by simp [hx])) false (.inr rfl)
  simp only [dpL, e]
  rw [if_neg]
  ·simpa using this
  ·rintro (h1 | ⟨rfl, h1⟩)
   ·omega
   ·simp at h1
theorem ev_dp : ∀ (h : Nat) (t : T), Ev h t → t.dp = h
 | 0, _, e => e.elim
 | h + 1, .mk ps ks, e => by
  rcases e with ⟨rfl, rfl⟩ | ⟨e1, e2⟩
  ·simp [T.dp]
  ·have := ev_dpL h (ev_dp h) ks e2 true (.inl e1)
   simpa [T.dp, e1] using this
theorem dpL_neg_or (ks : List T) : ∀ (f : Bool) (d : Int), (dpL f d ks = -1) ∨ (∀ k ∈ ks, 0 ≤ k.dp ∧ k.dp + 1 = dpL f d ks) ∧ (f = false → ks ≠ [] → dpL f d ks = d) ∧ (ks = [] → dpL f d ks = d) := by
 induction ks with
 | nil => intro f d; right; simp [dpL]
 | cons k ks ih =>
  intro f d
  simp only [dpL]
  split
  ·exact .inl rfl
  ·rename_i h
   rcases ih false (k.dp + 1) with h1 | ⟨h1, h2, h3⟩
   ·exact .inl h1
   ·have hv : dpL false (k.dp + 1) ks = k.dp + 1 := by
     by_cases hk : ks = []
     ·exact h3 hk
     ·exact h2 rfl hk
    refine .inr ⟨fun x hx => ?_, fun hf _ => ?_, fun h => by cases h⟩
    ·rcases List.mem_cons.1 hx with rfl | hx
     ·exact ⟨by omega, hv.symm⟩
     ·exact h1 x hx
    ·rw [hv]
     by_cases e : k.dp + 1 = d
     ·exact e
     ·exact absurd (.inr ⟨hf, e⟩) h
theorem dp_ev : ∀ (t : T), 0 ≤ t.dp → Ev t.dp.toNat t := by
 refine T.ind ?_
 intro ps ks ih h0
 by_cases hk : ks = []
 ·subst hk
  simp [T.dp, Ev]
 ·have e : (T.mk ps ks).dp = dpL true 0 ks := by simp [T.dp, hk]
  rw [e] at h0 ⊢
  rcases dpL_neg_or ks true 0 with h1 | ⟨h1, _, _⟩
  ·omega
  ·obtain ⟨k, hk'⟩ := List.exists_mem_of_ne_nil ks hk
   have := h1 k hk'
   obtain ⟨m, hm⟩ : ∃ m : Nat, dpL true 0 ks = m + 1 := ⟨(dpL true 0 ks).toNat - 1, by omega⟩
   rw [hm]
   show Ev (m + 1) _
   refine .inr ⟨hk, fun x hx => ?_⟩
   have hx' := h1 x hx
   have := ih x hx hx'.1
   rwa [show x.dp.toNat = m by omega] at this
theorem pre_cons {ns : List NB} {a : Nat} {n : NB} {l : List NB} : Pre ns a (n :: l) ↔ ns[a]? = some n ∧ Pre ns (a + 1) l := by
 rw [show n :: l = [n] ++ l from rfl, pre_append]
 constructor
 ·rintro ⟨h1, h2⟩; exact ⟨by simpa using h1 0 (by simp), h2⟩
 ·rintro ⟨h1, h2⟩; refine ⟨fun i hi => ?_, h2⟩; simp at hi; subst hi; simpa using h1
theorem pre_lt {ns : List NB} {a : Nat} {n : NB} (h : ns[a]? = some n) : a < ns.length ∧ nAt ns a = n := by
 obtain ⟨h1, h2⟩ := List.getElem?_eq_some_iff.1 h
 exact ⟨h1, by simp [nAt, h]⟩
theorem nAt_some {ns : List NB} {a : Nat} (h : a < ns.length) : ns[a]? = some (nAt ns a) := by simp [nAt, h]
theorem T.size_pos (t : T) : 0 < t.size := by cases t; simp [T.size]; omega
theorem fullL_iff (ks : List T) : fullL ks = true ↔ ∀ k ∈ ks, k.full false = true := by
 induction ks with
 | nil => simp [fullL]
 | cons k ks ih => simp [fullL, ih]
theorem full_br {r : Bool} {ps : List PB} {ks : List T} (h : (T.mk ps ks).full r = true) (hk : ks ≠ []) : 2 ≤ ks.length ∧ ks.length ≤ 4 ∧ ps = [] ∧ ∀ k ∈ ks, k.full false = true := by
 simp only [T.full, hk, if_false, Bool.and_eq_true, decide_eq_true_eq] at h
 exact ⟨h.1.1.1, h.1.1.2, List.eq_nil_of_length_eq_zero h.1.2, (fullL_iff ks).1 h.2⟩
theorem full_lf {r : Bool} {ps : List PB} (h : (T.mk ps []).full r = true) : ps.length ≤ 4 ∧ (2 ≤ ps.length ∨ r = true ∧ ps.length = 1) := by
 simpa [T.full] using h
theorem rdSL_some (ns : List NB) (f : Nat) (ih : ∀ (t : T) (h a : Nat) (r : Bool), Ev h t → t.full r = true → h ≤ f → Pre ns a (lay a t) → rdS ns f a = some (t, a + t.size)) (h : Nat) (hf : h ≤ f) :
  ∀ (ks : List T) (a : Nat), (∀ k ∈ ks, Ev h k) → (∀ k ∈ ks, k.full false = true) → Pre ns a (layL a ks) → rdSL (rdS ns f) (places a ks) a = some (ks, a + szL ks)
 | [], a, _, _, _ => by simp [places, rdSL, szL]
 | k :: ks, a, he, hu, hp => by
  rw [layL, pre_append, lay_length] at hp
  have h1 := ih k h a false (he k (by simp)) (hu k (by simp)) hf hp.1
  have h2 := rdSL_some ns f ih h hf ks (a + k.size) (fun x hx => he x (by simp [hx])) (fun x hx => hu x (by simp [hx])) hp.2
  simp [places, rdSL, h1, h2, szL, Nat.add_assoc]
theorem rdS_some (ns : List NB) : ∀ (f : Nat) (t : T) (h a : Nat) (r : Bool), Ev h t → t.full r = true → h ≤ f → Pre ns a (lay a t) → rdS ns f a = some (t, a + t.size)
 | 0, t, h, a, r, he, hu, hf, hp => by obtain rfl : h = 0 := by omega
                                       exact he.elim
 | f + 1, .mk ps ks, 0, a, r, he, hu, hf, hp => he.elim
 | f + 1, .mk ps ks, h + 1, a, r, he, hu, hf, hp => by
  by_cases hk : ks = []
  ·subst hk
   simp only [lay, if_true] at hp
   obtain ⟨h1, h2⟩ := pre_lt (pre_cons.1 hp).1
   simp [rdS, h2, rdSL, T.size, szL]
   omega
  ·simp only [lay, hk, if_false] at hp
   obtain ⟨h0, h3⟩ := pre_cons.1 hp
   obtain ⟨h1, h2⟩ := pre_lt h0
   obtain ⟨_, _, rfl, hu'⟩ := full_br hu hk
   rcases he with ⟨e, _⟩ | ⟨_, e⟩
   ·exact absurd e hk
   ·have := rdSL_some ns f (rdS_some ns f) h (by omega) ks (a + 1) e hu' h3
    simp [rdS, h2, this, T.size]
    omega
theorem rdIL_some (ns : List NB) (f : Nat) (ih : ∀ (t : T) (h a : Nat), Ev h t → t.full (decide (a = 0)) = true → h ≤ f → Pre ns a (lay a t) → rdI ns f a a = some (t, a + t.size)) (h : Nat) (hf : h ≤ f) (keys : List ByteArray) :
  ∀ (ks ts0 : List T) (a : Nat), 0 < a → (∀ k ∈ ts0, Ev h k) → (∀ k ∈ ks, Ev h k) → (∀ k ∈ ks, k.full false = true) → (∀ i, 0 < i → i < (ts0 ++ ks).length → keys[i - 1]?.getD ⟨#[]⟩ = ((ts0 ++ ks)[i]?.getD default).least) →
   Pre ns a (layL a ks) → rdIL (rdI ns f) keys ts0 (places a ks) a = some (ts0 ++ ks, a + szL ks)
 | [], ts0, a, _, _, _, _, _, _ => by simp [places, rdIL, szL]
 | k :: ks, ts0, a, ha, hz, he, hu, hkey, hp => by
  rw [layL, pre_append, lay_length] at hp
  have h1 := ih k h a (he k (by simp)) (by rw [decide_eq_false (by omega)]; exact hu k (by simp)) hf hp.1
  have h2 := rdIL_some ns f ih h hf keys ks (ts0 ++ [k]) (a + k.size) (by omega) (by
    intro x hx
    rcases List.mem_append.1 hx with hx | hx
    ·exact hz x hx
    ·simp at hx; subst hx; exact he x (by simp)) (fun x hx => he x (by simp [hx])) (fun x hx => hu x (by simp [hx])) (by simpa using hkey) hp.2
  simp only [places, rdIL, h1]
  rw [if_neg]
  ·rw [h2]; simp [szL, Nat.add_assoc]
  ·rintro ⟨h0, h3 | h3⟩
   ·have := hkey ts0.length h0 (by simp)
    simp at this
    exact h3 (by rw [this])
   ·apply h3
    rw [ev_lv h k (he k (by simp))]
    obtain ⟨x, hx⟩ : ∃ x, ts0[0]? = some x := ⟨ts0[0], by simp⟩
    rw [hx]
    exact (ev_lv h x (hz x (List.mem_of_getElem? hx))).symm
theorem rdI_some (ns : List NB) : ∀ (f : Nat) (t : T) (h a : Nat), Ev h t → t.full (decide (a = 0)) = true → h ≤ f → Pre ns a (lay a t) → rdI ns f a a = some (t, a + t.size)
 | 0, t, h, a, he, hu, hf, hp => by obtain rfl : h = 0 := by omega
                                    exact he.elim
 | f + 1, .mk ps ks, 0, a, he, hu, hf, hp => he.elim
 | f + 1, .mk ps ks, h + 1, a, he, hu, hf, hp => by
  by_cases hk : ks = []
  ·subst hk
   simp only [lay, if_true] at hp
   obtain ⟨h1, h2⟩ := pre_lt (pre_cons.1 hp).1
   obtain ⟨u1, u2⟩ := full_lf hu
   have hl : leafOk ⟨ps, [], []⟩ (decide ((a : Int) = 0)) = true := by
    have e1 : ps.length ≠ 0 := by rcases u2 with u2 | ⟨_, u2⟩ <;> omega
    have e2 : ps.length < 2 → a = 0 := by
     intro h; rcases u2 with u2 | ⟨u2, _⟩
     ·omega
     ·exact of_decide_eq_true u2
    simp only [leafOk, Bool.not_eq_true', Bool.or_eq_false_iff, decide_eq_false_iff_not, Bool.and_eq_false_iff, List.length_nil, decide_true, Bool.not_true]
    refine ⟨⟨⟨e1, by omega⟩, ?_⟩, trivial⟩
    by_cases h2 : ps.length < 2
    ·right; simp [e2 h2]
    ·left; exact h2
   rw [rdI, if_neg (by omega), h2, if_pos (by rfl), if_pos hl]
   simp [T.size, szL]
  ·simp only [lay, hk, if_false] at hp
   obtain ⟨h0, h3⟩ := pre_cons.1 hp
   obtain ⟨h1, h2⟩ := pre_lt h0
   obtain ⟨u1, u2, rfl, hu'⟩ := full_br hu hk
   rcases he with ⟨e, _⟩ | ⟨_, e⟩
   ·exact absurd e hk
   ·have := rdIL_some ns f (rdI_some ns f) h (by omega) (ks.tail.map T.least) ks [] (a + 1) (by omega) (by simp) e hu' (by
     intro i hi hlt
     obtain ⟨j, rfl⟩ : ∃ j, i = j + 1 := ⟨i - 1, by omega⟩
     simp at hlt ⊢
     simp [hlt]) h3
    have hpl : ∀ (ks : List T) (a : Nat), (places a ks).length = ks.length := by
     intro ks; induction ks with
     | nil => intro a; rfl
     | cons k ks ih => intro a; simp [places, ih]
    have hb : brOk ⟨[], ks.tail.map T.least, places (a + 1) ks⟩ = true := by
     simp only [brOk, hpl, Bool.not_eq_true', Bool.or_eq_false_iff, decide_eq_false_iff_not, Bool.not_eq_false', decide_eq_true_eq, List.length_nil, List.length_map, List.length_tail]
     refine ⟨⟨⟨by omega, by omega⟩, by omega⟩, trivial⟩
    rw [rdI, if_neg (by omega), h2, if_neg (by simp only [hpl]; omega), if_pos hb]
    simp only [this]
    simp [T.size]
    omega
theorem rdIL_sound (ns : List NB) (f : Nat) (ih : ∀ (pl : Int) (nx : Nat) (t : T) (n1 : Nat), rdI ns f pl nx = some (t, n1) → pl = nx ∧ nx < ns.length ∧ t.full (decide (nx = 0)) = true ∧ (∃ h, Ev h t) ∧ Pre ns nx (lay nx t) ∧ n1 = nx + t.size)
  (keys : List ByteArray) (h : Nat) : ∀ (kids : List Int) (ts0 : List T) (nx : Nat) (ts : List T) (n : Nat), 0 < nx → 0 < ts0.length → (∀ k ∈ ts0, Ev h k) → rdIL (rdI ns f) keys ts0 kids nx = some (ts, n) →
   ∃ ks, ts = ts0 ++ ks ∧ kids = places nx ks ∧ (∀ k ∈ ks, Ev h k) ∧ (∀ k ∈ ks, k.full false = true) ∧ (∀ i, ts0.length ≤ i → i < ts.length → keys[i - 1]?.getD ⟨#[]⟩ = (ts[i]?.getD default).least) ∧ Pre ns nx (layL nx ks) ∧ n = nx + szL ks
 | [], ts0, nx, ts, n, hnx, hl, hz, hr => by
  simp only [rdIL, Option.some.injEq, Prod.mk.injEq] at hr
  obtain ⟨rfl, rfl⟩ := hr
  exact ⟨[], by simp, rfl, by simp, by simp, fun i h1 h2 => by omega, fun i hi => by simp [layL] at hi, rfl⟩
 | k :: kids, ts0, nx, ts, n, hnx, hl, hz, hr => by
  simp only [rdIL] at hr
  cases e : rdI ns f k nx with
  | none => simp [e] at hr
  | some x =>
   obtain ⟨t, n1⟩ := x
   obtain ⟨rfl, i2, i3, ⟨h', i4⟩, i5, rfl⟩ := ih _ _ _ _ e
   simp only [e] at hr
   split at hr
   ·cases hr
   ·rename_i hc
    have hl0 : t.least = keys[ts0.length - 1]?.getD ⟨#[]⟩ := by
     by_cases q : t.least = keys[ts0.length - 1]?.getD ⟨#[]⟩
     ·exact q
     ·exact absurd ⟨hl, .inl q⟩ hc
    have hl1 : t.lv = (ts0[0]?.getD default).lv := by
     by_cases q : t.lv = (ts0[0]?.getD default).lv
     ·exact q
     ·exact absurd ⟨hl, .inr q⟩ hc
    obtain ⟨x, hx⟩ : ∃ x, ts0[0]? = some x := ⟨ts0[0], by simp⟩
    have hh : h' = h := by
     rw [← ev_lv h' t i4, hl1, hx]
     exact ev_lv h x (hz x (List.mem_of_getElem? hx))
    subst hh
    obtain ⟨ks, rfl, rfl, k3, k4, k5, k6, rfl⟩ := rdIL_sound ns f ih keys h' kids (ts0 ++ [t]) (nx + t.size) ts n (by omega) (by simp) (by
     intro y hy
     rcases List.mem_append.1 hy with hy | hy
     ·exact hz y hy
     ·simp at hy; subst hy; exact i4) hr
    refine ⟨t :: ks, by simp, rfl, ?_, ?_, ?_, ?_, by simp [szL, Nat.add_assoc]⟩
    ·intro y hy
     rcases List.mem_cons.1 hy with rfl | hy
     ·exact i4
     ·exact k3 y hy
    ·intro y hy
     rcases List.mem_cons.1 hy with rfl | hy
     ·rwa [decide_eq_false (by omega)] at i3
     ·exact k4 y hy
    ·intro i h1 h2
     by_cases hi : i = ts0.length
     ·subst hi
      rw [← hl0]
      simp
     ·exact k5 i (by simp; omega) h2
    ·rw [layL, pre_append, lay_length]
     exact ⟨i5, k6⟩
theorem rdI_sound (ns : List NB) : ∀ (f : Nat) (pl : Int) (nx : Nat) (t : T) (n1 : Nat), rdI ns f pl nx = some (t, n1) → pl = nx ∧ nx < ns.length ∧ t.full (decide (nx = 0)) = true ∧ (∃ h, Ev h t) ∧ Pre ns nx (lay nx t) ∧ n1 = nx + t.size
 | 0, pl, nx, t, n1, h => by simp [rdI] at h
 | f + 1, pl, nx, t, n1, h => by
  rw [rdI] at h
  split at h
  ·cases h
  ·rename_i h0
   have hpl : pl = nx := by omega
   subst hpl
   have hlt : nx < ns.length := by omega
   have hn := nAt_some hlt
   generalize nAt ns nx = N at h hn
   obtain ⟨nps, nkeys, nkids⟩ := N
   refine ⟨rfl, hlt, ?_⟩
   split at h
   ·rename_i hk
    have hk := List.eq_nil_of_length_eq_zero hk
    simp only at hk
    subst hk
    split at h
    ·rename_i hl
     simp only [Option.some.injEq, Prod.mk.injEq] at h
     obtain ⟨rfl, rfl⟩ := h
     simp only [leafOk, Bool.not_eq_true', Bool.or_eq_false_iff, decide_eq_false_iff_not, Bool.and_eq_false_iff, Bool.not_eq_false', decide_eq_true_eq] at hl
     obtain ⟨⟨⟨l1, l2⟩, l3⟩, l4⟩ := hl
     have l4 := List.eq_nil_of_length_eq_zero l4
     subst l4
     refine ⟨?_, ⟨1, by simp [Ev]⟩, ?_, by simp [T.size, szL]⟩
     ·simp only [T.full, if_true, Bool.and_eq_true, decide_eq_true_eq, Bool.or_eq_true]
      refine ⟨by omega, ?_⟩
      rcases l3 with l3 | l3
      ·left; omega
      ·by_cases h2 : 2 ≤ nps.length
       ·exact .inl h2
       ·right; exact ⟨by omega, by omega⟩
     ·simp only [lay, if_true]
      exact pre_cons.2 ⟨hn, fun i hi => by simp at hi⟩
    ·cases h
   ·rename_i hk
    split at h
    ·rename_i hb
     simp only [brOk, Bool.not_eq_true', Bool.or_eq_false_iff, decide_eq_false_iff_not, Bool.not_eq_false', decide_eq_true_eq] at hb
     obtain ⟨⟨⟨b1, b2⟩, b3⟩, b4⟩ := hb
     have b4 := List.eq_nil_of_length_eq_zero b4
     subst b4
     cases nkids with
     | nil => simp at b1
     | cons k kids =>
      cases e : rdIL (rdI ns f) nkeys [] (k :: kids) (nx + 1) with
      | none => simp [e] at h
      | some x =>
       obtain ⟨ts, n⟩ := x
       simp only [e, Option.some.injEq, Prod.mk.injEq] at h
       obtain ⟨rfl, rfl⟩ := h
       simp only [rdIL] at e
       cases e1 : rdI ns f k (nx + 1) with
       | none => simp [e1] at e
       | some y =>
        obtain ⟨t0, n1⟩ := y
        simp only [e1, List.length_nil, Nat.lt_irrefl, false_and, if_false, List.nil_append] at e
        obtain ⟨rfl, i2, i3, ⟨h', i4⟩, i5, rfl⟩ := rdI_sound ns f _ _ _ _ e1
        rw [decide_eq_false (by omega)] at i3
        obtain ⟨ks, rfl, rfl, k3, k4, k5, k6, rfl⟩ := rdIL_sound ns f (rdI_sound ns f) nkeys h' kids [t0] (nx + 1 + t0.size) ts n (by omega) (by simp) (by simp; exact i4) e
        have hpl : ∀ (ks : List T) (a : Nat), (places a ks).length = ks.length := by
         intro ks; induction ks with
         | nil => intro a; rfl
         | cons k ks ih => intro a; simp [places, ih]
        simp only [List.length_cons, hpl] at b1 b2 b3
        have hkeys : nkeys = ks.map T.least := by
         apply List.ext_getElem
         ·simp; omega
         ·intro i h1 h2
          have := k5 (i + 1) (by simp) (by simp at h2 ⊢; omega)
          simp at h2
          simp [h1, h2] at this
          simpa using this
        refine ⟨?_, ⟨h' + 1, .inr ⟨by simp, ?_⟩⟩, ?_, by simp [T.size, szL]; omega⟩
        ·simp only [T.full, List.singleton_append, reduceCtorEq, if_false, Bool.and_eq_true, decide_eq_true_eq, List.length_cons, List.length_nil]
         refine ⟨⟨⟨by omega, by omega⟩, trivial⟩, ?_⟩
         simp only [fullL, i3, Bool.true_and]
         exact (fullL_iff ks).2 k4
        ·intro y hy
         rcases List.mem_cons.1 hy with rfl | hy
         ·exact i4
         ·exact k3 y hy
        ·simp only [lay, List.singleton_append, reduceCtorEq, if_false, List.tail_cons]
         refine pre_cons.2 ⟨by rw [hn, hkeys]; rfl, ?_⟩
         rw [layL, pre_append, lay_length]
         exact ⟨i5, k6⟩
    ·cases h
open Go.RowKit
def pAtB (l : List PB) (i : Nat) : PB := l[i]?.getD (⟨#[]⟩, ⟨#[]⟩)
def pOkF (l : List PB) : Nat → Nat → Bool
 | 0, _ => true
 | f + 1, k => kOk (pAtB l k).1 && vOk (pAtB l k).2 && (decide (k = 0) || Op.bytesLess (pAtB l (k - 1)).1.toList (pAtB l k).1.toList) && pOkF l f (k + 1)
def pOk (l : List PB) : Bool := decide (l.length ≤ 200) && pOkF l l.length 0
theorem pOk_len {l : List PB} (h : pOk l = true) : l.length ≤ 200 := by simp [pOk] at h; exact h.1
mutual
theorem full_all : ∀ (t : T), t.full false = true → t.size + 1 ≤ t.all.length
 | .mk ps ks, h => by
  by_cases hk : ks = []
  ·subst hk
   have := full_lf h
   simp at this
   simp [T.size, szL, T.all, allL]
   omega
  ·obtain ⟨h1, h2, rfl, h3⟩ := full_br h hk
   have := fullL_all ks h3
   simp [T.size, T.all]
   omega
theorem fullL_all : ∀ (ks : List T), (∀ k ∈ ks, k.full false = true) → szL ks + ks.length ≤ (allL ks).length
 | [], _ => by simp [szL]
 | k :: ks, h => by
  have h1 := full_all k (h k (by simp))
  have h2 := fullL_all ks (fun x hx => h x (by simp [hx]))
  simp [szL, allL]
  omega
end
theorem full_root {t : T} (h : t.full true = true) : t.size ≤ t.all.length := by
 obtain ⟨ps, ks⟩ := t
 by_cases hk : ks = []
 ·subst hk
  have := full_lf h
  simp [T.size, szL, T.all, allL]
  omega
 ·obtain ⟨h1, h2, rfl, h3⟩ := full_br h hk
  have := fullL_all ks h3
  simp [T.size, T.all]
  omega
theorem ev_size : ∀ (h : Nat) (t : T) (r : Bool), Ev h t → t.full r = true → 2 ^ h ≤ t.size + 1
 | 0, t, r, e, _ => e.elim
 | h + 1, .mk ps ks, r, e, hu => by
  rcases e with ⟨rfl, rfl⟩ | ⟨hk, e⟩
  ·simp [T.size, szL]
  ·obtain ⟨h1, h2, rfl, h3⟩ := full_br hu hk
   have : ∀ (l : List T), (∀ k ∈ l, k ∈ ks) → l.length * (2 ^ h - 1) ≤ szL l := by
    intro l
    induction l with
    | nil => simp [szL]
    | cons k l ih =>
     intro hl
     have a1 := ev_size h k false (e k (hl k (by simp))) (h3 k (hl k (by simp)))
     have a2 := ih (fun x hx => hl x (by simp [hx]))
     simp only [szL, List.length_cons, Nat.add_mul, Nat.one_mul]
     omega
   have a1 := this ks (fun _ h => h)
   have a2 : 2 * (2 ^ h - 1) ≤ ks.length * (2 ^ h - 1) := Nat.mul_le_mul_right _ h1
   have a3 : 0 < 2 ^ h := Nat.pos_of_ne_zero (by simp)
   simp only [T.size]
   rw [Nat.pow_succ]
   omega
theorem ev_le_size {h : Nat} {t : T} {r : Bool} (e : Ev h t) (hu : t.full r = true) : h ≤ t.size := by
 have h1 := ev_size h t r e hu
 have h2 : h < 2 ^ h := Nat.lt_two_pow_self
 omega
structure Good (ns : List NB) (t : T) : Prop where
 full : t.full true = true
 even : ∃ h, Ev h t
 ok : pOk t.all = true
 laid : lay 0 t = ns
def okT (ns : List NB) : Option T :=
 if ns.length = 0 then some (.mk [] []) else if 400 ≤ ns.length then none else match rdI ns ns.length 0 0 with
  | none => none
  | some (t, n) => if n = ns.length ∧ pOk t.all = true then some t else none
theorem pre_self (ns : List NB) : Pre ns 0 ns := fun i _ => by simp
theorem pre_all {ns l : List NB} (h : Pre ns 0 l) (hl : l.length = ns.length) : l = ns := by
 apply List.ext_getElem?
 intro i
 by_cases hi : i < l.length
 ·have := h i hi; simpa using this.symm
 ·rw [List.getElem?_eq_none (by omega), List.getElem?_eq_none (by omega)]
theorem Good.len {ns : List NB} {t : T} (g : Good ns t) : ns.length = t.size ∧ ns.length ≤ 200 := by
 have h1 := full_root g.full
 have h2 := pOk_len g.ok
 have h3 := lay_length t 0
 rw [g.laid] at h3
 omega
theorem okT_good {ns : List NB} {t : T} (hne : ns.length ≠ 0) : okT ns = some t ↔ Good ns t := by
 constructor
 ·intro h
  rw [okT, if_neg hne] at h
  split at h
  ·cases h
  ·split at h
   ·cases h
   ·rename_i x t' n hr
    split at h
    ·rename_i hc
     cases h
     obtain ⟨_, _, h3, h4, h5, rfl⟩ := rdI_sound ns _ _ _ _ _ hr
     exact ⟨h3, h4, hc.2, pre_all h5 (by rw [lay_length]; omega)⟩
    ·cases h
 ·intro g
  obtain ⟨h, hh⟩ := g.even
  have hl := g.len
  have := rdI_some ns ns.length t h 0 hh g.full (by have := ev_le_size hh g.full; omega) (by rw [g.laid]; exact pre_self ns)
  rw [okT, if_neg hne, if_neg (by omega)]
  rw [show rdI ns ns.length 0 0 = some (t, 0 + t.size) from this]
  simp only
  rw [if_pos ⟨by omega, g.ok⟩]
instance : DecidableEq NB := fun a b => decidable_of_iff (a.ps = b.ps ∧ a.keys = b.keys ∧ a.kids = b.kids) (by cases a; cases b; simp)
def spOk (ns : List NB) : Bool :=
 if ns.length = 0 then true else if 400 < ns.length then false else match rdS ns 13 0 with
  | none => false
  | some (t, n) => decide (n = ns.length) && t.full true && decide (0 ≤ t.dp) && pOk t.all && decide (lay 0 t = ns)
theorem Good.read {ns : List NB} {t : T} (g : Good ns t) : rdS ns 13 0 = some (t, ns.length) := by
 obtain ⟨h, hh⟩ := g.even
 have hl := g.len
 have h1 := ev_size h t true hh g.full
 have h2 : h ≤ 13 := by
  rcases Nat.lt_or_ge 13 h with h3 | h3
  ·have : 2 ^ 13 ≤ 2 ^ h := Nat.pow_le_pow_right (by omega) (by omega)
   have e : 2 ^ 13 = 8192 := by decide
   omega
  ·exact h3
 have := rdS_some ns 13 t h 0 true hh g.full h2 (by rw [g.laid]; exact pre_self ns)
 rw [show rdS ns 13 0 = some (t, 0 + t.size) from this]
 simp; omega
theorem Good.dp {ns : List NB} {t : T} (g : Good ns t) : t.dp = t.lv := by
 obtain ⟨h, hh⟩ := g.even
 rw [ev_dp h t hh, ev_lv h t hh]
theorem spOk_eq (ns : List NB) : spOk ns = (okT ns).isSome := by
 by_cases hne : ns.length = 0
 ·simp [spOk, okT, hne]
 ·cases e : okT ns with
  | some t =>
   have g := (okT_good hne).1 e
   have hl := g.len
   have hd := g.dp
   simp only [spOk, hne, if_false, g.read, g.full, g.ok, g.laid]
   rw [if_neg (by omega)]
   simp
   omega
  | none =>
   rw [Option.isSome_none, Bool.eq_false_iff]
   intro h
   simp only [spOk, hne, if_false] at h
   split at h
   ·cases h
   ·split at h
    ·cases h
    ·rename_i x t n hr
     simp only [Bool.and_eq_true, decide_eq_true_eq] at h
     obtain ⟨⟨⟨⟨h1, h2⟩, h3⟩, h4⟩, h5⟩ := h
     have := (okT_good hne).2 ⟨h2, ⟨_, dp_ev t h3⟩, h4, h5⟩
     rw [e] at this
     cases this
open Go.RowKit
structure Only (R : Nat → Prop) (w w' : World) : Prop where
 os : w'.os = w.os
 tape : w'.tape = w.tape
 output : w'.output = w.output
 size : w.heap.size ≤ w'.heap.size
 block : ∀ b, b < w.heap.size → ¬ R b → w'.heap[b]? = w.heap[b]?
theorem Only.refl (R : Nat → Prop) (w : World) : Only R w w := ⟨rfl, rfl, rfl, Nat.le_refl _, fun _ _ _ => rfl⟩
theorem Only.trans {R : Nat → Prop} {a b c : World} (h : Only R a b) (k : Only R b c) : Only R a c :=
 ⟨k.os.trans h.os, k.tape.trans h.tape, k.output.trans h.output, Nat.le_trans h.size k.size, fun i hi hr => (k.block i (Nat.lt_of_lt_of_le hi h.size) hr).trans (h.block i hi hr)⟩
theorem Only.then {R R' : Nat → Prop} {a b c : World} (h : Only R a b) (k : Only R' b c) (hr : ∀ i, i < a.heap.size → R' i → R i) : Only R a c :=
 ⟨k.os.trans h.os, k.tape.trans h.tape, k.output.trans h.output, Nat.le_trans h.size k.size, fun i hi hn => (k.block i (Nat.lt_of_lt_of_le hi h.size) (fun h' => hn (hr i hi h'))).trans (h.block i hi hn)⟩
theorem Only.mono {R R' : Nat → Prop} {a b : World} (h : Only R a b) (hr : ∀ i, i < a.heap.size → R i → R' i) : Only R' a b :=
 ⟨h.os, h.tape, h.output, h.size, fun i hi hn => h.block i hi (fun h' => hn (hr i hi h'))⟩
theorem only_of_below {w w' : World} (h : Below w.heap.size w w') (R : Nat → Prop) : Only R w w' := ⟨h.os, h.tape, h.output, h.size, fun b hb _ => h.block b hb⟩
theorem only_of_grown {w w' : World} {row : Option Nat} (h : w.grownBy w' row) {R : Nat → Prop} (hr : ∀ k, row = some k → R k) : Only R w w' :=
 ⟨h.os, h.tape, h.output, h.size, fun b hb hn => h.block b hb (fun e => hn (hr b e.symm))⟩
theorem Only.below {R : Nat → Prop} {w w' : World} {B : Nat} (h : Only R w w') (hB : B ≤ w.heap.size) (hr : ∀ b, b < B → ¬ R b) : Below B w w' := ⟨h.os, h.tape, h.output, h.size, fun b hb => h.block b (by omega) (hr b hb)⟩
theorem only_alloc (R : Nat → Prop) (w : World) (o : Obj) : Only R w (w.alloc o) := ⟨rfl, rfl, rfl, by simp, fun b hb _ => Below.heap_alloc _ _ _ hb⟩
theorem only_set {R : Nat → Prop} {w : World} {p : Addr} (h : R p.block) (u : Value) : Only R w (w.setCell p u) := ⟨rfl, rfl, rfl, by simp [World.setCell], fun b _ hn => Below.heap_setCell _ _ _ _ (fun e => hn (e ▸ h))⟩
theorem only_drew (R : Nat → Prop) (w : World) (q : Nat) : Only R w (w.drewN q) := ⟨rfl, rfl, rfl, Nat.le_refl _, fun _ _ _ => rfl⟩
def Rw (w : World) (S : Nat → Prop) (v : Value) (n : Nat) (xs : List Value) : Prop :=
 ∃ a c, v = .slice a n c ∧ n ≤ c ∧ c ≤ 9223372036854775807 ∧ (n = 0 → xs = []) ∧ (a = none → c = 0) ∧ (0 < n → ∃ b off, a = some ⟨b, off, none⟩ ∧ b < w.heap.size ∧ S b ∧ ∀ j u, xs[j]? = some u → w.cell? ⟨b, off + j, none⟩ = some u)
theorem Rw.to {w w' : World} {S R : Nat → Prop} {v : Value} {n : Nat} {xs : List Value} (h : Rw w S v n xs) (ho : Only R w w') (hd : ∀ b, S b → b < w.heap.size → ¬ R b) : Rw w' S v n xs := by
 obtain ⟨a, c, h1, h2, h3, h4, hn, h5⟩ := h
 refine ⟨a, c, h1, h2, h3, h4, hn, fun hp => ?_⟩
 obtain ⟨b, off, h6, h7, h8, h9⟩ := h5 hp
 refine ⟨b, off, h6, Nat.lt_of_lt_of_le h7 ho.size, h8, fun j u hu => ?_⟩
 rw [← h9 j u hu]
 exact World.cell?_of_block (w := w) (ho.block b h7 (hd b h8 h7))
theorem Rw.mono {w : World} {S R : Nat → Prop} {v : Value} {n : Nat} {xs : List Value} (h : Rw w S v n xs) (hd : ∀ b, S b → b < w.heap.size → R b) : Rw w R v n xs := by
 obtain ⟨a, c, h1, h2, h3, h4, hn, h5⟩ := h
 refine ⟨a, c, h1, h2, h3, h4, hn, fun hp => ?_⟩
 obtain ⟨b, off, h6, h7, h8, h9⟩ := h5 hp
 exact ⟨b, off, h6, h7, hd b h8 h7, h9⟩
theorem rw_nil (w : World) (S : Nat → Prop) : Rw w S (.slice none 0 0) 0 [] := ⟨none, 0, rfl, Nat.le_refl _, by omega, fun _ => rfl, fun _ => rfl, fun h => by omega⟩
theorem rw_own {w : World} {base : Nat} {e : TypeId} {size : Nat} {v : Value} {n : Nat} {xs : List Value} (h : w.ownsRow base e size v n xs) {S : Nat → Prop} (hS : ∀ k, v.ownBlock = some k → base ≤ k → k < w.heap.size → S k) : Rw w S v n xs := by
 have hlt := World.ownsRow.lt h
 have hc := fun g hg => World.ownsRow.cells h (g := g) hg
 obtain ⟨h1, h2⟩ := h
 rcases h2 with ⟨rfl, rfl⟩ | ⟨g, cap, cur, rfl, h3, h4, h5, h6, h7, h8⟩
 ·have : xs = [] := List.eq_nil_of_length_eq_zero (by omega)
  subst this
  exact rw_nil w S
 ·refine ⟨_, cap, rfl, h5, by unfold maxLen at h6; omega, fun h0 => List.eq_nil_of_length_eq_zero (by rw [h1, h0]; omega), fun h => by (cases h), fun _ => ⟨g, 0, rfl, (hlt g rfl).2, hS g rfl h3 (hlt g rfl).2, fun j u hu => ?_⟩⟩
  have := hc g rfl j u hu
  rwa [Addr.add_lit] at this
theorem own_kept {w w' : World} {R : Nat → Prop} {base : Nat} {e : TypeId} {size : Nat} {v : Value} {n : Nat} {xs : List Value} (h : w.ownsRow base e size v n xs) (ho : Only R w w') (hR : ∀ k, v.ownBlock = some k → ¬ R k) : w'.ownsRow base e size v n xs := by
 have hlt := World.ownsRow.lt h
 obtain ⟨h1, h2⟩ := h
 refine ⟨h1, ?_⟩
 rcases h2 with h2 | ⟨g, cap, cur, rfl, h3, h4, h5⟩
 ·exact .inl h2
 ·exact .inr ⟨g, cap, cur, rfl, h3, (ho.block g (hlt g rfl).2 (hR g rfl)).trans h4, h5⟩
theorem own_shape {w : World} {base : Nat} {e : TypeId} {size : Nat} {v : Value} {n : Nat} {xs : List Value} (h : w.ownsRow base e size v n xs) : ∃ a c, v = .slice a n c := by
 rcases h.2 with ⟨rfl, rfl⟩ | ⟨g, cap, cur, rfl, _⟩
 ·exact ⟨none, 0, rfl⟩
 ·exact ⟨_, cap, rfl⟩
theorem run_append_row {P : Program} {w : World} (base : Nat) (t ty e : TypeId) (i : TypeInfo) (z : Value) (size bytes : Nat) (ht : P.underlying t = some (.slice e)) (hi : P.info? e = some i) (hz : i.zero = some z)
  (hsize : i.size = size) (hby : i.bytes = bytes) (hzs : z.cells.size = size) (hsz : 0 < size) (v : Value) (n : Nat) (xs : List Value) (hown : w.ownsRow base e size v n xs)
  (S : Nat → Prop) (src : Value) (m : Nat) (news : List Value) (hsrc : Rw w S src m news) (hl : news.length = m * size) (h1 : ∀ u ∈ news, u.oneCell' = true)
  (h63 : n + m ≤ maxLen) (hbytes : (n + m) * bytes ≤ 140737488355328) (hbase : base ≤ w.heap.size) :
  ∃ v' w', (Builtin.append_ #[t, t] ty #[v, src]).run P w = .ok v' w' ∧ w'.ownsRow base e size v' (n + m) (xs ++ news) ∧ w.grownBy w' v.ownBlock := by
 obtain ⟨a, c, rfl, h2, h3, h4, hn, h5⟩ := hsrc
 by_cases hm : 0 < m
 ·obtain ⟨b, off, rfl, hb, hS, hc⟩ := h5 hm
  obtain ⟨v', w', hr, ho, hg, _⟩ := run_append_own w base t ty e i z size bytes ht hi hz hsize hby hzs hsz v n xs hown ⟨b, off, none⟩ m c news hl (fun j u hu => by rw [Addr.add_lit]; exact hc j u hu) h1 h63 hbytes hbase
  exact ⟨v', w', hr, ho, hg⟩
 ·obtain rfl : m = 0 := by omega
  obtain rfl := h4 rfl
  cases a with
  | some ad =>
   obtain ⟨v', w', hr, ho, hg, _⟩ := run_append_own w base t ty e i z size bytes ht hi hz hsize hby hzs hsz v n xs hown ad 0 c [] hl (fun j u hu => by simp at hu) h1 h63 hbytes hbase
   exact ⟨v', w', hr, ho, hg⟩
  | none =>
   obtain rfl := hn rfl
   have hrun := run_append_owned_none (P := P) (w := w) base t ty e i size ht hi v n xs hown
   exact ⟨v, w, hrun, by simpa using hown, ⟨rfl, rfl, rfl, Nat.le_refl _, fun _ _ _ => rfl⟩⟩
theorem wpList_append_row {P : Program} {w : World} {ops : Array Oper} {rest : List Oper} {o : Oper} {a : Act} {Q : Exit → Act → World → Prop} (hgd : o.guard = none) (s x : Operand) (t : TypeId)
  (ho : o.op = .call { callee := .builtin .append, args := #[s, x], argTypes := #[t, t] })
  (base : Nat) (e : TypeId) (i : TypeInfo) (z : Value) (size bytes : Nat) (ht : P.underlying t = some (.slice e)) (hi : P.info? e = some i) (hz : i.zero = some z)
  (hsize : i.size = size) (hby : i.bytes = bytes) (hzs : z.cells.size = size) (hsz : 0 < size) (v : Value) (n : Nat) (xs : List Value) (hs : a.eval s = v) (hown : w.ownsRow base e size v n xs)
  (S : Nat → Prop) (src : Value) (m : Nat) (news : List Value) (hx : a.eval x = src) (hsrc : Rw w S src m news) (hl : news.length = m * size) (h1 : ∀ u ∈ news, u.oneCell' = true)
  (h63 : n + m ≤ maxLen) (hbytes : (n + m) * bytes ≤ 140737488355328) (hbase : base ≤ w.heap.size)
  (h : ∀ v' w', w'.ownsRow base e size v' (n + m) (xs ++ news) → w.grownBy w' v.ownBlock → wpList P ops Q rest (a.put o.dst v') w') : wpList P ops Q (o :: rest) a w := by
 refine wpList_plain hgd fun K hK => ?_
 obtain ⟨v', w', hr, h2, h3⟩ := run_append_row (P := P) (w := w) base t o.type e i z size bytes ht hi hz hsize hby hzs hsz v n xs hown S src m news hsrc hl h1 h63 hbytes hbase
 unfold Oper.wp execOp
 simp only [ho, resolve, invoke, builtin, Sem.run_bind, Sem.run_pure, Result.andThen_ok, List.map_toArray, List.map_cons, List.map_nil, hs, hx, hr]
 exact hK _ _ (h v' w' h2 h3)
def pcs : List PB → List Value
 | [] => []
 | p :: ps => .string p.1 :: .string p.2 :: pcs ps
theorem pcs_length (ps : List PB) : (pcs ps).length = ps.length * 2 := by
 induction ps with
 | nil => rfl
 | cons p ps ih => simp only [pcs, List.length_cons, ih]; omega
theorem pcs_append (ps qs : List PB) : pcs (ps ++ qs) = pcs ps ++ pcs qs := by
 induction ps with
 | nil => rfl
 | cons p ps ih => simp only [pcs, List.cons_append, ih]
theorem pcs_one (ps : List PB) : ∀ u ∈ pcs ps, u.oneCell' = true := by
 induction ps with
 | nil => intro u hu; cases hu
 | cons p ps ih =>
  intro u hu
  simp only [pcs, List.mem_cons] at hu
  rcases hu with rfl | rfl | hu
  ·rfl
  ·rfl
  ·exact ih u hu
theorem pcs_at (ps : List PB) : ∀ i, i < ps.length → (pcs ps)[i * 2]? = some (.string (pAtB ps i).1) ∧ (pcs ps)[i * 2 + 1]? = some (.string (pAtB ps i).2) := by
 induction ps with
 | nil => intro i h; exact absurd h (Nat.not_lt_zero _)
 | cons p ps ih =>
  intro i h
  cases i with
  | zero => exact ⟨rfl, rfl⟩
  | succ i =>
   have := ih i (by simpa using h)
   have e : (i + 1) * 2 = i * 2 + 2 := by omega
   rw [e]
   exact this
def Pr (w : World) (S : Nat → Prop) (v : Value) (ps : List PB) : Prop := Rw w S v ps.length (pcs ps)
theorem Pr.cell {w : World} {S : Nat → Prop} {v : Value} {ps : List PB} (h : Pr w S v ps) (hp : 0 < ps.length) : ∃ b off c, v = .slice (some ⟨b, off, none⟩) ps.length c ∧ S b ∧ b < w.heap.size ∧
  ∀ i, i < ps.length → w.cell? ⟨b, off + i * 2, none⟩ = some (.string (pAtB ps i).1) ∧ w.cell? ⟨b, off + i * 2 + 1, none⟩ = some (.string (pAtB ps i).2) := by
 obtain ⟨a, c, rfl, h2, h3, h4, hn, h5⟩ := h
 obtain ⟨b, off, rfl, h7, h8, h9⟩ := h5 hp
 refine ⟨b, off, c, rfl, h8, h7, fun i hi => ?_⟩
 obtain ⟨e1, e2⟩ := pcs_at ps i hi
 exact ⟨h9 _ _ e1, h9 _ _ e2⟩
theorem Rw.shape {w : World} {S : Nat → Prop} {v : Value} {n : Nat} {xs : List Value} (h : Rw w S v n xs) : ∃ a c, v = .slice a n c ∧ n ≤ c ∧ c ≤ 9223372036854775807 := by
 obtain ⟨a, c, h1, h2, h3, _⟩ := h
 exact ⟨a, c, h1, h2, h3⟩
theorem Rw.len {w : World} {S : Nat → Prop} {a : Option Addr} {n m c : Nat} {xs : List Value} (h : Rw w S (.slice a n c) m xs) : n = m ∧ n ≤ c ∧ c ≤ 9223372036854775807 := by
 obtain ⟨a', c', h1, h2, h3, _⟩ := h
 cases h1
 exact ⟨rfl, h2, h3⟩
theorem Pr.shape {w : World} {S : Nat → Prop} {v : Value} {ps : List PB} (h : Pr w S v ps) : ∃ a c, v = .slice a ps.length c ∧ ps.length ≤ c ∧ c ≤ 9223372036854775807 := Rw.shape h
theorem Pr.at {w : World} {S : Nat → Prop} {a : Option Addr} {n c : Nat} {ps : List PB} (h : Pr w S (.slice a n c) ps) (hp : 0 < n) : ∃ b off, a = some ⟨b, off, none⟩ ∧ S b ∧ b < w.heap.size ∧
  ∀ i, i < n → w.cell? ⟨b, off + i * 2, none⟩ = some (.string (pAtB ps i).1) ∧ w.cell? ⟨b, off + i * 2 + 1, none⟩ = some (.string (pAtB ps i).2) := by
 have hn := (Rw.len h).1
 obtain ⟨b, off, c', hv, h1, h2, h3⟩ := h.cell (by omega)
 cases hv
 exact ⟨b, off, rfl, h1, h2, h3⟩
open Go.RowKit
theorem pOkF_k (l : List PB) (f k : Nat) (h : kOk (pAtB l k).1 = false) : pOkF l (f + 1) k = false := by simp [pOkF, h]
theorem pOkF_v (l : List PB) (f k : Nat) (h : vOk (pAtB l k).2 = false) : pOkF l (f + 1) k = false := by simp [pOkF, h]
theorem pOkF_0 (l : List PB) (f : Nat) (h : kOk (pAtB l 0).1 = true) (h2 : vOk (pAtB l 0).2 = true) : pOkF l (f + 1) 0 = pOkF l f 1 := by simp [pOkF, h, h2]
theorem pOkF_s (l : List PB) (f j : Nat) (h : kOk (pAtB l (j + 1)).1 = true) (h2 : vOk (pAtB l (j + 1)).2 = true) (b : Bool) (h3 : Op.bytesLess (pAtB l j).1.toList (pAtB l (j + 1)).1.toList = b) : pOkF l (f + 1) (j + 1) = (b && pOkF l f (j + 1 + 1)) := by
 simp only [pOkF, h, h2, Nat.add_sub_cancel, h3]; simp
theorem Pr.below {w w' : World} {S : Nat → Prop} {v : Value} {ps : List PB} (h : Pr w S v ps) (hb : Below w.heap.size w w') : Pr w' S v ps := Rw.to h (only_of_below hb (fun _ => False)) (fun _ _ _ h => h)
set_option maxHeartbeats 4000000 in
theorem implPairsOk_at (S : Nat → Prop) (a : Option Addr) (n c : Nat) (l : List PB) (w : World) (h : Pr w S (.slice a n c) l) :
  Calls Tryz.prog 152 #[.slice a n c] w fun e w' => e = .returned (.bool (pOk l)) ∧ Below w.heap.size w w' := by
 obtain ⟨hn, hnc, hc⟩ := Rw.len h
 have H0 := hid h
 clear h
 have HN := hid hn
 clear hn
 by_cases hbig : 200 < n
 ·have hb : (200 : Int) < (n : Int) := by omega
  have HR : Hid (pOk l = false) := by show pOk l = false; have := HN.out; simp [pOk]; omega
  go_enter Tryz.func152, Tryz.ntmps152
  go_wp2
  go_ret
  exact ⟨by rw [HR.out]; rfl, Below.refl _ _⟩
 ·have hb : ¬ (200 : Int) < (n : Int) := by omega
  have HR : Hid (pOk l = pOkF l n 0) := by show pOk l = pOkF l n 0; have := HN.out; rw [this]; simp [pOk]; omega
  go_enter Tryz.func152, Tryz.ntmps152
  go_wp2_with fail
  go_loopw [3, 4, 10] (fun x y i wr => ∃ k : Nat, k ≤ n ∧ i = .int .i64 k ∧ Hid (Below w.heap.size w wr) ∧ Hid (pOkF l (n - k) k = pOkF l n 0)) (fun _ _ i _ => n - (intOf i).toNat)
  case atStart => exact ⟨0, Nat.zero_le _, rfl, Below.refl _ _, rfl⟩
  case round =>
   obtain ⟨k, hk, rfl, HB, HS⟩ := hrel
   by_cases hlt : k < n
   ·have hlt' : (k : Int) < (n : Int) := by omega
    have HP := hid (H0.out.below HB.out)
    obtain ⟨b, off, rfl, _, hbw, hcell⟩ := HP.out.at (by omega)
    have hck := (hcell k hlt).1
    have hck1 := (hcell k hlt).2
    have e1 : n - k = (n - (k + 1)) + 1 := by omega
    have HE1 := hid e1
    clear e1
    rw [HE1.out] at HS
    cases k with
    | zero =>
     clear hcell
     simp only [Nat.zero_mul, Nat.add_zero] at hck hck1
     generalize hcur : pAtB l 0 = cur at hck hck1
     obtain ⟨ck, cv⟩ := cur
     have HC := hid hcur
     clear hcur
     cases h1 : kOk ck
     ·have HZ : Hid (pOkF l n 0 = false) := by show pOkF l n 0 = false; rw [← HS.out]; exact pOkF_k l _ _ (by rw [HC.out]; exact h1)
      have C1 := implKeyOk_is ck _ h1
      clear h1
      go_wp2_with fail
      go_quiet (first | (go_at_call 172; exact Calls.quiet_of_same (C1 _)) | fail)
      go_wp2
      go_ret
      exact ⟨by rw [HR.out, HZ.out]; rfl, Below.then' HB.out (Below.drewN' (below_new (Below.refl _ _)) _) (Nat.le_refl _)⟩
     ·cases h2 : vOk cv
      ·have HZ : Hid (pOkF l n 0 = false) := by show pOkF l n 0 = false; rw [← HS.out]; exact pOkF_v l _ _ (by rw [HC.out]; exact h2)
       have C1 := implKeyOk_is ck _ h1
       have C2 := implValOk_is cv _ h2
       clear h1 h2
       go_wp2_with fail
       go_quiet (first | (go_at_call 172; exact Calls.quiet_of_same (C1 _)) | (go_at_call 173; exact Calls.quiet_of_same (C2 _)) | fail)
       go_wp2
       go_ret
       exact ⟨by rw [HR.out, HZ.out]; rfl, Below.then' HB.out (Below.drewN' (below_new (Below.refl _ _)) _) (Nat.le_refl _)⟩
      ·have HZ : Hid (pOkF l (n - 1) 1 = pOkF l n 0) := by
        show pOkF l (n - 1) 1 = pOkF l n 0
        rw [← HS.out]; exact (pOkF_0 l _ (by rw [HC.out]; exact h1) (by rw [HC.out]; exact h2)).symm
       have C1 := implKeyOk_is ck _ h1
       have C2 := implValOk_is cv _ h2
       clear h1 h2
       go_wp2_with fail
       go_quiet (first | (go_at_call 172; exact Calls.quiet_of_same (C1 _)) | (go_at_call 173; exact Calls.quiet_of_same (C2 _)) | fail)
       go_wp2
       go_roundw
       case rel => exact ⟨1, by omega, by go_num, Below.then' HB.out (Below.drewN' (below_new (Below.refl _ _)) _) (Nat.le_refl _), HZ⟩
       case measure => simp [intOf]; omega
    | succ j =>
     have hcj := (hcell j (by omega)).1
     have hj1 : (0 : Int) < (j : Int) + 1 := by omega
     clear hcell
     generalize hcur : pAtB l (j + 1) = cur at hck hck1
     obtain ⟨ck, cv⟩ := cur
     generalize hprev : (pAtB l j).1 = prev at hcj
     have HC := hid hcur
     have HQ := hid hprev
     clear hcur hprev
     cases h1 : kOk ck
     ·have HZ : Hid (pOkF l n 0 = false) := by show pOkF l n 0 = false; rw [← HS.out]; exact pOkF_k l _ _ (by rw [HC.out]; exact h1)
      have C1 := implKeyOk_is ck _ h1
      clear h1
      go_wp2_with fail
      go_quiet (first | (go_at_call 172; exact Calls.quiet_of_same (C1 _)) | fail)
      go_wp2
      go_ret
      exact ⟨by rw [HR.out, HZ.out]; rfl, Below.then' HB.out (Below.drewN' (below_new (Below.refl _ _)) _) (Nat.le_refl _)⟩
     ·cases h2 : vOk cv
      ·have HZ : Hid (pOkF l n 0 = false) := by show pOkF l n 0 = false; rw [← HS.out]; exact pOkF_v l _ _ (by rw [HC.out]; exact h2)
       have C1 := implKeyOk_is ck _ h1
       have C2 := implValOk_is cv _ h2
       clear h1 h2
       go_wp2_with fail
       go_quiet (first | (go_at_call 172; exact Calls.quiet_of_same (C1 _)) | (go_at_call 173; exact Calls.quiet_of_same (C2 _)) | fail)
       go_wp2
       go_ret
       exact ⟨by rw [HR.out, HZ.out]; rfl, Below.then' HB.out (Below.drewN' (below_new (Below.refl _ _)) _) (Nat.le_refl _)⟩
      ·have HG : Hid (∀ b, Op.bytesLess prev.toList ck.toList = b → (b && pOkF l (n - (j + 1 + 1)) (j + 1 + 1)) = pOkF l n 0) := by
        intro b hb
        rw [← HS.out]
        exact (pOkF_s l _ j (by rw [HC.out]; exact h1) (by rw [HC.out]; exact h2) b (by rw [HQ.out, HC.out]; exact hb)).symm
       have C1 := implKeyOk_is ck _ h1
       have C2 := implValOk_is cv _ h2
       clear h1 h2
       rcases tri prev ck with ⟨t1, t2, t3, t4⟩ | rfl | ⟨t1, t2, t3, t4⟩
       ·have HZ : Hid (pOkF l (n - (j + 1 + 1)) (j + 1 + 1) = pOkF l n 0) := by show pOkF l (n - (j + 1 + 1)) (j + 1 + 1) = pOkF l n 0; have := HG.out _ t1; simpa using this
        go_wp2_with fail
        go_quiet (first | (go_at_call 172; exact Calls.quiet_of_same (C1 _)) | (go_at_call 173; exact Calls.quiet_of_same (C2 _)) | fail)
        go_wp2
        go_roundw
        case rel => exact ⟨j + 1 + 1, by omega, by go_num, Below.then' HB.out (Below.drewN' (below_new (Below.refl _ _)) _) (Nat.le_refl _), HZ⟩
        case measure => simp [intOf]; omega
       ·have t1 := less_irrefl prev.toList
        have HZ : Hid (pOkF l n 0 = false) := by show pOkF l n 0 = false; have := HG.out _ t1; simpa using this.symm
        go_wp2_with fail
        go_quiet (first | (go_at_call 172; exact Calls.quiet_of_same (C1 _)) | (go_at_call 173; exact Calls.quiet_of_same (C2 _)) | fail)
        go_wp2
        go_ret
        exact ⟨by rw [HR.out, HZ.out]; rfl, Below.then' HB.out (Below.drewN' (below_new (Below.refl _ _)) _) (Nat.le_refl _)⟩
       ·have HZ : Hid (pOkF l n 0 = false) := by show pOkF l n 0 = false; have := HG.out _ t1; simpa using this.symm
        go_wp2_with fail
        go_quiet (first | (go_at_call 172; exact Calls.quiet_of_same (C1 _)) | (go_at_call 173; exact Calls.quiet_of_same (C2 _)) | fail)
        go_wp2
        go_ret
        exact ⟨by rw [HR.out, HZ.out]; rfl, Below.then' HB.out (Below.drewN' (below_new (Below.refl _ _)) _) (Nat.le_refl _)⟩
   ·have hk' : k = n := by omega
    have HZ : Hid (pOkF l n 0 = true) := by show pOkF l n 0 = true; rw [← HS.out, hk', Nat.sub_self]; rfl
    clear hk'
    go_wp2
    go_ret
    exact ⟨by rw [HR.out, HZ.out]; rfl, HB.out⟩
theorem implPairsOk_any (S : Nat → Prop) (v : Value) (l : List PB) (w : World) (h : Pr w S v l) :
  Calls Tryz.prog 152 #[v] w fun e w' => e = .returned (.bool (pOk l)) ∧ Below w.heap.size w w' := by
 obtain ⟨a, c, rfl, _⟩ := h.shape
 exact implPairsOk_at S a _ c l w h
set_option maxHeartbeats 4000000 in
theorem specPairsOk_at (S : Nat → Prop) (a : Option Addr) (n c : Nat) (l : List PB) (w : World) (h : Pr w S (.slice a n c) l) :
  Calls Tryz.prog 68 #[.slice a n c] w fun e w' => e = .returned (.bool (pOk l)) ∧ Below w.heap.size w w' := by
 obtain ⟨hn, hnc, hc⟩ := Rw.len h
 have H0 := hid h
 clear h
 have HN := hid hn
 clear hn
 by_cases hbig : 200 < n
 ·have hb : (200 : Int) < (n : Int) := by omega
  have HR : Hid (pOk l = false) := by show pOk l = false; have := HN.out; simp [pOk]; omega
  go_enter Tryz.func68, Tryz.ntmps68
  go_wp2
  go_ret
  exact ⟨by rw [HR.out]; rfl, Below.refl _ _⟩
 ·have hb : ¬ (200 : Int) < (n : Int) := by omega
  have HR : Hid (pOk l = pOkF l n 0) := by show pOk l = pOkF l n 0; have := HN.out; rw [this]; simp [pOk]; omega
  go_enter Tryz.func68, Tryz.ntmps68
  go_wp2_with fail
  go_loopw [3, 4, 10] (fun x y i wr => ∃ k : Nat, k ≤ n ∧ i = .int .i64 k ∧ Hid (Below w.heap.size w wr) ∧ Hid (pOkF l (n - k) k = pOkF l n 0)) (fun _ _ i _ => n - (intOf i).toNat)
  case atStart => exact ⟨0, Nat.zero_le _, rfl, Below.refl _ _, rfl⟩
  case round =>
   obtain ⟨k, hk, rfl, HB, HS⟩ := hrel
   by_cases hlt : k < n
   ·have hlt' : (k : Int) < (n : Int) := by omega
    have HP := hid (H0.out.below HB.out)
    obtain ⟨b, off, rfl, _, hbw, hcell⟩ := HP.out.at (by omega)
    have hck := (hcell k hlt).1
    have hck1 := (hcell k hlt).2
    have e1 : n - k = (n - (k + 1)) + 1 := by omega
    have HE1 := hid e1
    clear e1
    rw [HE1.out] at HS
    cases k with
    | zero =>
     clear hcell
     simp only [Nat.zero_mul, Nat.add_zero] at hck hck1
     generalize hcur : pAtB l 0 = cur at hck hck1
     obtain ⟨ck, cv⟩ := cur
     have HC := hid hcur
     clear hcur
     cases h1 : kOk ck
     ·have HZ : Hid (pOkF l n 0 = false) := by show pOkF l n 0 = false; rw [← HS.out]; exact pOkF_k l _ _ (by rw [HC.out]; exact h1)
      have C1 := specKeyOk_is ck _ h1
      clear h1
      go_wp2_with fail
      go_quiet (first | (go_at_call 108; exact Calls.quiet_of_same (C1 _)) | fail)
      go_wp2
      go_ret
      exact ⟨by rw [HR.out, HZ.out]; rfl, Below.then' HB.out (Below.drewN' (below_new (Below.refl _ _)) _) (Nat.le_refl _)⟩
     ·cases h2 : vOk cv
      ·have HZ : Hid (pOkF l n 0 = false) := by show pOkF l n 0 = false; rw [← HS.out]; exact pOkF_v l _ _ (by rw [HC.out]; exact h2)
       have C1 := specKeyOk_is ck _ h1
       have C2 := specValOk_is cv _ h2
       clear h1 h2
       go_wp2_with fail
       go_quiet (first | (go_at_call 108; exact Calls.quiet_of_same (C1 _)) | (go_at_call 109; exact Calls.quiet_of_same (C2 _)) | fail)
       go_wp2
       go_ret
       exact ⟨by rw [HR.out, HZ.out]; rfl, Below.then' HB.out (Below.drewN' (below_new (Below.refl _ _)) _) (Nat.le_refl _)⟩
      ·have HZ : Hid (pOkF l (n - 1) 1 = pOkF l n 0) := by
        show pOkF l (n - 1) 1 = pOkF l n 0
        rw [← HS.out]; exact (pOkF_0 l _ (by rw [HC.out]; exact h1) (by rw [HC.out]; exact h2)).symm
       have C1 := specKeyOk_is ck _ h1
       have C2 := specValOk_is cv _ h2
       clear h1 h2
       go_wp2_with fail
       go_quiet (first | (go_at_call 108; exact Calls.quiet_of_same (C1 _)) | (go_at_call 109; exact Calls.quiet_of_same (C2 _)) | fail)
       go_wp2
       go_roundw
       case rel => exact ⟨1, by omega, by go_num, Below.then' HB.out (Below.drewN' (below_new (Below.refl _ _)) _) (Nat.le_refl _), HZ⟩
       case measure => simp [intOf]; omega
    | succ j =>
     have hcj := (hcell j (by omega)).1
     have hj1 : (0 : Int) < (j : Int) + 1 := by omega
     clear hcell
     generalize hcur : pAtB l (j + 1) = cur at hck hck1
     obtain ⟨ck, cv⟩ := cur
     generalize hprev : (pAtB l j).1 = prev at hcj
     have HC := hid hcur
     have HQ := hid hprev
     clear hcur hprev
     cases h1 : kOk ck
     ·have HZ : Hid (pOkF l n 0 = false) := by show pOkF l n 0 = false; rw [← HS.out]; exact pOkF_k l _ _ (by rw [HC.out]; exact h1)
      have C1 := specKeyOk_is ck _ h1
      clear h1
      go_wp2_with fail
      go_quiet (first | (go_at_call 108; exact Calls.quiet_of_same (C1 _)) | fail)
      go_wp2
      go_ret
      exact ⟨by rw [HR.out, HZ.out]; rfl, Below.then' HB.out (Below.drewN' (below_new (Below.refl _ _)) _) (Nat.le_refl _)⟩
     ·cases h2 : vOk cv
      ·have HZ : Hid (pOkF l n 0 = false) := by show pOkF l n 0 = false; rw [← HS.out]; exact pOkF_v l _ _ (by rw [HC.out]; exact h2)
       have C1 := specKeyOk_is ck _ h1
       have C2 := specValOk_is cv _ h2
       clear h1 h2
       go_wp2_with fail
       go_quiet (first | (go_at_call 108; exact Calls.quiet_of_same (C1 _)) | (go_at_call 109; exact Calls.quiet_of_same (C2 _)) | fail)
       go_wp2
       go_ret
       exact ⟨by rw [HR.out, HZ.out]; rfl, Below.then' HB.out (Below.drewN' (below_new (Below.refl _ _)) _) (Nat.le_refl _)⟩
      ·have HG : Hid (∀ b, Op.bytesLess prev.toList ck.toList = b → (b && pOkF l (n - (j + 1 + 1)) (j + 1 + 1)) = pOkF l n 0) := by
        intro b hb
        rw [← HS.out]
        exact (pOkF_s l _ j (by rw [HC.out]; exact h1) (by rw [HC.out]; exact h2) b (by rw [HQ.out, HC.out]; exact hb)).symm
       have C1 := specKeyOk_is ck _ h1
       have C2 := specValOk_is cv _ h2
       clear h1 h2
       rcases tri prev ck with ⟨t1, t2, t3, t4⟩ | rfl | ⟨t1, t2, t3, t4⟩
       ·have HZ : Hid (pOkF l (n - (j + 1 + 1)) (j + 1 + 1) = pOkF l n 0) := by show pOkF l (n - (j + 1 + 1)) (j + 1 + 1) = pOkF l n 0; have := HG.out _ t1; simpa using this
        go_wp2_with fail
        go_quiet (first | (go_at_call 108; exact Calls.quiet_of_same (C1 _)) | (go_at_call 109; exact Calls.quiet_of_same (C2 _)) | fail)
        go_wp2
        go_roundw
        case rel => exact ⟨j + 1 + 1, by omega, by go_num, Below.then' HB.out (Below.drewN' (below_new (Below.refl _ _)) _) (Nat.le_refl _), HZ⟩
        case measure => simp [intOf]; omega
       ·have t1 := less_irrefl prev.toList
        have HZ : Hid (pOkF l n 0 = false) := by show pOkF l n 0 = false; have := HG.out _ t1; simpa using this.symm
        go_wp2_with fail
        go_quiet (first | (go_at_call 108; exact Calls.quiet_of_same (C1 _)) | (go_at_call 109; exact Calls.quiet_of_same (C2 _)) | fail)
        go_wp2
        go_ret
        exact ⟨by rw [HR.out, HZ.out]; rfl, Below.then' HB.out (Below.drewN' (below_new (Below.refl _ _)) _) (Nat.le_refl _)⟩
       ·have HZ : Hid (pOkF l n 0 = false) := by show pOkF l n 0 = false; have := HG.out _ t1; simpa using this.symm
        go_wp2_with fail
        go_quiet (first | (go_at_call 108; exact Calls.quiet_of_same (C1 _)) | (go_at_call 109; exact Calls.quiet_of_same (C2 _)) | fail)
        go_wp2
        go_ret
        exact ⟨by rw [HR.out, HZ.out]; rfl, Below.then' HB.out (Below.drewN' (below_new (Below.refl _ _)) _) (Nat.le_refl _)⟩
   ·have hk' : k = n := by omega
    have HZ : Hid (pOkF l n 0 = true) := by show pOkF l n 0 = true; rw [← HS.out, hk', Nat.sub_self]; rfl
    clear hk'
    go_wp2
    go_ret
    exact ⟨by rw [HR.out, HZ.out]; rfl, HB.out⟩
theorem specPairsOk_any (S : Nat → Prop) (v : Value) (l : List PB) (w : World) (h : Pr w S v l) :
  Calls Tryz.prog 68 #[v] w fun e w' => e = .returned (.bool (pOk l)) ∧ Below w.heap.size w w' := by
 obtain ⟨a, c, rfl, _⟩ := h.shape
 exact specPairsOk_at S a _ c l w h
open Go.RowKit
structure KC (u v : World) (cs : List (Addr × Value)) : Prop where
 cells : ∀ p ∈ cs, u.cell? p.1 = some p.2
 bel : Below u.heap.size u v
theorem KC.at {u v : World} {cs : List (Addr × Value)} (h : KC u v cs) {a : Addr} {x : Value} (hp : (a, x) ∈ cs) : v.cell? a = some x := by
 have hc := h.cells (a, x) hp
 rw [h.bel.cell (p := a) (block_lt hc)]
 exact hc
theorem KC.call {u v v' : World} {cs : List (Addr × Value)} (h : KC u v cs) (k : Below v.heap.size v v') : KC u v' cs := ⟨h.cells, h.bel.trans (k.mono h.bel.size)⟩
theorem kc2 {u v : World} {a0 a1 : Addr} {x0 x1 : Value} (h : KC u v [(a0, x0), (a1, x1)]) : v.cell? a0 = some x0 ∧ v.cell? a1 = some x1 ∧ KC u v [(a0, x0), (a1, x1)] := ⟨h.at (by simp), h.at (by simp), h⟩
theorem kc4 {u v : World} {a0 a1 a2 a3 : Addr} {x0 x1 x2 x3 : Value} (h : KC u v [(a0, x0), (a1, x1), (a2, x2), (a3, x3)]) : v.cell? a0 = some x0 ∧ v.cell? a1 = some x1 ∧ v.cell? a2 = some x2 ∧ v.cell? a3 = some x3 ∧ KC u v [(a0, x0), (a1, x1), (a2, x2), (a3, x3)] := ⟨h.at (by simp), h.at (by simp), h.at (by simp), h.at (by simp), h⟩
theorem kc5 {u v : World} {a0 a1 a2 a3 a4 : Addr} {x0 x1 x2 x3 x4 : Value} (h : KC u v [(a0, x0), (a1, x1), (a2, x2), (a3, x3), (a4, x4)]) : v.cell? a0 = some x0 ∧ v.cell? a1 = some x1 ∧ v.cell? a2 = some x2 ∧ v.cell? a3 = some x3 ∧ v.cell? a4 = some x4 ∧ KC u v [(a0, x0), (a1, x1), (a2, x2), (a3, x3), (a4, x4)] := ⟨h.at (by simp), h.at (by simp), h.at (by simp), h.at (by simp), h.at (by simp), h⟩
theorem kc6 {u v : World} {a0 a1 a2 a3 a4 a5 : Addr} {x0 x1 x2 x3 x4 x5 : Value} (h : KC u v [(a0, x0), (a1, x1), (a2, x2), (a3, x3), (a4, x4), (a5, x5)]) : v.cell? a0 = some x0 ∧ v.cell? a1 = some x1 ∧ v.cell? a2 = some x2 ∧ v.cell? a3 = some x3 ∧ v.cell? a4 = some x4 ∧ v.cell? a5 = some x5 ∧ KC u v [(a0, x0), (a1, x1), (a2, x2), (a3, x3), (a4, x4), (a5, x5)] := ⟨h.at (by simp), h.at (by simp), h.at (by simp), h.at (by simp), h.at (by simp), h.at (by simp), h⟩
theorem kc0_2 {u : World} {a0 a1 : Addr} {x0 x1 : Value} (h0 : u.cell? a0 = some x0) (h1 : u.cell? a1 = some x1) : KC u u [(a0, x0), (a1, x1)] :=
 ⟨fun p hp => by simp at hp; rcases hp with rfl | rfl <;> assumption, Below.refl _ _⟩
theorem kc0_4 {u : World} {a0 a1 a2 a3 : Addr} {x0 x1 x2 x3 : Value} (h0 : u.cell? a0 = some x0) (h1 : u.cell? a1 = some x1) (h2 : u.cell? a2 = some x2) (h3 : u.cell? a3 = some x3) : KC u u [(a0, x0), (a1, x1), (a2, x2), (a3, x3)] :=
 ⟨fun p hp => by simp at hp; rcases hp with rfl | rfl | rfl | rfl <;> assumption, Below.refl _ _⟩
theorem kc0_6 {u : World} {a0 a1 a2 a3 a4 a5 : Addr} {x0 x1 x2 x3 x4 x5 : Value} (h0 : u.cell? a0 = some x0) (h1 : u.cell? a1 = some x1) (h2 : u.cell? a2 = some x2) (h3 : u.cell? a3 = some x3) (h4 : u.cell? a4 = some x4) (h5 : u.cell? a5 = some x5) : KC u u [(a0, x0), (a1, x1), (a2, x2), (a3, x3), (a4, x4), (a5, x5)] :=
 ⟨fun p hp => by simp at hp; rcases hp with rfl | rfl | rfl | rfl | rfl | rfl <;> assumption, Below.refl _ _⟩
theorem kc2c {u v v' : World} {a0 a1 : Addr} {x0 x1 : Value} (k : Below v.heap.size v v') (h : v.cell? a0 = some x0 ∧ v.cell? a1 = some x1 ∧ KC u v [(a0, x0), (a1, x1)]) : v'.cell? a0 = some x0 ∧ v'.cell? a1 = some x1 ∧ KC u v' [(a0, x0), (a1, x1)] := kc2 (KC.call h.2.2 k)
theorem kc4c {u v v' : World} {a0 a1 a2 a3 : Addr} {x0 x1 x2 x3 : Value} (k : Below v.heap.size v v') (h : v.cell? a0 = some x0 ∧ v.cell? a1 = some x1 ∧ v.cell? a2 = some x2 ∧ v.cell? a3 = some x3 ∧ KC u v [(a0, x0), (a1, x1), (a2, x2), (a3, x3)]) : v'.cell? a0 = some x0 ∧ v'.cell? a1 = some x1 ∧ v'.cell? a2 = some x2 ∧ v'.cell? a3 = some x3 ∧ KC u v' [(a0, x0), (a1, x1), (a2, x2), (a3, x3)] := kc4 (KC.call h.2.2.2.2 k)
theorem kc6c {u v v' : World} {a0 a1 a2 a3 a4 a5 : Addr} {x0 x1 x2 x3 x4 x5 : Value} (k : Below v.heap.size v v') (h : v.cell? a0 = some x0 ∧ v.cell? a1 = some x1 ∧ v.cell? a2 = some x2 ∧ v.cell? a3 = some x3 ∧ v.cell? a4 = some x4 ∧ v.cell? a5 = some x5 ∧ KC u v [(a0, x0), (a1, x1), (a2, x2), (a3, x3), (a4, x4), (a5, x5)]) : v'.cell? a0 = some x0 ∧ v'.cell? a1 = some x1 ∧ v'.cell? a2 = some x2 ∧ v'.cell? a3 = some x3 ∧ v'.cell? a4 = some x4 ∧ v'.cell? a5 = some x5 ∧ KC u v' [(a0, x0), (a1, x1), (a2, x2), (a3, x3), (a4, x4), (a5, x5)] := kc6 (KC.call h.2.2.2.2.2.2 k)
open Go.RowKit
def Bk (w : World) (g : Nat) (T : TypeId) (xs : List Value) : Prop := w.heap[g]? = some (.cells xs.toArray T (0, 0))
theorem Bk.lt {w : World} {g : Nat} {T : TypeId} {xs : List Value} (h : Bk w g T xs) : g < w.heap.size := (Array.getElem?_eq_some_iff.1 h).1
theorem Bk.to {w w' : World} {g : Nat} {T : TypeId} {xs : List Value} {R : Nat → Prop} (h : Bk w g T xs) (ho : Only R w w') (hR : ¬ R g) : Bk w' g T xs := (ho.block g h.lt hR).trans h
theorem Bk.below {w w' : World} {g : Nat} {T : TypeId} {xs : List Value} (h : Bk w g T xs) (hb : Below w.heap.size w w') : Bk w' g T xs := (hb.block g h.lt).trans h
theorem Bk.new (w : World) (T : TypeId) (xs : List Value) : Bk (w.alloc (.cells xs.toArray T)) w.heap.size T xs := heap_alloc_new w _
theorem Bk.cell {w : World} {g : Nat} {T : TypeId} {xs : List Value} (h : Bk w g T xs) {j : Nat} {u : Value} (hu : xs[j]? = some u) : w.cell? ⟨g, j, none⟩ = some u := by
 have h' : w.heap[g]? = some (.cells xs.toArray T (0, 0)) := h
 simp [World.cell?, h', hu]
theorem Bk.free {w : World} {g : Nat} {T : TypeId} {xs : List Value} (h : Bk w g T xs) (j : Nat) : w.frozen? ⟨g, j, none⟩ = false := by
 have h' : w.heap[g]? = some (.cells xs.toArray T (0, 0)) := h
 simp [World.frozen?, h']
theorem Bk.set {w : World} {g : Nat} {T : TypeId} {xs : List Value} (h : Bk w g T xs) (o : Nat) (x : Value) : Bk (w.setCell ⟨g, o, none⟩ x) g T (xs.set o x) := by
 have h' : w.heap[g]? = some (.cells xs.toArray T (0, 0)) := h
 show (w.setCell ⟨g, o, none⟩ x).heap[g]? = _
 simp [World.setCell, Array.getElem?_modify, h']
theorem Bk.setOther {w : World} {g : Nat} {T : TypeId} {xs : List Value} (h : Bk w g T xs) {b : Nat} (hb : g ≠ b) (o : Nat) (x : Value) : Bk (w.setCell ⟨b, o, none⟩ x) g T xs := by
 show (w.setCell ⟨b, o, none⟩ x).heap[g]? = _
 rw [Below.heap_setCell _ _ _ _ hb]
 exact h
theorem Bk.alloc {w : World} {g : Nat} {T : TypeId} {xs : List Value} (h : Bk w g T xs) (o : Obj) : Bk (w.alloc o) g T xs := by
 show (w.alloc o).heap[g]? = _
 rw [Below.heap_alloc _ _ _ h.lt]
 exact h
theorem Bk.rw {w : World} {g : Nat} {T : TypeId} {xs : List Value} {n c : Nat} (h : Bk w g T xs) (hn : n ≤ c) (hc : c ≤ 9223372036854775807) (h0 : n = 0 → xs = []) (S : Nat → Prop) (hS : S g) : Rw w S (.slice (some ⟨g, 0, none⟩) n c) n xs :=
 ⟨_, c, rfl, hn, hc, h0, fun h => by (cases h), fun _ => ⟨g, 0, rfl, h.lt, hS, fun j u hu => by rw [Nat.zero_add]; exact h.cell hu⟩⟩
theorem infoPairI : (Tryz.prog.info? 112).map (fun i => (i.zero, i.size, i.bytes)) = some (some (.agg #[.string ⟨#[]⟩, .string ⟨#[]⟩]), 2, 32) := by kernel_rfl
theorem run_make_n {P : Program} (t e : TypeId) (z : Value) (size bytes : Nat) (ht : P.underlying t = some (.slice e)) (hinfo : (P.info? e).map (fun i => (i.zero, i.size, i.bytes)) = some (some z, size, bytes)) (n : Nat) (hb : bytes * n ≤ 281474976710656) (h63 : n ≤ 9223372036854775807) (w : World) :
  (Instr.makeSlice t (.int .i64 (n : Int)) (.int .i64 (n : Int))).run P w = .ok (.slice (some ⟨w.heap.size, 0, none⟩) n n) (w.alloc (.cells (madeCells z.cells (n * size)) e)) := by
 obtain ⟨i, hi, hz⟩ := Option.map_eq_some_iff.1 hinfo
 simp only [Prod.mk.injEq] at hz
 obtain ⟨hz, rfl, rfl⟩ := hz
 have hb' : (i.bytes : Int) * (n : Int) ≤ 281474976710656 := by
  have h : ((i.bytes * n : Nat) : Int) ≤ 281474976710656 := by omega
  rwa [Int.natCast_mul] at h
 have := run_make (P := P) w t e i z ht hi hz .i64 .i64 n n (by omega) (Int.le_refl _) hb' (by omega)
 simpa using this
theorem eqPair_any (k v k' v' : ByteArray) (w : World) : Calls Tryz.prog 174 #[.agg #[.string k, .string v], .agg #[.string k', .string v']] w fun e w' => e = .returned (.bool (decide ((k, v) = (k', v')))) ∧ Below w.heap.size w w' := by
 by_cases h1 : k = k'
 ·subst h1
  by_cases h2 : v = v'
  ·subst h2
   have HE : Hid (decide ((k, v) = (k, v)) = true) := by show _ = _; simp
   go_enter Tryz.func174, Tryz.ntmps174
   go_wp2
   go_ret
   exact ⟨by first | rfl | (rw [HE.out]), below_new (below_new (Below.refl _ _))⟩
  ·have HE : Hid (decide ((k, v) = (k, v')) = false) := by show _ = _; simp [h2]
   have t := str_beq h2
   clear h2
   go_enter Tryz.func174, Tryz.ntmps174
   go_wp2
   go_ret
   exact ⟨by rw [HE.out]; rfl, below_new (below_new (Below.refl _ _))⟩
 ·have HE : Hid (decide ((k, v) = (k', v')) = false) := by show _ = _; simp [h1]
  have t := str_beq h1
  clear h1
  go_enter Tryz.func174, Tryz.ntmps174
  go_wp2
  go_ret
  exact ⟨by rw [HE.out]; rfl, below_new (below_new (Below.refl _ _))⟩
set_option maxHeartbeats 2000000 in
theorem eqPairS_at (S S' : Nat → Prop) (a a' : Option Addr) (n n' c c' : Nat) (l l' : List PB) (w : World) (h : Pr w S (.slice a n c) l) (h' : Pr w S' (.slice a' n' c') l') :
  Calls Tryz.prog 154 #[.slice a n c, .slice a' n' c'] w fun e w' => e = .returned (.bool (decide (l = l'))) ∧ Below w.heap.size w w' := by
 obtain ⟨hn, hnc, hcc⟩ := Rw.len h
 obtain ⟨hn', hnc', hcc'⟩ := Rw.len h'
 have HN := hid hn
 have HN' := hid hn'
 have H0 := hid h
 have H0' := hid h'
 clear h h' hn hn'
 by_cases hne : n = n'
 ·subst hne
  have hz : ((n : Int) != (n : Int)) = false := by simp
  go_enter Tryz.func154, Tryz.ntmps154
  go_wp2
  go_loopw [5] (fun i wr => ∃ k : Nat, k ≤ n ∧ i = .int .i64 k ∧ Hid (Below w.heap.size w wr) ∧ Hid (l.take k = l'.take k)) (fun i _ => n - (intOf i).toNat)
  case atStart => exact ⟨0, Nat.zero_le _, rfl, Below.refl _ _, rfl⟩
  case round =>
   obtain ⟨k, hk, rfl, HB, HT⟩ := hrel
   by_cases hlt : k < n
   ·have hlt' : (k : Int) < (n : Int) := by omega
    have HP := hid (H0.out.below HB.out)
    have HP' := hid (H0'.out.below HB.out)
    obtain ⟨b, off, rfl, _, hbw, hcell⟩ := HP.out.at (by omega)
    obtain ⟨b', off', rfl, _, hbw', hcell'⟩ := HP'.out.at (by omega)
    have hck := (hcell k hlt).1
    have hck1 := (hcell k hlt).2
    have hck' := (hcell' k hlt).1
    have hck1' := (hcell' k hlt).2
    have HS : Hid (pAtB l k = pAtB l' k → l.take (k + 1) = l'.take (k + 1)) := by
     intro e
     have hl : k < l.length := by rw [← HN.out]; exact hlt
     have hl' : k < l'.length := by rw [← HN'.out]; exact hlt
     rw [List.take_succ_eq_append_getElem hl, List.take_succ_eq_append_getElem hl', HT.out]
     simp [pAtB, hl, hl'] at e
     rw [e]
    have HF : Hid (pAtB l k ≠ pAtB l' k → decide (l = l') = false) := by
     intro e
     rw [decide_eq_false_iff_not]
     intro e'
     exact e (by rw [e'])
    clear hcell hcell' hbw hbw' HP HP' HT
    generalize pAtB l k = cur at *
    generalize pAtB l' k = cur' at *
    obtain ⟨ck, cv⟩ := cur
    obtain ⟨ck', cv'⟩ := cur'
    have T0 := hid (kc0_4 hck hck1 hck' hck1')
    by_cases he : (ck, cv) = (ck', cv')
    ·have HS1 := hid (HS.out he)
     have C1 : ∀ v, Calls Tryz.prog 174 #[.agg #[.string ck, .string cv], .agg #[.string ck', .string cv']] v fun e w' => e = .returned (.bool true) ∧ Below v.heap.size v w' := fun v => by
      have := eqPair_any ck cv ck' cv' v
      rwa [decide_eq_true he] at this
     clear he HS HF hck hck1 hck' hck1'
     go_wp2_with fail
     go_region_held3 (fun v => v.cell? ⟨b, off + k * 2, none⟩ = some (.string ck) ∧ v.cell? ⟨b, off + k * 2 + 1, none⟩ = some (.string cv) ∧ v.cell? ⟨b', off' + k * 2, none⟩ = some (.string ck') ∧ v.cell? ⟨b', off' + k * 2 + 1, none⟩ = some (.string cv') ∧ KC wr v [(⟨b, off + k * 2, none⟩, .string ck), (⟨b, off + k * 2 + 1, none⟩, .string cv), (⟨b', off' + k * 2, none⟩, .string ck'), (⟨b', off' + k * 2 + 1, none⟩, .string cv')])
      (first | assumption | exact kc4 (T0.out.call (below_drew _)) | exact kc4c hbC (by assumption))
      (first | (go_at_call 174; refine (C1 _).mono ?_; rintro e w' ⟨rfl, hbC⟩))
     all_goals (rename_i hS; have HB1 := hid (Below.then' HB.out hS.2.2.2.2.bel (Nat.le_refl _)); clear hS; go_wp2)
     go_roundw
     case rel => exact ⟨k + 1, by omega, by go_num, HB1.out, HS1.out⟩
     case measure => simp [intOf]; omega
    ·have HF1 := hid (HF.out he)
     have C1 : ∀ v, Calls Tryz.prog 174 #[.agg #[.string ck, .string cv], .agg #[.string ck', .string cv']] v fun e w' => e = .returned (.bool false) ∧ Below v.heap.size v w' := fun v => by
      have := eqPair_any ck cv ck' cv' v
      rwa [decide_eq_false he] at this
     clear he HS HF hck hck1 hck' hck1'
     go_wp2_with fail
     go_region_held3 (fun v => v.cell? ⟨b, off + k * 2, none⟩ = some (.string ck) ∧ v.cell? ⟨b, off + k * 2 + 1, none⟩ = some (.string cv) ∧ v.cell? ⟨b', off' + k * 2, none⟩ = some (.string ck') ∧ v.cell? ⟨b', off' + k * 2 + 1, none⟩ = some (.string cv') ∧ KC wr v [(⟨b, off + k * 2, none⟩, .string ck), (⟨b, off + k * 2 + 1, none⟩, .string cv), (⟨b', off' + k * 2, none⟩, .string ck'), (⟨b', off' + k * 2 + 1, none⟩, .string cv')])
      (first | assumption | exact kc4 (T0.out.call (below_drew _)) | exact kc4c hbC (by assumption))
      (first | (go_at_call 174; refine (C1 _).mono ?_; rintro e w' ⟨rfl, hbC⟩))
     all_goals (rename_i hS; have HB1 := hid (Below.then' HB.out hS.2.2.2.2.bel (Nat.le_refl _)); clear hS; go_wp2)
     go_ret
     exact ⟨by rw [HF1.out]; rfl, HB1.out⟩
   ·have HF : Hid (decide (l = l') = true) := by
     show decide (l = l') = true
     have hk' : k = n := by omega
     have e := HT.out
     have e1 : l.length ≤ k := by rw [← HN.out]; omega
     have e2 : l'.length ≤ k := by rw [← HN'.out]; omega
     rw [List.take_of_length_le e1, List.take_of_length_le e2] at e
     simp [e]
    clear HT
    go_wp2
    go_ret
    exact ⟨by rw [HF.out]; rfl, HB.out⟩
 ·have hz : ((n : Int) != (n' : Int)) = true := by simp; omega
  have HF : Hid (decide (l = l') = false) := by
   show decide (l = l') = false
   rw [decide_eq_false_iff_not]
   intro e
   exact hne (by rw [HN.out, HN'.out, e])
  clear hne
  go_enter Tryz.func154, Tryz.ntmps154
  go_wp2
  go_ret
  exact ⟨by rw [HF.out]; rfl, Below.refl _ _⟩
open Go.RowKit
def Sr (w : World) (S : Nat → Prop) (v : Value) (ss : List ByteArray) : Prop := Rw w S v ss.length (ss.map Value.string)
def Ir (w : World) (S : Nat → Prop) (v : Value) (ks : List Int) : Prop := Rw w S v ks.length (ks.map (Value.int .i64))
def sAt (ss : List ByteArray) (i : Nat) : ByteArray := ss[i]?.getD ⟨#[]⟩
def iAt (ks : List Int) (i : Nat) : Int := ks[i]?.getD 0
theorem Sr.to {w w' : World} {S R : Nat → Prop} {v : Value} {ss : List ByteArray} (h : Sr w S v ss) (ho : Only R w w') (hd : ∀ b, S b → b < w.heap.size → ¬ R b) : Sr w' S v ss := Rw.to h ho hd
theorem Ir.to {w w' : World} {S R : Nat → Prop} {v : Value} {ss : List Int} (h : Ir w S v ss) (ho : Only R w w') (hd : ∀ b, S b → b < w.heap.size → ¬ R b) : Ir w' S v ss := Rw.to h ho hd
theorem Pr.to {w w' : World} {S R : Nat → Prop} {v : Value} {ss : List PB} (h : Pr w S v ss) (ho : Only R w w') (hd : ∀ b, S b → b < w.heap.size → ¬ R b) : Pr w' S v ss := Rw.to h ho hd
theorem Rw.below {w w' : World} {S : Nat → Prop} {v : Value} {n : Nat} {xs : List Value} (h : Rw w S v n xs) (hb : Below w.heap.size w w') : Rw w' S v n xs := Rw.to h (only_of_below hb (fun _ => False)) (fun _ _ _ h => h)
theorem Sr.below {w w' : World} {S : Nat → Prop} {v : Value} {ss : List ByteArray} (h : Sr w S v ss) (hb : Below w.heap.size w w') : Sr w' S v ss := Rw.below h hb
theorem Ir.below {w w' : World} {S : Nat → Prop} {v : Value} {ss : List Int} (h : Ir w S v ss) (hb : Below w.heap.size w w') : Ir w' S v ss := Rw.below h hb
theorem Sr.shape {w : World} {S : Nat → Prop} {v : Value} {ss : List ByteArray} (h : Sr w S v ss) : ∃ a c, v = .slice a ss.length c ∧ ss.length ≤ c ∧ c ≤ 9223372036854775807 := Rw.shape h
theorem Ir.shape {w : World} {S : Nat → Prop} {v : Value} {ss : List Int} (h : Ir w S v ss) : ∃ a c, v = .slice a ss.length c ∧ ss.length ≤ c ∧ c ≤ 9223372036854775807 := Rw.shape h
theorem Rw.at {w : World} {S : Nat → Prop} {a : Option Addr} {n c m : Nat} {xs : List Value} (h : Rw w S (.slice a n c) m xs) (hp : 0 < n) : ∃ b off, a = some ⟨b, off, none⟩ ∧ S b ∧ b < w.heap.size ∧ ∀ j u, xs[j]? = some u → w.cell? ⟨b, off + j, none⟩ = some u := by
 obtain ⟨a', c', h1, h2, h3, h4, hn, h5⟩ := h
 cases h1
 obtain ⟨b, off, h6, h7, h8, h9⟩ := h5 hp
 exact ⟨b, off, h6, h8, h7, h9⟩
theorem Sr.at {w : World} {S : Nat → Prop} {a : Option Addr} {n c : Nat} {ss : List ByteArray} (h : Sr w S (.slice a n c) ss) (hp : 0 < n) : ∃ b off, a = some ⟨b, off, none⟩ ∧ S b ∧ b < w.heap.size ∧ ∀ i, i < n → w.cell? ⟨b, off + i, none⟩ = some (.string (sAt ss i)) := by
 have hn := (Rw.len h).1
 obtain ⟨b, off, h1, h2, h3, h4⟩ := Rw.at h hp
 refine ⟨b, off, h1, h2, h3, fun i hi => h4 i _ ?_⟩
 simp [sAt, show i < ss.length by omega]
theorem Ir.at {w : World} {S : Nat → Prop} {a : Option Addr} {n c : Nat} {ss : List Int} (h : Ir w S (.slice a n c) ss) (hp : 0 < n) : ∃ b off, a = some ⟨b, off, none⟩ ∧ S b ∧ b < w.heap.size ∧ ∀ i, i < n → w.cell? ⟨b, off + i, none⟩ = some (.int .i64 (iAt ss i)) := by
 have hn := (Rw.len h).1
 obtain ⟨b, off, h1, h2, h3, h4⟩ := Rw.at h hp
 refine ⟨b, off, h1, h2, h3, fun i hi => h4 i _ ?_⟩
 simp [iAt, show i < ss.length by omega]
abbrev V3 := Value × Value × Value
def ncs : List V3 → List Value
 | [] => []
 | p :: ps => p.1 :: p.2.1 :: p.2.2 :: ncs ps
def vAt (V : List V3) (i : Nat) : V3 := V[i]?.getD (.slice none 0 0, .slice none 0 0, .slice none 0 0)
theorem ncs_append (ps qs : List V3) : ncs (ps ++ qs) = ncs ps ++ ncs qs := by
 induction ps with
 | nil => rfl
 | cons p ps ih => simp only [ncs, List.cons_append, ih]
theorem ncs_at (ps : List V3) : ∀ i, i < ps.length → (ncs ps)[i * 3]? = some (vAt ps i).1 ∧ (ncs ps)[i * 3 + 1]? = some (vAt ps i).2.1 ∧ (ncs ps)[i * 3 + 2]? = some (vAt ps i).2.2 := by
 induction ps with
 | nil => intro i h; exact absurd h (Nat.not_lt_zero _)
 | cons p ps ih =>
  intro i h
  cases i with
  | zero => exact ⟨rfl, rfl, rfl⟩
  | succ i =>
   have := ih i (by simpa using h)
   have e : (i + 1) * 3 = i * 3 + 3 := by omega
   rw [e]
   exact this
theorem ncs_set (ps : List V3) (p : V3) : ∀ j, j < ps.length → ncs (ps.set j p) = (((ncs ps).set (j * 3) p.1).set (j * 3 + 1) p.2.1).set (j * 3 + 2) p.2.2 := by
 induction ps with
 | nil => intro j h; exact absurd h (Nat.not_lt_zero _)
 | cons q ps ih =>
  intro j h
  cases j with
  | zero => rfl
  | succ j =>
   have := ih j (by simpa using h)
   rw [show (j + 1) * 3 = j * 3 + 3 by omega, show j * 3 + 3 + 1 = j * 3 + 1 + 3 by omega, show j * 3 + 3 + 2 = j * 3 + 2 + 3 by omega]
   show q.1 :: q.2.1 :: q.2.2 :: ncs (ps.set j p) = _
   rw [this]
   rfl
def N1 (w : World) (S : Nat → Prop) (p : V3) (x : NB) : Prop := Pr w S p.1 x.ps ∧ Sr w S p.2.1 x.keys ∧ Ir w S p.2.2 x.kids
theorem N1.to {w w' : World} {S R : Nat → Prop} {p : V3} {x : NB} (h : N1 w S p x) (ho : Only R w w') (hd : ∀ b, S b → b < w.heap.size → ¬ R b) : N1 w' S p x := ⟨h.1.to ho hd, h.2.1.to ho hd, h.2.2.to ho hd⟩
theorem N1.mono {w : World} {S R : Nat → Prop} {p : V3} {x : NB} (h : N1 w S p x) (hd : ∀ b, S b → b < w.heap.size → R b) : N1 w R p x := ⟨Rw.mono h.1 hd, Rw.mono h.2.1 hd, Rw.mono h.2.2 hd⟩
def Nr (w : World) (S : Nat → Prop) (v : Value) (ns : List NB) : Prop := ∃ V : List V3, V.length = ns.length ∧ Rw w S v ns.length (ncs V) ∧ ∀ i, i < ns.length → N1 w S (vAt V i) (nAt ns i)
theorem Nr.to {w w' : World} {S R : Nat → Prop} {v : Value} {ns : List NB} (h : Nr w S v ns) (ho : Only R w w') (hd : ∀ b, S b → b < w.heap.size → ¬ R b) : Nr w' S v ns := by
 obtain ⟨V, h1, h2, h3⟩ := h
 exact ⟨V, h1, h2.to ho hd, fun i hi => (h3 i hi).to ho hd⟩
theorem Nr.mono {w : World} {S R : Nat → Prop} {v : Value} {ns : List NB} (h : Nr w S v ns) (hd : ∀ b, S b → b < w.heap.size → R b) : Nr w R v ns := by
 obtain ⟨V, h1, h2, h3⟩ := h
 exact ⟨V, h1, h2.mono hd, fun i hi => (h3 i hi).mono hd⟩
theorem Nr.below {w w' : World} {S : Nat → Prop} {v : Value} {ns : List NB} (h : Nr w S v ns) (hb : Below w.heap.size w w') : Nr w' S v ns := h.to (only_of_below hb (fun _ => False)) (fun _ _ _ h => h)
theorem Nr.len {w : World} {S : Nat → Prop} {a : Option Addr} {n c : Nat} {ns : List NB} (h : Nr w S (.slice a n c) ns) : n = ns.length ∧ n ≤ c ∧ c ≤ 9223372036854775807 := by
 obtain ⟨V, h1, h2, h3⟩ := h
 exact Rw.len h2
theorem Nr.at {w : World} {S : Nat → Prop} {a : Option Addr} {n c : Nat} {ns : List NB} (h : Nr w S (.slice a n c) ns) (hp : 0 < n) : ∃ b off, a = some ⟨b, off, none⟩ ∧ S b ∧ b < w.heap.size ∧ ∀ i, i < n → ∃ ap np cp ax nx cx ai ni ci,
  w.cell? ⟨b, off + i * 3, none⟩ = some (.slice ap np cp) ∧ w.cell? ⟨b, off + i * 3 + 1, none⟩ = some (.slice ax nx cx) ∧ w.cell? ⟨b, off + i * 3 + 2, none⟩ = some (.slice ai ni ci) ∧
   Pr w S (.slice ap np cp) (nAt ns i).ps ∧ Sr w S (.slice ax nx cx) (nAt ns i).keys ∧ Ir w S (.slice ai ni ci) (nAt ns i).kids := by
 obtain ⟨V, h1, h2, h3⟩ := h
 have hn := (Rw.len h2).1
 obtain ⟨b, off, e1, e2, e3, e4⟩ := h2.at hp
 refine ⟨b, off, e1, e2, e3, fun i hi => ?_⟩
 obtain ⟨k1, k2, k3⟩ := h3 i (by omega)
 obtain ⟨c0, c1, c2⟩ := ncs_at V i (by omega)
 have d0 := e4 _ _ c0
 have d1 := e4 _ _ c1
 have d2 := e4 _ _ c2
 generalize vAt V i = p at *
 obtain ⟨p0, p1, p2⟩ := p
 obtain ⟨ap, cp, g0, _⟩ := k1.shape
 obtain ⟨ax, cx, g1, _⟩ := k2.shape
 obtain ⟨ai, ci, g2, _⟩ := k3.shape
 simp only at g0 g1 g2
 subst g0 g1 g2
 exact ⟨ap, _, cp, ax, _, cx, ai, _, ci, d0, d1, d2, k1, k2, k3⟩
open Go.RowKit
def Uf (w : World) (b : Nat) : Prop := ∃ xs T, w.heap[b]? = some (.cells xs T (0, 0))
theorem Bk.uf {w : World} {g : Nat} {T : TypeId} {xs : List Value} (h : Bk w g T xs) : Uf w g := ⟨_, _, h⟩
open Go.RowKit
def Ob (w : World) (B : Nat) (v : Value) (zs : List Int) : Prop := w.ownsRow B 5 1 v zs.length (zs.map (Value.int .u8))
theorem run_append_own_nil {P : Program} {w : World} {base : Nat} {t ty e : TypeId} {i : TypeInfo} (ht : P.underlying t = some (.slice e)) (hi : P.info? e = some i)
  {v : Value} {n : Nat} {xs : List Value} (hown : w.ownsRow base e 1 v n xs) (c : Nat) :
  (Builtin.append_ #[t, t] ty #[v, .slice none 0 c]).run P w = .ok v w := by
 rcases hown.2 with ⟨rfl, rfl⟩ | ⟨g, cap, cur, rfl, hbg, hg, hnc, hcm, hcs, htake⟩
 ·simp [Builtin.append_, run_underlying ht, sizeOf, typeInfo, hi, Builtin.lenOf, Builtin.firstCells]
 ·have hr := run_append_room_src (P := P) w t t ty e i ht hi g 0 n cap (.slice none 0 c) 0 [] (Src.ofNil w ht c) (by omega) (by intro j hj; simp at hj) (by intro j hj; simp at hj)
  rw [hr]
  rfl
theorem run_append_rd {w : World} (ty : TypeId) (base : Nat) (v : Value) (zs : List Int) (hown : Ob w base v zs) (ao : Option Addr) (m c : Nat) (ys : List Int) (hsrc : Rd w ao m c ys)
  (hb : zs.length + ys.length ≤ 70368744177664) (hbase : base ≤ w.heap.size) :
  ∃ v' w', (Builtin.append_ #[89, 89] ty #[v, .slice ao m c]).run Tryz.prog w = .ok v' w' ∧ Ob w' base v' (zs ++ ys) ∧ w.grownBy w' v.ownBlock := by
 obtain ⟨i0, hi, hz0, hz1, hz2⟩ := info_parts infoU8
 obtain ⟨h1, h2, h3, h30, h4, h5⟩ := hsrc
 cases ao with
 | none =>
  have hm : m = 0 := by
   rcases Nat.eq_zero_or_pos m with h | h
   ·exact h
   ·obtain ⟨b, off, e, _⟩ := h5 h
    cases e
  subst hm
  have hy : ys = [] := List.eq_nil_of_length_eq_zero h1.symm
  subst hy
  exact ⟨v, w, run_append_own_nil Tryz.underlying89 hi hown c, by simpa using hown, ⟨rfl, rfl, rfl, Nat.le_refl _, fun _ _ _ => rfl⟩⟩
 | some ad =>
  obtain ⟨v', w', hr, ho, hg, _⟩ := run_append_own (P := Tryz.prog) w base 89 ty 5 i0 (.int .u8 0) 1 1 Tryz.underlying89 hi hz0 hz1 hz2 rfl (by decide) v zs.length (zs.map (Value.int .u8)) hown ad m c (ys.map (Value.int .u8))
   (by simp [h1]) (by
    intro j u hu
    have hj : j < ys.length := by
     have := (List.getElem?_eq_some_iff.1 hu).1
     simpa using this
    obtain ⟨b, off, e, _, hc⟩ := h5 (by omega)
    cases e
    have := hc j (by omega)
    rw [Addr.add_lit, this]
    simp [hj] at hu
    simp [hj, hu]) (by
    intro u hu
    obtain ⟨x, _, rfl⟩ := List.mem_map.1 hu
    rfl) (by unfold maxLen; omega) (by omega) hbase
  refine ⟨v', w', hr, ?_, hg⟩
  unfold Ob
  rw [List.length_append, List.map_append, ← h1]
  exact ho
theorem wpList_append_rd {w : World} {ops : Array Oper} {rest : List Oper} {o : Oper} {a : Act} {Q : Exit → Act → World → Prop} (hgd : o.guard = none) (s x : Operand)
  (ho : o.op = .call { callee := .builtin .append, args := #[s, x], argTypes := #[89, 89] }) (base : Nat) (v : Value) (zs : List Int) (hs : a.eval s = v) (hown : Ob w base v zs)
  (ao : Option Addr) (m c : Nat) (ys : List Int) (hx : a.eval x = .slice ao m c) (hsrc : Rd w ao m c ys) (hb : zs.length + ys.length ≤ 70368744177664) (hbase : base ≤ w.heap.size)
  (h : ∀ v' w', Ob w' base v' (zs ++ ys) → w.grownBy w' v.ownBlock → wpList Tryz.prog ops Q rest (a.put o.dst v') w') : wpList Tryz.prog ops Q (o :: rest) a w := by
 refine wpList_plain hgd fun K hK => ?_
 obtain ⟨v', w', hr, h2, h3⟩ := run_append_rd (w := w) o.type base v zs hown ao m c ys hsrc hb hbase
 unfold Oper.wp execOp
 simp only [ho, resolve, invoke, builtin, Sem.run_bind, Sem.run_pure, Result.andThen_ok, List.map_toArray, List.map_cons, List.map_nil, hs, hx, hr]
 exact hK _ _ (h v' w' h2 h3)
theorem Ob.rd {w : World} {B : Nat} {v : Value} {zs : List Int} (h : Ob w B v zs) (hl : ∀ i : Nat, 0 ≤ zs[i]?.getD 0 ∧ zs[i]?.getD 0 ≤ 255) (hb : zs.length ≤ 70368744177664) :
  ∃ a c, v = .slice a zs.length c ∧ Rd w a zs.length c zs ∧ ∀ x, a = some x → B ≤ x.block := by
 rcases h.2 with ⟨rfl, h0⟩ | ⟨g, cap, cur, rfl, hbg, hg, hnc, hcm, hcs, htake⟩
 ·exact ⟨none, 0, by rw [h0], ⟨rfl, by omega, by omega, by omega, hl, fun hp => by omega⟩, fun x hx => by cases hx⟩
 ·refine ⟨some ⟨g, 0, none⟩, cap, rfl, ⟨rfl, hnc, by unfold maxLen at hcm; omega, by omega, hl, fun _ => ⟨g, 0, rfl, ?_, fun i hi => ?_⟩⟩, fun x hx => by cases hx; exact hbg⟩
  ·rcases Nat.lt_or_ge g w.heap.size with h | h
   ·exact h
   ·rw [Array.getElem?_eq_none h] at hg; cases hg
  ·have hc := h.cells (g := g) rfl i (.int .u8 (zs[i]?.getD 0)) (by simp [hi])
   rw [Addr.add_lit] at hc
   exact hc
theorem Ob.shape {w : World} {B : Nat} {v : Value} {zs : List Int} (h : Ob w B v zs) : ∃ a c, v = .slice a zs.length c := by
 rcases h.2 with ⟨rfl, h0⟩ | ⟨g, cap, cur, rfl, _⟩
 ·exact ⟨none, 0, by rw [h0]⟩
 ·exact ⟨_, cap, rfl⟩
theorem Ob.alloc {w : World} {B : Nat} {v : Value} {zs : List Int} (h : Ob w B v zs) (o : Obj) : Ob (w.alloc o) B v zs := World.ownsRow.alloc h o
theorem ob_new (w : World) (B : Nat) (hB : B ≤ w.heap.size) : Ob (w.alloc (.cells #[] 5)) B (.slice (some ⟨w.heap.size, 0, none⟩) 0 0) [] :=
 ⟨rfl, .inr ⟨w.heap.size, 0, #[], rfl, hB, heap_alloc_new w _, Nat.le_refl _, by decide, rfl, rfl⟩⟩
theorem Ob.below {w w1 w2 : World} {B : Nat} {v : Value} {zs : List Int} (h : Ob w1 B v zs) (hb : Below B w w1) (hB : B ≤ w1.heap.size) (hg : w1.grownBy w2 v.ownBlock) : Below B w w2 :=
 hb.grown hg hB fun k hk => (World.ownsRow.lt h k hk).1
theorem rd_one (w : World) (z : Int) (h0 : 0 ≤ z) (h1 : z ≤ 255) : Rd (w.alloc (.cells #[.int .u8 z] 5)) (some ⟨w.heap.size, 0, none⟩) 1 1 [z] := by
 refine ⟨rfl, Nat.le_refl _, by omega, by omega, fun i => ?_, fun _ => ⟨w.heap.size, 0, rfl, by simp, fun i hi => ?_⟩⟩
 ·match i with
  | 0 => exact ⟨h0, h1⟩
  | n + 1 => simp
 ·have : i = 0 := by omega
  subst this
  rw [World.cell?_alloc_at (hn := rfl)]
  simp
open Go.RowKit
abbrev DW := Int × List Int
def byt (zs : List Int) : Prop := ∀ i : Nat, 0 ≤ zs[i]?.getD 0 ∧ zs[i]?.getD 0 ≤ 255
def shAt (ss : List (List Int)) (i : Nat) : List Int := ss[i]?.getD []
def dwAt (ds : List DW) (i : Nat) : DW := ds[i]?.getD (0, [])
def uAt (V : List Value) (i : Nat) : Value := V[i]?.getD (.slice none 0 0)
def xAt (U : List (Int × Value)) (i : Nat) : Int × Value := U[i]?.getD (0, .slice none 0 0)
theorem uAt_some {V : List Value} {i : Nat} (h : i < V.length) : V[i]? = some (uAt V i) := by simp [uAt, h]
def By (w : World) (S : Nat → Prop) (v : Value) (zs : List Int) : Prop := Rw w S v zs.length (zs.map (Value.int .u8)) ∧ byt zs
theorem By.to {w w' : World} {S R : Nat → Prop} {v : Value} {zs : List Int} (h : By w S v zs) (ho : Only R w w') (hd : ∀ b, S b → b < w.heap.size → ¬ R b) : By w' S v zs := ⟨h.1.to ho hd, h.2⟩
theorem By.mono {w : World} {S R : Nat → Prop} {v : Value} {zs : List Int} (h : By w S v zs) (hd : ∀ b, S b → b < w.heap.size → R b) : By w R v zs := ⟨h.1.mono hd, h.2⟩
theorem By.below {w w' : World} {S : Nat → Prop} {v : Value} {zs : List Int} (h : By w S v zs) (hb : Below w.heap.size w w') : By w' S v zs := ⟨h.1.below hb, h.2⟩
theorem By.len {w : World} {S : Nat → Prop} {a : Option Addr} {n c : Nat} {zs : List Int} (h : By w S (.slice a n c) zs) : n = zs.length ∧ n ≤ c ∧ c ≤ 9223372036854775807 := Rw.len h.1
theorem By.rd {w : World} {S : Nat → Prop} {a : Option Addr} {n c : Nat} {zs : List Int} (h : By w S (.slice a n c) zs) (hn : n ≤ 1048576) : Rd w a n c zs := by
 obtain ⟨h1, h2, h3⟩ := h.len
 refine ⟨h1, h2, h3, by omega, h.2, fun hp => ?_⟩
 obtain ⟨b, off, e, _, hb, hc⟩ := Rw.at h.1 hp
 exact ⟨b, off, e, hb, fun i hi => hc i _ (by simp [show i < zs.length by omega])⟩
theorem by_ob {w : World} {B : Nat} {v : Value} {zs : List Int} (h : Ob w B v zs) (hb : byt zs) {S : Nat → Prop} (hS : ∀ k, v.ownBlock = some k → B ≤ k → k < w.heap.size → S k) : By w S v zs := ⟨rw_own h hS, hb⟩
def Shr (w : World) (S : Nat → Prop) (v : Value) (ss : List (List Int)) : Prop := ∃ V : List Value, V.length = ss.length ∧ Rw w S v ss.length V ∧ ∀ i, i < ss.length → By w S (uAt V i) (shAt ss i)
theorem Shr.to {w w' : World} {S R : Nat → Prop} {v : Value} {ss : List (List Int)} (h : Shr w S v ss) (ho : Only R w w') (hd : ∀ b, S b → b < w.heap.size → ¬ R b) : Shr w' S v ss := by
 obtain ⟨V, h1, h2, h3⟩ := h
 exact ⟨V, h1, h2.to ho hd, fun i hi => (h3 i hi).to ho hd⟩
theorem Shr.mono {w : World} {S R : Nat → Prop} {v : Value} {ss : List (List Int)} (h : Shr w S v ss) (hd : ∀ b, S b → b < w.heap.size → R b) : Shr w R v ss := by
 obtain ⟨V, h1, h2, h3⟩ := h
 exact ⟨V, h1, h2.mono hd, fun i hi => (h3 i hi).mono hd⟩
theorem Shr.below {w w' : World} {S : Nat → Prop} {v : Value} {ss : List (List Int)} (h : Shr w S v ss) (hb : Below w.heap.size w w') : Shr w' S v ss := h.to (only_of_below hb (fun _ => False)) (fun _ _ _ h => h)
theorem Shr.shape {w : World} {S : Nat → Prop} {v : Value} {ss : List (List Int)} (h : Shr w S v ss) : ∃ a c, v = .slice a ss.length c ∧ ss.length ≤ c ∧ c ≤ 9223372036854775807 := by
 obtain ⟨V, h1, h2, h3⟩ := h
 exact h2.shape
theorem Shr.len {w : World} {S : Nat → Prop} {a : Option Addr} {n c : Nat} {ss : List (List Int)} (h : Shr w S (.slice a n c) ss) : n = ss.length ∧ n ≤ c ∧ c ≤ 9223372036854775807 := by
 obtain ⟨V, h1, h2, h3⟩ := h
 exact Rw.len h2
theorem Rw.sliceOf {w : World} {S : Nat → Prop} {v : Value} {n : Nat} {xs : List Value} (h : Rw w S v n xs) : ∃ a c, v = .slice a n c := by
 obtain ⟨a, c, h, _⟩ := h
 exact ⟨a, c, h⟩
theorem Shr.at {w : World} {S : Nat → Prop} {a : Option Addr} {n c : Nat} {ss : List (List Int)} (h : Shr w S (.slice a n c) ss) (hp : 0 < n) : ∃ b off, a = some ⟨b, off, none⟩ ∧ S b ∧ b < w.heap.size ∧ ∀ i, i < n → ∃ ap np cp,
  w.cell? ⟨b, off + i, none⟩ = some (.slice ap np cp) ∧ By w S (.slice ap np cp) (shAt ss i) := by
 obtain ⟨V, h1, h2, h3⟩ := h
 have hn := (Rw.len h2).1
 obtain ⟨b, off, e1, e2, e3, e4⟩ := h2.at hp
 refine ⟨b, off, e1, e2, e3, fun i hi => ?_⟩
 have k1 := h3 i (by omega)
 have d0 := e4 i _ (uAt_some (by omega))
 obtain ⟨ap, cp, g0⟩ := k1.1.sliceOf
 rw [g0] at d0 k1
 exact ⟨ap, _, cp, d0, k1⟩
def wcs : List (Int × Value) → List Value
 | [] => []
 | p :: ps => .int .i64 p.1 :: p.2 :: wcs ps
theorem wcs_length (ps : List (Int × Value)) : (wcs ps).length = ps.length * 2 := by
 induction ps with
 | nil => rfl
 | cons p ps ih => simp only [wcs, List.length_cons, ih]; omega
theorem wcs_append (ps qs : List (Int × Value)) : wcs (ps ++ qs) = wcs ps ++ wcs qs := by
 induction ps with
 | nil => rfl
 | cons p ps ih => simp only [wcs, List.cons_append, ih]
theorem wcs_at (ps : List (Int × Value)) : ∀ i, i < ps.length → (wcs ps)[i * 2]? = some (.int .i64 (xAt ps i).1) ∧ (wcs ps)[i * 2 + 1]? = some (xAt ps i).2 := by
 induction ps with
 | nil => intro i h; exact absurd h (Nat.not_lt_zero _)
 | cons p ps ih =>
  intro i h
  cases i with
  | zero => exact ⟨rfl, rfl⟩
  | succ i =>
   have := ih i (by simpa using h)
   have e : (i + 1) * 2 = i * 2 + 2 := by omega
   rw [e]
   exact this
theorem wcs_set (ps : List (Int × Value)) (p : Int × Value) : ∀ j, j < ps.length → wcs (ps.set j p) = ((wcs ps).set (j * 2) (.int .i64 p.1)).set (j * 2 + 1) p.2 := by
 induction ps with
 | nil => intro j h; exact absurd h (Nat.not_lt_zero _)
 | cons q ps ih =>
  intro j h
  cases j with
  | zero => rfl
  | succ j =>
   have := ih j (by simpa using h)
   rw [show (j + 1) * 2 = j * 2 + 2 by omega, show j * 2 + 2 + 1 = j * 2 + 1 + 2 by omega]
   show .int .i64 q.1 :: q.2 :: wcs (ps.set j p) = _
   rw [this]
   rfl
def Wrr (w : World) (S : Nat → Prop) (v : Value) (ds : List DW) : Prop := ∃ U : List (Int × Value), U.length = ds.length ∧ Rw w S v ds.length (wcs U) ∧ ∀ i, i < ds.length → (xAt U i).1 = (dwAt ds i).1 ∧ By w S (xAt U i).2 (dwAt ds i).2
theorem Wrr.to {w w' : World} {S R : Nat → Prop} {v : Value} {ds : List DW} (h : Wrr w S v ds) (ho : Only R w w') (hd : ∀ b, S b → b < w.heap.size → ¬ R b) : Wrr w' S v ds := by
 obtain ⟨V, h1, h2, h3⟩ := h
 exact ⟨V, h1, h2.to ho hd, fun i hi => ⟨(h3 i hi).1, (h3 i hi).2.to ho hd⟩⟩
theorem Wrr.mono {w : World} {S R : Nat → Prop} {v : Value} {ds : List DW} (h : Wrr w S v ds) (hd : ∀ b, S b → b < w.heap.size → R b) : Wrr w R v ds := by
 obtain ⟨V, h1, h2, h3⟩ := h
 exact ⟨V, h1, h2.mono hd, fun i hi => ⟨(h3 i hi).1, (h3 i hi).2.mono hd⟩⟩
theorem Wrr.below {w w' : World} {S : Nat → Prop} {v : Value} {ds : List DW} (h : Wrr w S v ds) (hb : Below w.heap.size w w') : Wrr w' S v ds := h.to (only_of_below hb (fun _ => False)) (fun _ _ _ h => h)
theorem Wrr.shape {w : World} {S : Nat → Prop} {v : Value} {ds : List DW} (h : Wrr w S v ds) : ∃ a c, v = .slice a ds.length c ∧ ds.length ≤ c ∧ c ≤ 9223372036854775807 := by
 obtain ⟨V, h1, h2, h3⟩ := h
 exact h2.shape
theorem Wrr.len {w : World} {S : Nat → Prop} {a : Option Addr} {n c : Nat} {ds : List DW} (h : Wrr w S (.slice a n c) ds) : n = ds.length ∧ n ≤ c ∧ c ≤ 9223372036854775807 := by
 obtain ⟨V, h1, h2, h3⟩ := h
 exact Rw.len h2
theorem Wrr.at {w : World} {S : Nat → Prop} {a : Option Addr} {n c : Nat} {ds : List DW} (h : Wrr w S (.slice a n c) ds) (hp : 0 < n) : ∃ b off, a = some ⟨b, off, none⟩ ∧ S b ∧ b < w.heap.size ∧ ∀ i, i < n → ∃ ap np cp,
  w.cell? ⟨b, off + i * 2, none⟩ = some (.int .i64 (dwAt ds i).1) ∧ w.cell? ⟨b, off + i * 2 + 1, none⟩ = some (.slice ap np cp) ∧ By w S (.slice ap np cp) (dwAt ds i).2 := by
 obtain ⟨V, h1, h2, h3⟩ := h
 have hn := (Rw.len h2).1
 obtain ⟨b, off, e1, e2, e3, e4⟩ := h2.at hp
 refine ⟨b, off, e1, e2, e3, fun i hi => ?_⟩
 obtain ⟨k0, k1⟩ := h3 i (by omega)
 obtain ⟨c0, c1⟩ := wcs_at V i (by omega)
 have d0 := e4 _ _ c0
 have d1 := e4 _ _ c1
 obtain ⟨ap, cp, g0⟩ := k1.1.sliceOf
 rw [g0] at d1 k1
 rw [k0] at d0
 exact ⟨ap, _, cp, d0, d1, k1⟩
structure DK where
 sh : List (List Int)
 dw : List DW
instance : DecidableEq DK := fun a b => decidable_of_iff (a.sh = b.sh ∧ a.dw = b.dw) (by cases a; cases b; simp)
structure Dk (w : World) (S : Nat → Prop) (sa : Option Addr) (sn sc : Nat) (da : Option Addr) (dn dc : Nat) (d : DK) : Prop where
 hs : Shr w S (.slice sa sn sc) d.sh
 hd : Wrr w S (.slice da dn dc) d.dw
theorem Dk.to {w w' : World} {S R : Nat → Prop} {sa : Option Addr} {sn sc : Nat} {da : Option Addr} {dn dc : Nat} {d : DK} (h : Dk w S sa sn sc da dn dc d) (ho : Only R w w') (hd : ∀ b, S b → b < w.heap.size → ¬ R b) : Dk w' S sa sn sc da dn dc d := ⟨h.hs.to ho hd, h.hd.to ho hd⟩
theorem Dk.mono {w : World} {S R : Nat → Prop} {sa : Option Addr} {sn sc : Nat} {da : Option Addr} {dn dc : Nat} {d : DK} (h : Dk w S sa sn sc da dn dc d) (hd : ∀ b, S b → b < w.heap.size → R b) : Dk w R sa sn sc da dn dc d := ⟨h.hs.mono hd, h.hd.mono hd⟩
theorem Dk.below {w w' : World} {S : Nat → Prop} {sa : Option Addr} {sn sc : Nat} {da : Option Addr} {dn dc : Nat} {d : DK} (h : Dk w S sa sn sc da dn dc d) (hb : Below w.heap.size w w') : Dk w' S sa sn sc da dn dc d := ⟨h.hs.below hb, h.hd.below hb⟩
def smallD (d : DK) : Prop := (∀ i, i < d.sh.length → (shAt d.sh i).length ≤ 1048576) ∧ ∀ i, i < d.dw.length → (dwAt d.dw i).2.length ≤ 1048576
def shtOk (l : List Int) : Bool := decide (l.length = 0) || decide (l.length = 512)
def wrtOk (n : Nat) (p : DW) : Bool := decide (0 ≤ p.1) && decide (p.1 < (n : Int)) && decide (p.2.length = 512)
def dkOk (d : DK) : Bool := decide (2 ≤ d.sh.length) && decide (d.sh.length ≤ 400) && decide (d.dw.length ≤ 500) && d.sh.all shtOk && d.dw.all (wrtOk d.sh.length)
theorem allD_at {α : Type} {f : α → Bool} {l : List α} (z : α) : l.all f = true ↔ ∀ i, i < l.length → f (l[i]?.getD z) = true := by
 rw [List.all_eq_true]
 constructor
 ·intro h i hi
  rw [List.getElem?_eq_getElem hi]
  exact h _ (List.getElem_mem hi)
 ·intro h x hx
  obtain ⟨i, hi, rfl⟩ := List.mem_iff_getElem.1 hx
  have := h i hi
  rwa [List.getElem?_eq_getElem hi] at this
open Go.RowKit
theorem ownD_base {w : World} {B B' : Nat} {e : TypeId} {size : Nat} {v : Value} {n : Nat} {xs : List Value} (h : w.ownsRow B e size v n xs) (hB : B' ≤ B) : w.ownsRow B' e size v n xs := by
 refine ⟨h.1, h.2.imp id ?_⟩
 rintro ⟨g, cap, cur, k1, k2, k3⟩
 exact ⟨g, cap, cur, k1, by omega, k3⟩
theorem bk_own {w : World} {g B : Nat} {T : TypeId} {xs : List Value} {n size : Nat} (h : Bk w g T xs) (hl : xs.length = n * size) (hn : n ≤ 1048576) (hB : B ≤ g) : w.ownsRow B T size (.slice (some ⟨g, 0, none⟩) n n) n xs :=
 ⟨hl, .inr ⟨g, n, xs.toArray, rfl, hB, h, Nat.le_refl _, by unfold maxLen; omega, by simpa using hl, by simp [← hl]⟩⟩
theorem bk_ob {w : World} {g B : Nat} {zs : List Int} (h : Bk w g 5 (zs.map (Value.int .u8))) (hn : zs.length ≤ 1048576) (hB : B ≤ g) : Ob w B (.slice (some ⟨g, 0, none⟩) zs.length zs.length) zs :=
 bk_own h (by simp) hn hB
theorem ownD_set {w : World} {B : Nat} {E : TypeId} {s g n c m : Nat} {xs : List Value} (h : w.ownsRow B E s (.slice (some ⟨g, 0, none⟩) n c) m xs) (j : Nat) (u : Value) : (w.setCell ⟨g, j, none⟩ u).ownsRow B E s (.slice (some ⟨g, 0, none⟩) n c) m (xs.set j u) := by
 obtain ⟨k1, k2⟩ := h
 rcases k2 with ⟨k2, _⟩ | ⟨g', cap, cur, e, k3, k4, k5, k6, k7, k8⟩
 ·cases k2
 ·cases e
  refine ⟨by simpa using k1, .inr ⟨g, c, cur.setIfInBounds j u, rfl, k3, ?_, k5, k6, by simpa using k7, ?_⟩⟩
  ·simp [World.setCell, Array.getElem?_modify, k4]
  ·rw [← k8]
   simp only [Array.toList_setIfInBounds, List.take_set]
theorem own_at {w : World} {B : Nat} {E : TypeId} {s : Nat} {a : Option Addr} {n c m : Nat} {xs : List Value} (h : w.ownsRow B E s (.slice a n c) m xs) : n = m ∧ n ≤ c ∧ c ≤ 9223372036854775807 ∧ (0 < n → ∃ g, a = some ⟨g, 0, none⟩ ∧ B ≤ g ∧ g < w.heap.size ∧ (∀ o, w.frozen? ⟨g, o, none⟩ = false) ∧ ∀ (j : Nat) u, xs[j]? = some u → w.cell? ⟨g, j, none⟩ = some u) := by
 have hc := fun g hg => World.ownsRow.cells h (g := g) hg
 have hlt := World.ownsRow.lt h
 rcases h.2 with ⟨e, e2⟩ | ⟨g, cap, cur, e, hB, hg, k5, k6, k7, k8⟩
 ·cases e; exact ⟨e2.symm, Nat.le_refl _, by omega, fun h => by omega⟩
 ·have e2 : a = some ⟨g, 0, none⟩ ∧ n = m ∧ c = cap := by cases e; exact ⟨rfl, rfl, rfl⟩
  obtain ⟨rfl, rfl, rfl⟩ := e2
  refine ⟨rfl, k5, by unfold maxLen at k6; omega, fun _ => ⟨g, rfl, hB, (hlt g rfl).2, fun o => by simp [World.frozen?, hg], fun j u hu => ?_⟩⟩
  have := hc g rfl j u hu
  rwa [Addr.add_lit, Nat.zero_add] at this
structure SOw (w : World) (B : Nat) (v : Value) (V : List Value) (ss : List (List Int)) : Prop where
 len : V.length = ss.length
 row : w.ownsRow B 102 1 v ss.length V
 own : ∀ i, i < ss.length → Ob w B (uAt V i) (shAt ss i) ∧ byt (shAt ss i)
 apart : ∀ i j, i < ss.length → j < ss.length → i ≠ j → ∀ y, (uAt V i).ownBlock = some y → (uAt V j).ownBlock ≠ some y
 off : ∀ i, i < ss.length → ∀ y, (uAt V i).ownBlock = some y → v.ownBlock ≠ some y
def sbl (v : Value) (V : List Value) (y : Nat) : Prop := v.ownBlock = some y ∨ ∃ i, i < V.length ∧ (uAt V i).ownBlock = some y
theorem SOw.to {w w' : World} {B : Nat} {R : Nat → Prop} {v : Value} {V : List Value} {ss : List (List Int)} (h : SOw w B v V ss) (ho : Only R w w') (hR : ∀ y, sbl v V y → ¬ R y) : SOw w' B v V ss :=
 ⟨h.len, own_kept h.row ho (fun y e => hR y (.inl e)), fun i hi => ⟨own_kept (h.own i hi).1 ho (fun y e => hR y (.inr ⟨i, by rw [h.len]; exact hi, e⟩)), (h.own i hi).2⟩, h.apart, h.off⟩
theorem SOw.below {w w' : World} {B : Nat} {v : Value} {V : List Value} {ss : List (List Int)} (h : SOw w B v V ss) (hb : Below w.heap.size w w') : SOw w' B v V ss := h.to (only_of_below hb (fun _ => False)) (fun _ _ h => h)
theorem SOw.base {w : World} {B B' : Nat} {v : Value} {V : List Value} {ss : List (List Int)} (h : SOw w B v V ss) (hB : B' ≤ B) : SOw w B' v V ss :=
 ⟨h.len, ownD_base h.row hB, fun i hi => ⟨ownD_base (h.own i hi).1 hB, (h.own i hi).2⟩, h.apart, h.off⟩
theorem SOw.lt {w : World} {B : Nat} {v : Value} {V : List Value} {ss : List (List Int)} (h : SOw w B v V ss) {y : Nat} (hy : sbl v V y) : B ≤ y ∧ y < w.heap.size := by
 rcases hy with e | ⟨i, hi, e⟩
 ·exact World.ownsRow.lt h.row y e
 ·exact World.ownsRow.lt (h.own i (by rw [← h.len]; exact hi)).1 y e
theorem SOw.shr {w : World} {B : Nat} {v : Value} {V : List Value} {ss : List (List Int)} (h : SOw w B v V ss) {S : Nat → Prop} (hS : ∀ y, sbl v V y → S y) : Shr w S v ss :=
 ⟨V, h.len, rw_own h.row (fun k e _ _ => hS k (.inl e)), fun i hi => by_ob (h.own i hi).1 (h.own i hi).2 (fun k e _ _ => hS k (.inr ⟨i, by rw [h.len]; exact hi, e⟩))⟩
theorem so_nil (w : World) (B : Nat) : SOw w B (.slice none 0 0) [] [] := ⟨rfl, World.ownsRow_nil _ _ _ _, fun i hi => by simp at hi, fun i j hi => by simp at hi, fun i hi => by simp at hi⟩
theorem uAt_left {V : List Value} {p : Value} {i : Nat} (h : i < V.length) : uAt (V ++ [p]) i = uAt V i := by simp [uAt, List.getElem?_append_left h]
theorem uAt_end (V : List Value) (p : Value) : uAt (V ++ [p]) V.length = p := by simp [uAt]
theorem shAt_left {V : List (List Int)} {p : List Int} {i : Nat} (h : i < V.length) : shAt (V ++ [p]) i = shAt V i := by simp [shAt, List.getElem?_append_left h]
theorem shAt_end (V : List (List Int)) (p : List Int) : shAt (V ++ [p]) V.length = p := by simp [shAt]
theorem uAt_set {V : List Value} {p : Value} {i : Nat} (h : i < V.length) : uAt (V.set i p) i = p := by simp [uAt, h]
theorem uAt_other {V : List Value} {p : Value} {i j : Nat} (h : i ≠ j) : uAt (V.set j p) i = uAt V i := by simp [uAt, Ne.symm h]
theorem SOw.push {u w2 : World} {B : Nat} {v v' : Value} {V : List Value} {ss : List (List Int)} (h : SOw u B v V ss) (x : List Int) (p : Value) (hx : Ob u B p x) (hxb : byt x) (hd : ∀ y, p.ownBlock = some y → ¬ sbl v V y)
  (ho : w2.ownsRow B 102 1 v' (ss.length + 1) (V ++ [p])) (hg : u.grownBy w2 v.ownBlock) (ha : v'.ownBlock = v.ownBlock ∨ v'.ownBlock = some u.heap.size) :
  SOw w2 B v' (V ++ [p]) (ss ++ [x]) := by
 have o : Only (fun y => v.ownBlock = some y) u w2 := only_of_grown hg (fun k e => e)
 have hl := h.len
 have hat : ∀ i, i < (ss ++ [x]).length → (i < ss.length ∧ uAt (V ++ [p]) i = uAt V i ∧ shAt (ss ++ [x]) i = shAt ss i) ∨ (i = ss.length ∧ uAt (V ++ [p]) i = p ∧ shAt (ss ++ [x]) i = x) := by
  intro i hi
  simp at hi
  by_cases e : i < ss.length
  ·exact .inl ⟨e, uAt_left (by omega), shAt_left e⟩
  ·obtain rfl : i = ss.length := by omega
   exact .inr ⟨rfl, by rw [← hl, uAt_end], shAt_end _ _⟩
 refine ⟨by simp [hl], by rw [List.length_append]; exact ho, fun i hi => ?_, fun i j hi hj hij y hy hz => ?_, fun i hi y hy hv => ?_⟩
 ·rcases hat i hi with ⟨e, e1, e2⟩ | ⟨e, e1, e2⟩
  ·rw [e1, e2]; exact ⟨own_kept (h.own i e).1 o (h.off i e), (h.own i e).2⟩
  ·rw [e1, e2]; exact ⟨own_kept hx o (fun y hy e => hd y hy (.inl e)), hxb⟩
 ·rcases hat i hi with ⟨e, e1, _⟩ | ⟨e, e1, _⟩
  ·rw [e1] at hy
   rcases hat j hj with ⟨d, d1, _⟩ | ⟨d, d1, _⟩
   ·rw [d1] at hz; exact h.apart i j e d hij y hy hz
   ·rw [d1] at hz; exact hd y hz (.inr ⟨i, by omega, hy⟩)
  ·rw [e1] at hy
   rcases hat j hj with ⟨d, d1, _⟩ | ⟨d, d1, _⟩
   ·rw [d1] at hz; exact hd y hy (.inr ⟨j, by omega, hz⟩)
   ·omega
 ·have : y < u.heap.size ∧ v.ownBlock ≠ some y := by
   rcases hat i hi with ⟨e, e1, _⟩ | ⟨e, e1, _⟩
   ·rw [e1] at hy; exact ⟨(World.ownsRow.lt (h.own i e).1 y hy).2, h.off i e y hy⟩
   ·rw [e1] at hy; exact ⟨(World.ownsRow.lt hx y hy).2, fun e => hd y hy (.inl e)⟩
  rcases ha with ha | ha
  ·rw [ha] at hv; exact this.2 hv
  ·rw [ha] at hv; cases hv; omega
structure WO (w : World) (B : Nat) (v : Value) (U : List (Int × Value)) (ds : List DW) : Prop where
 len : U.length = ds.length
 row : w.ownsRow B 103 2 v ds.length (wcs U)
 own : ∀ i, i < ds.length → (xAt U i).1 = (dwAt ds i).1 ∧ Ob w B (xAt U i).2 (dwAt ds i).2 ∧ byt (dwAt ds i).2
 apart : ∀ i j, i < ds.length → j < ds.length → i ≠ j → ∀ y, (xAt U i).2.ownBlock = some y → (xAt U j).2.ownBlock ≠ some y
 off : ∀ i, i < ds.length → ∀ y, (xAt U i).2.ownBlock = some y → v.ownBlock ≠ some y
def wbl (v : Value) (U : List (Int × Value)) (y : Nat) : Prop := v.ownBlock = some y ∨ ∃ i, i < U.length ∧ (xAt U i).2.ownBlock = some y
theorem WO.to {w w' : World} {B : Nat} {R : Nat → Prop} {v : Value} {U : List (Int × Value)} {ds : List DW} (h : WO w B v U ds) (ho : Only R w w') (hR : ∀ y, wbl v U y → ¬ R y) : WO w' B v U ds :=
 ⟨h.len, own_kept h.row ho (fun y e => hR y (.inl e)), fun i hi => ⟨(h.own i hi).1, own_kept (h.own i hi).2.1 ho (fun y e => hR y (.inr ⟨i, by rw [h.len]; exact hi, e⟩)), (h.own i hi).2.2⟩, h.apart, h.off⟩
theorem WO.below {w w' : World} {B : Nat} {v : Value} {U : List (Int × Value)} {ds : List DW} (h : WO w B v U ds) (hb : Below w.heap.size w w') : WO w' B v U ds := h.to (only_of_below hb (fun _ => False)) (fun _ _ h => h)
theorem WO.base {w : World} {B B' : Nat} {v : Value} {U : List (Int × Value)} {ds : List DW} (h : WO w B v U ds) (hB : B' ≤ B) : WO w B' v U ds :=
 ⟨h.len, ownD_base h.row hB, fun i hi => ⟨(h.own i hi).1, ownD_base (h.own i hi).2.1 hB, (h.own i hi).2.2⟩, h.apart, h.off⟩
theorem WO.lt {w : World} {B : Nat} {v : Value} {U : List (Int × Value)} {ds : List DW} (h : WO w B v U ds) {y : Nat} (hy : wbl v U y) : B ≤ y ∧ y < w.heap.size := by
 rcases hy with e | ⟨i, hi, e⟩
 ·exact World.ownsRow.lt h.row y e
 ·exact World.ownsRow.lt (h.own i (by rw [← h.len]; exact hi)).2.1 y e
theorem WO.wrr {w : World} {B : Nat} {v : Value} {U : List (Int × Value)} {ds : List DW} (h : WO w B v U ds) {S : Nat → Prop} (hS : ∀ y, wbl v U y → S y) : Wrr w S v ds :=
 ⟨U, h.len, rw_own h.row (fun k e _ _ => hS k (.inl e)), fun i hi => ⟨(h.own i hi).1, by_ob (h.own i hi).2.1 (h.own i hi).2.2 (fun k e _ _ => hS k (.inr ⟨i, by rw [h.len]; exact hi, e⟩))⟩⟩
theorem wo_nil (w : World) (B : Nat) : WO w B (.slice none 0 0) [] [] := ⟨rfl, World.ownsRow_nil _ _ _ _, fun i hi => by simp at hi, fun i j hi => by simp at hi, fun i hi => by simp at hi⟩
theorem xAt_left {U : List (Int × Value)} {p : Int × Value} {i : Nat} (h : i < U.length) : xAt (U ++ [p]) i = xAt U i := by simp [xAt, List.getElem?_append_left h]
theorem xAt_end (U : List (Int × Value)) (p : Int × Value) : xAt (U ++ [p]) U.length = p := by simp [xAt]
theorem wAt_left {U : List DW} {p : DW} {i : Nat} (h : i < U.length) : dwAt (U ++ [p]) i = dwAt U i := by simp [dwAt, List.getElem?_append_left h]
theorem wAt_end (U : List DW) (p : DW) : dwAt (U ++ [p]) U.length = p := by simp [dwAt]
theorem xAt_set {V : List (Int × Value)} {p : Int × Value} {i : Nat} (h : i < V.length) : xAt (V.set i p) i = p := by simp [xAt, h]
theorem xAt_other {V : List (Int × Value)} {p : Int × Value} {i j : Nat} (h : i ≠ j) : xAt (V.set j p) i = xAt V i := by simp [xAt, Ne.symm h]
theorem WO.push {u w2 : World} {B : Nat} {v v' : Value} {U : List (Int × Value)} {ds : List DW} (h : WO u B v U ds) (t : Int) (x : List Int) (p : Value) (hx : Ob u B p x) (hxb : byt x) (hd : ∀ y, p.ownBlock = some y → ¬ wbl v U y)
  (ho : w2.ownsRow B 103 2 v' (ds.length + 1) (wcs U ++ [.int .i64 t, p])) (hg : u.grownBy w2 v.ownBlock) (ha : v'.ownBlock = v.ownBlock ∨ v'.ownBlock = some u.heap.size) :
  WO w2 B v' (U ++ [(t, p)]) (ds ++ [(t, x)]) := by
 have o : Only (fun y => v.ownBlock = some y) u w2 := only_of_grown hg (fun k e => e)
 have hl := h.len
 have hat : ∀ i, i < (ds ++ [(t, x)]).length → (i < ds.length ∧ xAt (U ++ [(t, p)]) i = xAt U i ∧ dwAt (ds ++ [(t, x)]) i = dwAt ds i) ∨ (i = ds.length ∧ xAt (U ++ [(t, p)]) i = (t, p) ∧ dwAt (ds ++ [(t, x)]) i = (t, x)) := by
  intro i hi
  simp at hi
  by_cases e : i < ds.length
  ·exact .inl ⟨e, xAt_left (by omega), wAt_left e⟩
  ·obtain rfl : i = ds.length := by omega
   exact .inr ⟨rfl, by rw [← hl, xAt_end], wAt_end _ _⟩
 refine ⟨by simp [hl], by rw [List.length_append, wcs_append]; exact ho, fun i hi => ?_, fun i j hi hj hij y hy hz => ?_, fun i hi y hy hv => ?_⟩
 ·rcases hat i hi with ⟨e, e1, e2⟩ | ⟨e, e1, e2⟩
  ·rw [e1, e2]; exact ⟨(h.own i e).1, own_kept (h.own i e).2.1 o (h.off i e), (h.own i e).2.2⟩
  ·rw [e1, e2]; exact ⟨rfl, own_kept hx o (fun y hy e => hd y hy (.inl e)), hxb⟩
 ·rcases hat i hi with ⟨e, e1, _⟩ | ⟨e, e1, _⟩
  ·rw [e1] at hy
   rcases hat j hj with ⟨d, d1, _⟩ | ⟨d, d1, _⟩
   ·rw [d1] at hz; exact h.apart i j e d hij y hy hz
   ·rw [d1] at hz; exact hd y hz (.inr ⟨i, by omega, hy⟩)
  ·rw [e1] at hy
   rcases hat j hj with ⟨d, d1, _⟩ | ⟨d, d1, _⟩
   ·rw [d1] at hz; exact hd y hy (.inr ⟨j, by omega, hz⟩)
   ·omega
 ·have : y < u.heap.size ∧ v.ownBlock ≠ some y := by
   rcases hat i hi with ⟨e, e1, _⟩ | ⟨e, e1, _⟩
   ·rw [e1] at hy; exact ⟨(World.ownsRow.lt (h.own i e).2.1 y hy).2, h.off i e y hy⟩
   ·rw [e1] at hy; exact ⟨(World.ownsRow.lt hx y hy).2, fun e => hd y hy (.inl e)⟩
  rcases ha with ha | ha
  ·rw [ha] at hv; exact this.2 hv
  ·rw [ha] at hv; cases hv; omega
structure DO (w : World) (B : Nat) (sv : Value) (V : List Value) (dv : Value) (U : List (Int × Value)) (d : DK) : Prop where
 hs : SOw w B sv V d.sh
 hd : WO w B dv U d.dw
 ap : ∀ y, sbl sv V y → ¬ wbl dv U y
def dbl (sv : Value) (V : List Value) (dv : Value) (U : List (Int × Value)) (y : Nat) : Prop := sbl sv V y ∨ wbl dv U y
theorem DO.to {w w' : World} {B : Nat} {R : Nat → Prop} {sv dv : Value} {V : List Value} {U : List (Int × Value)} {d : DK} (h : DO w B sv V dv U d) (ho : Only R w w') (hR : ∀ y, dbl sv V dv U y → ¬ R y) : DO w' B sv V dv U d := ⟨h.hs.to ho (fun y e => hR y (.inl e)), h.hd.to ho (fun y e => hR y (.inr e)), h.ap⟩
theorem DO.below {w w' : World} {B : Nat} {sv dv : Value} {V : List Value} {U : List (Int × Value)} {d : DK} (h : DO w B sv V dv U d) (hb : Below w.heap.size w w') : DO w' B sv V dv U d := ⟨h.hs.below hb, h.hd.below hb, h.ap⟩
theorem DO.base {w : World} {B B' : Nat} {sv dv : Value} {V : List Value} {U : List (Int × Value)} {d : DK} (h : DO w B sv V dv U d) (hB : B' ≤ B) : DO w B' sv V dv U d := ⟨h.hs.base hB, h.hd.base hB, h.ap⟩
theorem DO.lt {w : World} {B : Nat} {sv dv : Value} {V : List Value} {U : List (Int × Value)} {d : DK} (h : DO w B sv V dv U d) {y : Nat} (hy : dbl sv V dv U y) : B ≤ y ∧ y < w.heap.size := hy.elim h.hs.lt h.hd.lt
theorem DO.dk {w : World} {B : Nat} {sa da : Option Addr} {sn sc dn dc : Nat} {V : List Value} {U : List (Int × Value)} {d : DK} (h : DO w B (.slice sa sn sc) V (.slice da dn dc) U d) {S : Nat → Prop} (hS : ∀ y, dbl (.slice sa sn sc) V (.slice da dn dc) U y → S y) : Dk w S sa sn sc da dn dc d := ⟨h.hs.shr (fun y e => hS y (.inl e)), h.hd.wrr (fun y e => hS y (.inr e))⟩
theorem do_nil (w : World) (B : Nat) : DO w B (.slice none 0 0) [] (.slice none 0 0) [] ⟨[], []⟩ := ⟨so_nil w B, wo_nil w B, fun y hy => by
 rcases hy with e | ⟨i, hi, _⟩
 ·cases e
 ·simp at hi⟩
open Go.RowKit
set_option maxHeartbeats 2000000 in
theorem eqStringS_at (S S' : Nat → Prop) (a a' : Option Addr) (n n' c c' : Nat) (l l' : List ByteArray) (w : World) (h : Sr w S (.slice a n c) l) (h' : Sr w S' (.slice a' n' c') l') :
  Calls Tryz.prog 155 #[.slice a n c, .slice a' n' c'] w fun e w' => e = .returned (.bool (decide (l = l'))) ∧ Below w.heap.size w w' := by
 obtain ⟨hn, hnc, hcc⟩ := Rw.len h
 obtain ⟨hn', hnc', hcc'⟩ := Rw.len h'
 have HN := hid hn
 have HN' := hid hn'
 have H0 := hid h
 have H0' := hid h'
 clear h h' hn hn'
 by_cases hne : n = n'
 ·subst hne
  have hz : ((n : Int) != (n : Int)) = false := by simp
  go_enter Tryz.func155, Tryz.ntmps155
  go_wp2
  go_loopw [5] (fun i wr => ∃ k : Nat, k ≤ n ∧ i = .int .i64 k ∧ Hid (Below w.heap.size w wr) ∧ Hid (l.take k = l'.take k)) (fun i _ => n - (intOf i).toNat)
  case atStart => exact ⟨0, Nat.zero_le _, rfl, Below.refl _ _, rfl⟩
  case round =>
   obtain ⟨k, hk, rfl, HB, HT⟩ := hrel
   by_cases hlt : k < n
   ·have hlt' : (k : Int) < (n : Int) := by omega
    have HP := hid (H0.out.below HB.out)
    have HP' := hid (H0'.out.below HB.out)
    obtain ⟨b, off, rfl, _, hbw, hcell⟩ := HP.out.at (by omega)
    obtain ⟨b', off', rfl, _, hbw', hcell'⟩ := HP'.out.at (by omega)
    have hck := hcell k hlt
    have hck' := hcell' k hlt
    have HS : Hid (sAt l k = sAt l' k → l.take (k + 1) = l'.take (k + 1)) := by
     intro e
     have hl : k < l.length := by rw [← HN.out]; exact hlt
     have hl' : k < l'.length := by rw [← HN'.out]; exact hlt
     rw [List.take_succ_eq_append_getElem hl, List.take_succ_eq_append_getElem hl', HT.out]
     simp [sAt, hl, hl'] at e
     rw [e]
    have HF : Hid (sAt l k ≠ sAt l' k → decide (l = l') = false) := by
     intro e
     rw [decide_eq_false_iff_not]
     intro e'
     exact e (by rw [e'])
    clear hcell hcell' hbw hbw' HP HP' HT
    generalize sAt l k = ck at *
    generalize sAt l' k = ck' at *
    by_cases he : ck = ck'
    ·have HS1 := hid (HS.out he)
     subst he
     skip
     clear HS HF
     go_wp2
     go_quiet (fail)
     go_wp2
     go_roundw
     case rel => exact ⟨k + 1, by omega, by go_num, Below.drewN' HB.out _, HS1.out⟩
     case measure => simp [intOf]; omega
    ·have HF1 := hid (HF.out he)
     have t := str_beq he
     clear he HS HF
     go_wp2
     go_quiet (fail)
     go_wp2
     go_ret
     exact ⟨by rw [HF1.out]; rfl, Below.drewN' HB.out _⟩
   ·have HF : Hid (decide (l = l') = true) := by
     show decide (l = l') = true
     have hk' : k = n := by omega
     have e := HT.out
     have e1 : l.length ≤ k := by rw [← HN.out]; omega
     have e2 : l'.length ≤ k := by rw [← HN'.out]; omega
     rw [List.take_of_length_le e1, List.take_of_length_le e2] at e
     simp [e]
    clear HT
    go_wp2
    go_ret
    exact ⟨by rw [HF.out]; rfl, HB.out⟩
 ·have hz : ((n : Int) != (n' : Int)) = true := by simp; omega
  have HF : Hid (decide (l = l') = false) := by
   show decide (l = l') = false
   rw [decide_eq_false_iff_not]
   intro e
   exact hne (by rw [HN.out, HN'.out, e])
  clear hne
  go_enter Tryz.func155, Tryz.ntmps155
  go_wp2
  go_ret
  exact ⟨by rw [HF.out]; rfl, Below.refl _ _⟩
set_option maxHeartbeats 2000000 in
theorem eqIntS_at (S S' : Nat → Prop) (a a' : Option Addr) (n n' c c' : Nat) (l l' : List Int) (w : World) (h : Ir w S (.slice a n c) l) (h' : Ir w S' (.slice a' n' c') l') :
  Calls Tryz.prog 33 #[.slice a n c, .slice a' n' c'] w fun e w' => e = .returned (.bool (decide (l = l'))) ∧ Below w.heap.size w w' := by
 obtain ⟨hn, hnc, hcc⟩ := Rw.len h
 obtain ⟨hn', hnc', hcc'⟩ := Rw.len h'
 have HN := hid hn
 have HN' := hid hn'
 have H0 := hid h
 have H0' := hid h'
 clear h h' hn hn'
 by_cases hne : n = n'
 ·subst hne
  have hz : ((n : Int) != (n : Int)) = false := by simp
  go_enter Tryz.func33, Tryz.ntmps33
  go_wp2
  go_loopw [5] (fun i wr => ∃ k : Nat, k ≤ n ∧ i = .int .i64 k ∧ Hid (Below w.heap.size w wr) ∧ Hid (l.take k = l'.take k)) (fun i _ => n - (intOf i).toNat)
  case atStart => exact ⟨0, Nat.zero_le _, rfl, Below.refl _ _, rfl⟩
  case round =>
   obtain ⟨k, hk, rfl, HB, HT⟩ := hrel
   by_cases hlt : k < n
   ·have hlt' : (k : Int) < (n : Int) := by omega
    have HP := hid (H0.out.below HB.out)
    have HP' := hid (H0'.out.below HB.out)
    obtain ⟨b, off, rfl, _, hbw, hcell⟩ := HP.out.at (by omega)
    obtain ⟨b', off', rfl, _, hbw', hcell'⟩ := HP'.out.at (by omega)
    have hck := hcell k hlt
    have hck' := hcell' k hlt
    have HS : Hid (iAt l k = iAt l' k → l.take (k + 1) = l'.take (k + 1)) := by
     intro e
     have hl : k < l.length := by rw [← HN.out]; exact hlt
     have hl' : k < l'.length := by rw [← HN'.out]; exact hlt
     rw [List.take_succ_eq_append_getElem hl, List.take_succ_eq_append_getElem hl', HT.out]
     simp [iAt, hl, hl'] at e
     rw [e]
    have HF : Hid (iAt l k ≠ iAt l' k → decide (l = l') = false) := by
     intro e
     rw [decide_eq_false_iff_not]
     intro e'
     exact e (by rw [e'])
    clear hcell hcell' hbw hbw' HP HP' HT
    generalize iAt l k = ck at *
    generalize iAt l' k = ck' at *
    by_cases he : ck = ck'
    ·have HS1 := hid (HS.out he)
     subst he
     have t : (ck != ck) = false := by simp
     clear HS HF
     go_wp2
     go_quiet (fail)
     go_wp2
     go_roundw
     case rel => exact ⟨k + 1, by omega, by go_num, Below.drewN' HB.out _, HS1.out⟩
     case measure => simp [intOf]; omega
    ·have HF1 := hid (HF.out he)
     have t : (ck != ck') = true := by simp [he]
     clear he HS HF
     go_wp2
     go_quiet (fail)
     go_wp2
     go_ret
     exact ⟨by rw [HF1.out]; rfl, Below.drewN' HB.out _⟩
   ·have HF : Hid (decide (l = l') = true) := by
     show decide (l = l') = true
     have hk' : k = n := by omega
     have e := HT.out
     have e1 : l.length ≤ k := by rw [← HN.out]; omega
     have e2 : l'.length ≤ k := by rw [← HN'.out]; omega
     rw [List.take_of_length_le e1, List.take_of_length_le e2] at e
     simp [e]
    clear HT
    go_wp2
    go_ret
    exact ⟨by rw [HF.out]; rfl, HB.out⟩
 ·have hz : ((n : Int) != (n' : Int)) = true := by simp; omega
  have HF : Hid (decide (l = l') = false) := by
   show decide (l = l') = false
   rw [decide_eq_false_iff_not]
   intro e
   exact hne (by rw [HN.out, HN'.out, e])
  clear hne
  go_enter Tryz.func33, Tryz.ntmps33
  go_wp2
  go_ret
  exact ⟨by rw [HF.out]; rfl, Below.refl _ _⟩
open Go.RowKit
open Go.RowKit
theorem load_sht {w : World} {g : Nat} {x : Value} (c0 : w.cell? ⟨g, 0, none⟩ = some x) : (loadVar 102 ⟨g, 0, none⟩).run Tryz.prog w = .ok (.agg #[x]) w := by go_simp
theorem results_sht {fn : Func} {p : Tmp} (h : fn.results = #[.cell p 102]) (tmps : Array Value) (w : World) (g : Nat) {x : Value} (hp : tmps.getD p undef = .pointer (some ⟨g, 0, none⟩))
  (c0 : w.cell? ⟨g, 0, none⟩ = some x) : (results fn tmps).run Tryz.prog w = .ok (.agg #[x]) w := by
 have hp' : tmps[p]?.getD undef = .pointer (some ⟨g, 0, none⟩) := by simpa using hp
 simp [results, h, hp', asAddr, load_sht c0]
theorem load_wrt {w : World} {g : Nat} {x y : Value} (c0 : w.cell? ⟨g, 0, none⟩ = some x) (c1 : w.cell? ⟨g, 1, none⟩ = some y) : (loadVar 103 ⟨g, 0, none⟩).run Tryz.prog w = .ok (.agg #[x, y]) w := by go_simp
theorem results_wrt {fn : Func} {p : Tmp} (h : fn.results = #[.cell p 103]) (tmps : Array Value) (w : World) (g : Nat) {x y : Value} (hp : tmps.getD p undef = .pointer (some ⟨g, 0, none⟩))
  (c0 : w.cell? ⟨g, 0, none⟩ = some x) (c1 : w.cell? ⟨g, 1, none⟩ = some y) : (results fn tmps).run Tryz.prog w = .ok (.agg #[x, y]) w := by
 have hp' : tmps[p]?.getD undef = .pointer (some ⟨g, 0, none⟩) := by simpa using hp
 simp [results, h, hp', asAddr, load_wrt c0 c1]
theorem load_dsk {w : World} {g : Nat} {x y : Value} (c0 : w.cell? ⟨g, 0, none⟩ = some x) (c1 : w.cell? ⟨g, 1, none⟩ = some y) : (loadVar 30 ⟨g, 0, none⟩).run Tryz.prog w = .ok (.agg #[x, y]) w := by go_simp
theorem results_dsk {fn : Func} {p : Tmp} (h : fn.results = #[.cell p 30]) (tmps : Array Value) (w : World) (g : Nat) {x y : Value} (hp : tmps.getD p undef = .pointer (some ⟨g, 0, none⟩))
  (c0 : w.cell? ⟨g, 0, none⟩ = some x) (c1 : w.cell? ⟨g, 1, none⟩ = some y) : (results fn tmps).run Tryz.prog w = .ok (.agg #[x, y]) w := by
 have hp' : tmps[p]?.getD undef = .pointer (some ⟨g, 0, none⟩) := by simpa using hp
 simp [results, h, hp', asAddr, load_dsk c0 c1]
theorem infoSheetI : (Tryz.prog.info? 102).map (fun i => (i.zero, i.size, i.bytes)) = some (some (.agg #[.slice none 0 0]), 1, 24) := by kernel_rfl
theorem infoWriteI : (Tryz.prog.info? 103).map (fun i => (i.zero, i.size, i.bytes)) = some (some (.agg #[.int .i64 0, .slice none 0 0]), 2, 32) := by kernel_rfl
theorem made_sheets (n : Nat) : madeCells (Value.agg #[.slice none 0 0]).cells (n * 1) = (List.replicate n (Value.slice none 0 0)).toArray := by
 apply Array.ext
 ·simp [madeCells]
 ·intro i h1 h2; simp [madeCells, Value.cells, Nat.mod_one]
theorem made_writes (n : Nat) : madeCells (Value.agg #[.int .i64 0, .slice none 0 0]).cells (n * 2) = (wcs (List.replicate n (0, .slice none 0 0))).toArray := by
 apply Array.ext
 ·simp [madeCells, wcs_length]
 ·intro i h1 h2
  simp [wcs_length] at h2
  simp only [madeCells, List.getElem_toArray]
  obtain ⟨c0, c1⟩ := wcs_at (List.replicate n ((0, .slice none 0 0) : Int × Value)) (i / 2) (by simp; omega)
  simp [xAt, show i / 2 < n by omega] at c0 c1
  have : i % 2 = 0 ∨ i % 2 = 1 := by omega
  rcases this with e | e
  ·rw [show i / 2 * 2 = i by omega] at c0
   rw [(List.getElem?_eq_some_iff.1 c0).2]
   simp [Value.cells, e]
  ·rw [show i / 2 * 2 + 1 = i by omega] at c1
   rw [(List.getElem?_eq_some_iff.1 c1).2]
   simp [Value.cells, e]
set_option maxHeartbeats 2000000 in
theorem toSheet_any (a : Option Addr) (n c : Nat) (zs : List Int) (w : World) (h : Rd w a n c zs) :
  Calls Tryz.prog 72 #[.agg #[.slice a n c]] w fun e w' => ∃ g, e = .returned (.agg #[.slice (some ⟨g, 0, none⟩) n n]) ∧ w.heap.size ≤ g ∧ Bk w' g 5 (zs.map (Value.int .u8)) ∧ Below w.heap.size w w' := by
 have H0 := hid h
 clear h
 have HB0 : Hid (Below w.heap.size w (((w.alloc (.cells #[.slice a n c] 98)).alloc (.cells #[.slice none 0 0] 102)).alloc (.cells #[.slice none 0 0] 102))) := below_new (below_new (below_new (Below.refl _ _)))
 have KR : Hid (Bk (((w.alloc (.cells #[.slice a n c] 98)).alloc (.cells #[.slice none 0 0] 102)).alloc (.cells #[.slice none 0 0] 102)) (w.heap.size + 1) 102 [.slice none 0 0]) := by
  have := (Bk.new (w.alloc (.cells #[.slice a n c] 98)) 102 [.slice none 0 0]).alloc (.cells #[.slice none 0 0] 102)
  show Bk _ _ _ _
  simpa using this
 have KO : Hid (Bk (((w.alloc (.cells #[.slice a n c] 98)).alloc (.cells #[.slice none 0 0] 102)).alloc (.cells #[.slice none 0 0] 102)) (w.heap.size + 1 + 1) 102 [.slice none 0 0]) := by
  have := Bk.new ((w.alloc (.cells #[.slice a n c] 98)).alloc (.cells #[.slice none 0 0] 102)) 102 [.slice none 0 0]
  show Bk _ _ _ _
  simpa using this
 have HZ : Hid ((((w.alloc (.cells #[.slice a n c] 98)).alloc (.cells #[.slice none 0 0] 102)).alloc (.cells #[.slice none 0 0] 102)).heap.size = w.heap.size + 3) := by show _ = _; simp
 go_enter Tryz.func72, Tryz.ntmps72
 go_wp2_with fail
 refine (toByteS_any a n c zs _ (H0.out.kept HB0.out)).mono ?_
 generalize ((w.alloc (.cells #[.slice a n c] 98)).alloc (.cells #[.slice none 0 0] 102)).alloc (.cells #[.slice none 0 0] 102) = W at *
 rintro e w1 ⟨rfl, hw1⟩
 have K0 : Bk w1 W.heap.size 5 (zs.map (Value.int .u8)) := by rw [hw1]; exact Bk.new _ _ _
 have hb1 : Below W.heap.size W w1 := by rw [hw1]; exact below_new (Below.refl _ _)
 have HB1 := hid (HB0.out.trans (hb1.mono HB0.out.size))
 have KR1 := hid (KR.out.below hb1)
 have KO1 := hid (KO.out.below hb1)
 have K01 := hid K0
 clear hb1 K0 KR KO HB0 hw1
 generalize W.heap.size = g at *
 have c0 := KO1.out.cell (j := 0) rfl
 have f0 := KO1.out.free 0
 have r0 := KR1.out.cell (j := 0) rfl
 have q0 := KR1.out.free 0
 go_wp2
 try simp only [Exit.inBlock, Exit.then]
 refine bodyPost_ret (v := .agg #[.slice (some ⟨g, 0, none⟩) n n]) ?_ rfl ?_
 ·refine results_sht rfl _ _ _ rfl ?_
  ·go_simp
 ·have HZ' := HZ.out
  refine ⟨g, rfl, by omega, ?_, (HB1.out.setCell (by show w.heap.size ≤ w.heap.size + 1 + 1; omega) _).setCell (by show w.heap.size ≤ w.heap.size + 1; omega) _⟩
  exact (K01.out.setOther (by omega) _ _).setOther (by omega) _ _
set_option maxHeartbeats 2000000 in
theorem toWrite_any (t : Int) (a : Option Addr) (n c : Nat) (zs : List Int) (w : World) (h : Rd w a n c zs) :
  Calls Tryz.prog 73 #[.agg #[.int .i64 t, .slice a n c]] w fun e w' => ∃ g, e = .returned (.agg #[.int .i64 t, .slice (some ⟨g, 0, none⟩) n n]) ∧ w.heap.size ≤ g ∧ Bk w' g 5 (zs.map (Value.int .u8)) ∧ Below w.heap.size w w' := by
 have H0 := hid h
 clear h
 have HB2 : Hid (Below w.heap.size w (((w.alloc (.cells #[.int .i64 t, .slice a n c] 101)).alloc (.cells #[.int .i64 0, .slice none 0 0] 103)).alloc (.cells #[.int .i64 t, .slice none 0 0] 103))) := below_new (below_new (below_new (Below.refl _ _)))
 have KP2 : Hid (Bk (((w.alloc (.cells #[.int .i64 t, .slice a n c] 101)).alloc (.cells #[.int .i64 0, .slice none 0 0] 103)).alloc (.cells #[.int .i64 t, .slice none 0 0] 103)) w.heap.size 101 [.int .i64 t, .slice a n c]) := ((Bk.new w 101 [.int .i64 t, .slice a n c]).alloc _).alloc _
 have KR2 : Hid (Bk (((w.alloc (.cells #[.int .i64 t, .slice a n c] 101)).alloc (.cells #[.int .i64 0, .slice none 0 0] 103)).alloc (.cells #[.int .i64 t, .slice none 0 0] 103)) (w.heap.size + 1) 103 [.int .i64 0, .slice none 0 0]) := by
  have := (Bk.new (w.alloc (.cells #[.int .i64 t, .slice a n c] 101)) 103 [.int .i64 0, .slice none 0 0]).alloc (.cells #[.int .i64 t, .slice none 0 0] 103)
  show Bk _ _ _ _
  simpa using this
 have KO2 : Hid (Bk (((w.alloc (.cells #[.int .i64 t, .slice a n c] 101)).alloc (.cells #[.int .i64 0, .slice none 0 0] 103)).alloc (.cells #[.int .i64 t, .slice none 0 0] 103)) (w.heap.size + 1 + 1) 103 [.int .i64 t, .slice none 0 0]) := by
  have := Bk.new ((w.alloc (.cells #[.int .i64 t, .slice a n c] 101)).alloc (.cells #[.int .i64 0, .slice none 0 0] 103)) 103 [.int .i64 t, .slice none 0 0]
  show Bk _ _ _ _
  simpa using this
 have HZ2 : Hid ((((w.alloc (.cells #[.int .i64 t, .slice a n c] 101)).alloc (.cells #[.int .i64 0, .slice none 0 0] 103)).alloc (.cells #[.int .i64 t, .slice none 0 0] 103)).heap.size = w.heap.size + 3) := by show _ = _; simp
 go_enter Tryz.func73, Tryz.ntmps73
 go_wp2_with fail
 refine (toByteS_any a n c zs _ (H0.out.kept HB2.out)).mono ?_
 generalize ((w.alloc (.cells #[.int .i64 t, .slice a n c] 101)).alloc (.cells #[.int .i64 0, .slice none 0 0] 103)).alloc (.cells #[.int .i64 t, .slice none 0 0] 103) = W2 at *
 rintro e w1 ⟨rfl, hw1⟩
 have K0 : Bk w1 W2.heap.size 5 (zs.map (Value.int .u8)) := by rw [hw1]; exact Bk.new _ _ _
 have hb1 : Below W2.heap.size W2 w1 := by rw [hw1]; exact below_new (Below.refl _ _)
 have HB1 := hid (HB2.out.trans (hb1.mono HB2.out.size))
 have KR1 := hid (KR2.out.below hb1)
 have KO1 := hid (KO2.out.below hb1)
 have K01 := hid K0
 clear hb1 K0 KR2 KO2 HB2 hw1 KP2
 generalize W2.heap.size = g at *
 have c0 := KO1.out.cell (j := 0) rfl
 have c1 := KO1.out.cell (j := 1) rfl
 have f1 := KO1.out.free 1
 have r0 := KR1.out.cell (j := 0) rfl
 have r1 := KR1.out.cell (j := 1) rfl
 have q0 := KR1.out.free 0
 have q1 := KR1.out.free 1
 go_wp2
 try simp only [Exit.inBlock, Exit.then]
 refine bodyPost_ret (v := .agg #[.int .i64 t, .slice (some ⟨g, 0, none⟩) n n]) ?_ rfl ?_
 ·refine results_wrt rfl _ _ _ rfl ?_ ?_
  ·go_simp
  ·go_simp
 ·have HZ' := HZ2.out
  refine ⟨g, rfl, by omega, ?_, ((HB1.out.setCell (by show w.heap.size ≤ w.heap.size + 1 + 1; omega) _).setCell (by show w.heap.size ≤ w.heap.size + 1; omega) _).setCell (by show w.heap.size ≤ w.heap.size + 1; omega) _⟩
  exact ((K01.out.setOther (by omega) _ _).setOther (by omega) _ _).setOther (by omega) _ _
open Go.RowKit
set_option linter.unusedVariables false
structure SL (w : World) (B k : Nat) (V : List Value) (ss : List (List Int)) : Prop where
 own : ∀ i, i < k → Ob w B (uAt V i) (shAt ss i) ∧ byt (shAt ss i)
 apart : ∀ i j, i < k → j < k → i ≠ j → ∀ y, (uAt V i).ownBlock = some y → (uAt V j).ownBlock ≠ some y
theorem sl_zero (w : World) (B : Nat) (V : List Value) (ss : List (List Int)) : SL w B 0 V ss := ⟨fun i hi => absurd hi (Nat.not_lt_zero _), fun i j hi => absurd hi (Nat.not_lt_zero _)⟩
theorem SL.put {w w1 w2 : World} {B k g0 : Nat} {V : List Value} {ss : List (List Int)} {p : Value} (h : SL w B k V ss) (hb : Below w.heap.size w w1) (hp : Ob w1 w.heap.size p (shAt ss k)) (hby : byt (shAt ss k)) (o : Only (fun y => y = g0) w1 w2) (hg : g0 < B) (hB : B ≤ w.heap.size) (hk : k < V.length) : SL w2 B (k + 1) (V.set k p) ss := by
 have hnew : ∀ y, p.ownBlock = some y → w.heap.size ≤ y := fun y e => (World.ownsRow.lt hp y e).1
 have hold : ∀ i, i < k → ∀ y, (uAt V i).ownBlock = some y → B ≤ y ∧ y < w.heap.size := fun i hi y e => World.ownsRow.lt (h.own i hi).1 y e
 refine ⟨fun i hi => ?_, fun i j hi hj hij y hy hz => ?_⟩
 ·by_cases e : i = k
  ·subst e
   rw [uAt_set hk]
   exact ⟨ownD_base (own_kept hp o (fun y e e2 => by have := hnew y e; omega)) hB, hby⟩
  ·rw [uAt_other e]
   exact ⟨own_kept (own_kept (h.own i (by omega)).1 (only_of_below hb (fun _ => False)) (fun _ _ h => h)) o (fun y e e2 => by have := (hold i (by omega) y e).1; omega), (h.own i (by omega)).2⟩
 ·by_cases e : i = k
  ·subst e
   rw [uAt_set hk] at hy
   rw [uAt_other (Ne.symm hij)] at hz
   have := hnew y hy
   have := (hold j (by omega) y hz).2
   omega
  ·rw [uAt_other e] at hy
   by_cases e2 : j = k
   ·subst e2
    rw [uAt_set hk] at hz
    have := hnew y hz
    have := (hold i (by omega) y hy).2
    omega
   ·rw [uAt_other e2] at hz
    exact h.apart i j (by omega) (by omega) hij y hy hz
theorem SL.so {w : World} {B g n : Nat} {V : List Value} {ss : List (List Int)} (h : SL w B n V ss) (hn : n = ss.length) (hl : V.length = n) (hk : Bk w g 102 V) (hg : g < B) (hn2 : n ≤ 1048576) : SOw w g (.slice (some ⟨g, 0, none⟩) n n) V ss := by
 subst hn
 refine ⟨hl, bk_own hk (by omega) hn2 (Nat.le_refl _), fun i hi => ⟨ownD_base (h.own i hi).1 (by omega), (h.own i hi).2⟩, h.apart, fun i hi y hy e => ?_⟩
 have := (World.ownsRow.lt (h.own i hi).1 y hy).1
 have e' : g = y := by simpa [Value.ownBlock] using e
 omega
theorem uAt_map (U : List (Int × Value)) (i : Nat) : uAt (U.map Prod.snd) i = (xAt U i).2 := by
 simp only [uAt, xAt, List.getElem?_map]
 cases U[i]? <;> rfl
theorem shAt_map (ds : List DW) (i : Nat) : shAt (ds.map Prod.snd) i = (dwAt ds i).2 := by
 simp only [shAt, dwAt, List.getElem?_map]
 cases ds[i]? <;> rfl
theorem SL.wo {w : World} {B g n : Nat} {U : List (Int × Value)} {ds : List DW} (h : SL w B n (U.map Prod.snd) (ds.map Prod.snd)) (ht : ∀ i, i < n → (xAt U i).1 = (dwAt ds i).1) (hn : n = ds.length) (hl : U.length = n) (hk : Bk w g 103 (wcs U)) (hg : g < B) (hn2 : n ≤ 1048576) : WO w g (.slice (some ⟨g, 0, none⟩) n n) U ds := by
 subst hn
 refine ⟨hl, bk_own hk (by rw [wcs_length, hl]) hn2 (Nat.le_refl _), fun i hi => ?_, fun i j hi hj hij y hy => ?_, fun i hi y hy e => ?_⟩
 ·have := h.own i hi
  rw [uAt_map, shAt_map] at this
  exact ⟨ht i hi, ownD_base this.1 (by omega), this.2⟩
 ·have := h.apart i j hi hj hij y
  rw [uAt_map, uAt_map] at this
  exact this hy
 ·have := (h.own i hi).1
  rw [uAt_map] at this
  have := (World.ownsRow.lt this y hy).1
  have e' : g = y := by simpa [Value.ownBlock] using e
  omega
set_option maxHeartbeats 4000000 in
theorem toSheetS_at (S : Nat → Prop) (a : Option Addr) (n c : Nat) (ss : List (List Int)) (w : World) (h : Shr w S (.slice a n c) ss) (hnm : n ≤ 1048576) (hsm : ∀ i, i < ss.length → (shAt ss i).length ≤ 1048576) :
  Calls Tryz.prog 28 #[.slice a n c] w fun e w' => ∃ V, e = .returned (.slice (some ⟨w.heap.size, 0, none⟩) n n) ∧ SOw w' w.heap.size (.slice (some ⟨w.heap.size, 0, none⟩) n n) V ss ∧ Below w.heap.size w w' := by
 have HN := hid h.len.1
 have H0 := hid h
 have HSM := hid hsm
 clear h hsm
 have hmk := run_make_n (P := Tryz.prog) 27 102 (.agg #[.slice none 0 0]) 1 24 Tryz.underlying27 infoSheetI n (by omega) (by omega)
 rw [made_sheets] at hmk
 have h63 : n ≤ 9223372036854775807 := by omega
 have HV0 : Hid ((List.replicate n (Value.slice none 0 0)).length = n) := by show _ = _; simp
 generalize List.replicate n (Value.slice none 0 0) = V0 at *
 go_enter Tryz.func28, Tryz.ntmps28
 go_wp2
 go_loopw [4] (fun i wr => ∃ (k : Nat) (V : List Value), k ≤ n ∧ i = .int .i64 k ∧ Hid (V.length = n) ∧ Hid (Bk wr w.heap.size 102 V) ∧ Hid (SL wr (w.heap.size + 1) k V ss) ∧ Hid (Below w.heap.size w wr)) (fun i _ => n - (intOf i).toNat)
 case atStart => exact ⟨0, V0, Nat.zero_le _, rfl, HV0.out, Bk.new _ _ _, sl_zero _ _ _ _, (Below.refl _ _).alloc (Nat.le_refl _) _⟩
 case round =>
  obtain ⟨k, V, hk, rfl, HV, HK, HA, HB⟩ := hrel
  by_cases hlt : k < n
  ·have hlt' : (k : Int) < (n : Int) := by omega
   have HP := hid (H0.out.below HB.out)
   obtain ⟨b, off, rfl, _, hbw, hcell⟩ := HP.out.at (by omega)
   obtain ⟨ap, np, cp, c0, hp⟩ := hcell k hlt
   have l0 := hid hp.len.1
   have b0 : np ≤ 1048576 := by rw [l0.out]; exact HSM.out k (by rw [← HN.out]; exact hlt)
   have HPp := hid (hp.rd b0)
   have HBY := hid hp.2
   have HWL : Hid (w.heap.size < wr.heap.size) := HK.out.lt
   clear hcell hbw HP hp
   go_wp2_with fail
   refine (toSheet_any ap np cp (shAt ss k) wr HPp.out).mono ?_
   rintro e w1 ⟨g0, rfl, e0, k0, hb1⟩
   have HK1 := hid (HK.out.below hb1)
   have HB1 := hid (HB.out.trans (hb1.mono HB.out.size))
   have HOB : Hid (Ob w1 wr.heap.size (.slice (some ⟨g0, 0, none⟩) np np) (shAt ss k)) := by
    have := bk_ob (B := wr.heap.size) k0 (by rw [← l0.out]; exact b0) e0
    rw [← l0.out] at this
    exact this
   have HBW := hid hb1
   clear hb1 HB k0 e0 c0 HPp
   have c0 := HK1.out.cell (j := k) (uAt_some (by rw [HV.out]; exact hlt))
   have f0 := HK1.out.free k
   have HK2 := hid (HK1.out.set k (.slice (some ⟨g0, 0, none⟩) np np))
   have HB2 : Hid (Below w.heap.size w (w1.setCell ⟨w.heap.size, k, none⟩ (.slice (some ⟨g0, 0, none⟩) np np))) := HB1.out.setCell (Nat.le_refl _) _
   have HA2 : Hid (SL (w1.setCell ⟨w.heap.size, k, none⟩ (.slice (some ⟨g0, 0, none⟩) np np)) (w.heap.size + 1) (k + 1) (V.set k (.slice (some ⟨g0, 0, none⟩) np np)) ss) :=
    HA.out.put HBW.out HOB.out HBY.out (only_set (R := fun y => y = w.heap.size) rfl _) (Nat.lt_succ_self _) HWL.out (by rw [HV.out]; exact hlt)
   have HV2 : Hid ((V.set k (.slice (some ⟨g0, 0, none⟩) np np)).length = n) := by show _ = _; rw [List.length_set]; exact HV.out
   clear HA HB1 HK1 HOB HBW
   generalize uAt V k = o0 at c0
   go_wp2
   go_roundw
   case rel => exact ⟨k + 1, _, by omega, by go_num, HV2.out, HK2.out, HA2.out, HB2.out⟩
   case measure => simp [intOf]; omega
  ·have hk' : k = n := by omega
   have HR : Hid (SOw wr w.heap.size (.slice (some ⟨w.heap.size, 0, none⟩) n n) V ss) := by
    subst hk'
    exact HA.out.so HN.out HV.out HK.out (Nat.lt_succ_self _) hnm
   clear hk'
   go_wp2
   go_ret
   exact ⟨V, rfl, HR.out, HB.out⟩
set_option maxHeartbeats 4000000 in
theorem toWriteS_at (S : Nat → Prop) (a : Option Addr) (n c : Nat) (ds : List DW) (w : World) (h : Wrr w S (.slice a n c) ds) (hnm : n ≤ 1048576) (hsm : ∀ i, i < ds.length → (dwAt ds i).2.length ≤ 1048576) :
  Calls Tryz.prog 29 #[.slice a n c] w fun e w' => ∃ U, e = .returned (.slice (some ⟨w.heap.size, 0, none⟩) n n) ∧ WO w' w.heap.size (.slice (some ⟨w.heap.size, 0, none⟩) n n) U ds ∧ Below w.heap.size w w' := by
 have HN := hid h.len.1
 have H0 := hid h
 have HSM := hid hsm
 clear h hsm
 have hmk := run_make_n (P := Tryz.prog) 28 103 (.agg #[.int .i64 0, .slice none 0 0]) 2 32 Tryz.underlying28 infoWriteI n (by omega) (by omega)
 rw [made_writes] at hmk
 have h63 : n ≤ 9223372036854775807 := by omega
 have HV0 : Hid ((List.replicate n ((0, .slice none 0 0) : Int × Value)).length = n) := by show _ = _; simp
 generalize List.replicate n ((0, .slice none 0 0) : Int × Value) = V0 at *
 go_enter Tryz.func29, Tryz.ntmps29
 go_wp2
 go_loopw [4] (fun i wr => ∃ (k : Nat) (V : List (Int × Value)), k ≤ n ∧ i = .int .i64 k ∧ Hid (V.length = n) ∧ Hid (Bk wr w.heap.size 103 (wcs V)) ∧ Hid (SL wr (w.heap.size + 1) k (V.map Prod.snd) (ds.map Prod.snd)) ∧ Hid (∀ i, i < k → (xAt V i).1 = (dwAt ds i).1) ∧ Hid (Below w.heap.size w wr)) (fun i _ => n - (intOf i).toNat)
 case atStart => exact ⟨0, V0, Nat.zero_le _, rfl, HV0.out, Bk.new _ _ _, sl_zero _ _ _ _, fun i hi => absurd hi (Nat.not_lt_zero _), (Below.refl _ _).alloc (Nat.le_refl _) _⟩
 case round =>
  obtain ⟨k, V, hk, rfl, HV, HK, HA, HT, HB⟩ := hrel
  by_cases hlt : k < n
  ·have hlt' : (k : Int) < (n : Int) := by omega
   have HP := hid (H0.out.below HB.out)
   obtain ⟨b, off, rfl, _, hbw, hcell⟩ := HP.out.at (by omega)
   obtain ⟨ap, np, cp, ct, c0, hp⟩ := hcell k hlt
   have l0 := hid hp.len.1
   have b0 : np ≤ 1048576 := by rw [l0.out]; exact HSM.out k (by rw [← HN.out]; exact hlt)
   have HPp := hid (hp.rd b0)
   have HBY := hid hp.2
   have HWL : Hid (w.heap.size < wr.heap.size) := HK.out.lt
   have HSA := hid (shAt_map ds k)
   clear hcell hbw HP hp
   generalize htt : (dwAt ds k).1 = tt at *
   have HTT := hid htt
   clear htt
   go_wp2_with fail
   refine (toWrite_any tt ap np cp (dwAt ds k).2 wr HPp.out).mono ?_
   rintro e w1 ⟨g0, rfl, e0, k0, hb1⟩
   have HK1 := hid (HK.out.below hb1)
   have HB1 := hid (HB.out.trans (hb1.mono HB.out.size))
   have HOB : Hid (Ob w1 wr.heap.size (.slice (some ⟨g0, 0, none⟩) np np) (dwAt ds k).2) := by
    have := bk_ob (B := wr.heap.size) k0 (by rw [← l0.out]; exact b0) e0
    rw [← l0.out] at this
    exact this
   have HBW := hid hb1
   clear hb1 HB k0 e0 c0 ct HPp
   obtain ⟨d0, d1⟩ := wcs_at V k (by rw [HV.out]; exact hlt)
   have c0 := HK1.out.cell d0
   have c1 := HK1.out.cell d1
   have f0 := HK1.out.free (k * 2)
   have f1 := HK1.out.free (k * 2 + 1)
   clear d0 d1
   have HK2 : Hid (Bk ((w1.setCell ⟨w.heap.size, k * 2, none⟩ (.int .i64 tt)).setCell ⟨w.heap.size, k * 2 + 1, none⟩ (.slice (some ⟨g0, 0, none⟩) np np)) w.heap.size 103 (wcs (V.set k (tt, .slice (some ⟨g0, 0, none⟩) np np)))) := by
    show Bk _ _ _ _
    rw [wcs_set _ _ _ (by rw [HV.out]; exact hlt)]
    exact (HK1.out.set _ _).set _ _
   have HB2 : Hid (Below w.heap.size w ((w1.setCell ⟨w.heap.size, k * 2, none⟩ (.int .i64 tt)).setCell ⟨w.heap.size, k * 2 + 1, none⟩ (.slice (some ⟨g0, 0, none⟩) np np))) := (HB1.out.setCell (Nat.le_refl _) _).setCell (Nat.le_refl _) _
   have HA2 : Hid (SL ((w1.setCell ⟨w.heap.size, k * 2, none⟩ (.int .i64 tt)).setCell ⟨w.heap.size, k * 2 + 1, none⟩ (.slice (some ⟨g0, 0, none⟩) np np)) (w.heap.size + 1) (k + 1) ((V.set k (tt, .slice (some ⟨g0, 0, none⟩) np np)).map Prod.snd) (ds.map Prod.snd)) := by
    show SL _ _ _ _ _
    rw [List.map_set]
    exact HA.out.put HBW.out (by rw [HSA.out]; exact HOB.out) (by rw [HSA.out]; exact HBY.out) ((only_set (R := fun y => y = w.heap.size) rfl _).trans (only_set (R := fun y => y = w.heap.size) rfl _)) (Nat.lt_succ_self _) HWL.out (by rw [List.length_map, HV.out]; exact hlt)
   have HT2 : Hid (∀ i, i < k + 1 → (xAt (V.set k (tt, .slice (some ⟨g0, 0, none⟩) np np)) i).1 = (dwAt ds i).1) := by
    intro i hi
    by_cases e : i = k
    ·subst e; rw [xAt_set (by rw [HV.out]; exact hlt), HTT.out]
    ·rw [xAt_other e]; exact HT.out i (by omega)
   have HV2 : Hid ((V.set k (tt, .slice (some ⟨g0, 0, none⟩) np np)).length = n) := by show _ = _; rw [List.length_set]; exact HV.out
   clear HA HB1 HK1 HOB HBW HT
   generalize (xAt V k).1 = o0 at c0
   generalize (xAt V k).2 = o1 at c1
   go_wp2
   go_roundw
   case rel => exact ⟨k + 1, _, by omega, by go_num, HV2.out, HK2.out, HA2.out, HT2.out, HB2.out⟩
   case measure => simp [intOf]; omega
  ·have hk' : k = n := by omega
   have HR : Hid (WO wr w.heap.size (.slice (some ⟨w.heap.size, 0, none⟩) n n) V ds) := by
    subst hk'
    exact HA.out.wo HT.out HN.out HV.out HK.out (Nat.lt_succ_self _) hnm
   clear hk'
   go_wp2
   go_ret
   exact ⟨V, rfl, HR.out, HB.out⟩
set_option maxHeartbeats 2000000 in
theorem toDisk_any (S : Nat → Prop) (sa : Option Addr) (sn sc : Nat) (da : Option Addr) (dn dc : Nat) (d : DK) (w : World) (h : Dk w S sa sn sc da dn dc d) (h1 : sn ≤ 1048576) (h2 : dn ≤ 1048576) (hsm : smallD d) :
  Calls Tryz.prog 8 #[.agg #[.slice sa sn sc, .slice da dn dc]] w fun e w' => ∃ g0 g1 V U, e = .returned (.agg #[.slice (some ⟨g0, 0, none⟩) sn sn, .slice (some ⟨g1, 0, none⟩) dn dn]) ∧
   DO w' w.heap.size (.slice (some ⟨g0, 0, none⟩) sn sn) V (.slice (some ⟨g1, 0, none⟩) dn dn) U d ∧ Below w.heap.size w w' := by
 have HS := hid h.hs
 have HD := hid h.hd
 have HM := hid hsm
 clear h hsm
 have HB0 : Hid (Below w.heap.size w (((w.alloc (.cells #[.slice sa sn sc, .slice da dn dc] 25)).alloc (.cells #[.slice none 0 0, .slice none 0 0] 30)).alloc (.cells #[.slice none 0 0, .slice none 0 0] 30))) := below_new (below_new (below_new (Below.refl _ _)))
 have KP : Hid (Bk (((w.alloc (.cells #[.slice sa sn sc, .slice da dn dc] 25)).alloc (.cells #[.slice none 0 0, .slice none 0 0] 30)).alloc (.cells #[.slice none 0 0, .slice none 0 0] 30)) w.heap.size 25 [.slice sa sn sc, .slice da dn dc]) := ((Bk.new w 25 [.slice sa sn sc, .slice da dn dc]).alloc _).alloc _
 have KR : Hid (Bk (((w.alloc (.cells #[.slice sa sn sc, .slice da dn dc] 25)).alloc (.cells #[.slice none 0 0, .slice none 0 0] 30)).alloc (.cells #[.slice none 0 0, .slice none 0 0] 30)) (w.heap.size + 1) 30 [.slice none 0 0, .slice none 0 0]) := by
  have := (Bk.new (w.alloc (.cells #[.slice sa sn sc, .slice da dn dc] 25)) 30 [.slice none 0 0, .slice none 0 0]).alloc (.cells #[.slice none 0 0, .slice none 0 0] 30)
  show Bk _ _ _ _
  simpa using this
 have KO : Hid (Bk (((w.alloc (.cells #[.slice sa sn sc, .slice da dn dc] 25)).alloc (.cells #[.slice none 0 0, .slice none 0 0] 30)).alloc (.cells #[.slice none 0 0, .slice none 0 0] 30)) (w.heap.size + 1 + 1) 30 [.slice none 0 0, .slice none 0 0]) := by
  have := Bk.new ((w.alloc (.cells #[.slice sa sn sc, .slice da dn dc] 25)).alloc (.cells #[.slice none 0 0, .slice none 0 0] 30)) 30 [.slice none 0 0, .slice none 0 0]
  show Bk _ _ _ _
  simpa using this
 have HZ : Hid ((((w.alloc (.cells #[.slice sa sn sc, .slice da dn dc] 25)).alloc (.cells #[.slice none 0 0, .slice none 0 0] 30)).alloc (.cells #[.slice none 0 0, .slice none 0 0] 30)).heap.size = w.heap.size + 3) := by show _ = _; simp
 go_enter Tryz.func8, Tryz.ntmps8
 go_wp2_with fail
 refine (toSheetS_at S sa sn sc d.sh _ (HS.out.below HB0.out) h1 HM.out.1).mono ?_
 generalize (((w.alloc (.cells #[.slice sa sn sc, .slice da dn dc] 25)).alloc (.cells #[.slice none 0 0, .slice none 0 0] 30)).alloc (.cells #[.slice none 0 0, .slice none 0 0] 30)) = W at *
 rintro e w1 ⟨V, rfl, K0, hb1⟩
 have HB1 := hid (HB0.out.trans (hb1.mono HB0.out.size))
 have KP1 := hid (KP.out.below hb1)
 have KR1 := hid (KR.out.below hb1)
 have KO1 := hid (KO.out.below hb1)
 have K01 := hid K0
 have HG0 : Hid (w.heap.size + 3 ≤ W.heap.size) := Nat.le_of_eq HZ.out.symm
 clear hb1 K0 KP KR KO HB0 HZ
 generalize W.heap.size = g0 at *
 have c0 := KO1.out.cell (j := 0) rfl
 have f0 := KO1.out.free 0
 have p1 := KP1.out.cell (j := 1) rfl
 have HG0' := HG0.out
 have HB2 : Hid (Below w.heap.size w (w1.setCell ⟨w.heap.size + 1 + 1, 0, none⟩ (.slice (some ⟨g0, 0, none⟩) sn sn))) := HB1.out.setCell (by show w.heap.size ≤ w.heap.size + 1 + 1; omega) _
 have KR2 := hid (KR1.out.setOther (b := w.heap.size + 1 + 1) (by omega) 0 (.slice (some ⟨g0, 0, none⟩) sn sn))
 have KO2 := hid (KO1.out.set 0 (.slice (some ⟨g0, 0, none⟩) sn sn))
 have K02 : Hid (SOw (w1.setCell ⟨w.heap.size + 1 + 1, 0, none⟩ (.slice (some ⟨g0, 0, none⟩) sn sn)) g0 (.slice (some ⟨g0, 0, none⟩) sn sn) V d.sh) := K01.out.to (only_set (R := fun y => y = w.heap.size + 1 + 1) rfl _) (fun y hy e => by have := (K01.out.lt hy).1; omega)
 clear HB1 KP1 KR1 KO1 K01 HG0'
 go_wp2_with fail
 refine (toWriteS_at S da dn dc d.dw _ (HD.out.below HB2.out) h2 HM.out.2).mono ?_
 generalize w1.setCell ⟨w.heap.size + 1 + 1, 0, none⟩ (.slice (some ⟨g0, 0, none⟩) sn sn) = W2 at *
 clear c0 f0 p1
 rintro e w2 ⟨U, rfl, K1, hb2⟩
 have HB3 := hid (HB2.out.trans (hb2.mono HB2.out.size))
 have KR3 := hid (KR2.out.below hb2)
 have KO3 := hid (KO2.out.below hb2)
 have HAP : Hid (∀ y, sbl (.slice (some ⟨g0, 0, none⟩) sn sn) V y → ¬ wbl (.slice (some ⟨W2.heap.size, 0, none⟩) dn dn) U y) := fun y h1 h2 => by
  have := (K02.out.lt h1).2
  have := (K1.lt h2).1
  omega
 have HWL : Hid (w.heap.size + 3 ≤ W2.heap.size) := by
  have h3 := K02.out.lt (y := g0) (.inl rfl)
  have := HG0.out
  show _ ≤ _
  omega
 have K03 := hid (K02.out.below hb2)
 have K13 := hid K1
 clear hb2 K1 KR2 KO2 K02 HB2
 generalize W2.heap.size = g1 at *
 have c0 := KO3.out.cell (j := 0) rfl
 have c1 := KO3.out.cell (j := 1) rfl
 have f1 := KO3.out.free 1
 have r0 := KR3.out.cell (j := 0) rfl
 have r1 := KR3.out.cell (j := 1) rfl
 have q0 := KR3.out.free 0
 have q1 := KR3.out.free 1
 go_wp2
 try simp only [Exit.inBlock, Exit.then]
 refine bodyPost_ret (v := .agg #[.slice (some ⟨g0, 0, none⟩) sn sn, .slice (some ⟨g1, 0, none⟩) dn dn]) ?_ rfl ?_
 ·refine results_dsk rfl _ _ _ rfl ?_ ?_
  ·go_simp
  ·go_simp
 ·have HG0' := HG0.out
  have HWL' := HWL.out
  refine ⟨g0, g1, V, U, rfl, ?_, ((HB3.out.setCell (by show w.heap.size ≤ w.heap.size + 1 + 1; omega) _).setCell (by show w.heap.size ≤ w.heap.size + 1; omega) _).setCell (by show w.heap.size ≤ w.heap.size + 1; omega) _⟩
  have O1 : Only (fun y => y < w.heap.size + 3) w2 (((w2.setCell ⟨w.heap.size + 1 + 1, 1, none⟩ (.slice (some ⟨g1, 0, none⟩) dn dn)).setCell ⟨w.heap.size + 1, 0, none⟩ (.slice (some ⟨g0, 0, none⟩) sn sn)).setCell ⟨w.heap.size + 1, 1, none⟩ (.slice (some ⟨g1, 0, none⟩) dn dn)) :=
   ((only_set (R := fun y => y < w.heap.size + 3) (by show w.heap.size + 1 + 1 < w.heap.size + 3; omega) _).trans (only_set (R := fun y => y < w.heap.size + 3) (by show w.heap.size + 1 < w.heap.size + 3; omega) _)).trans (only_set (R := fun y => y < w.heap.size + 3) (by show w.heap.size + 1 < w.heap.size + 3; omega) _)
  exact ⟨(K03.out.to O1 (fun y hy e => by have := (K03.out.lt hy).1; omega)).base (by omega), (K13.out.to O1 (fun y hy e => by have := (K13.out.lt hy).1; omega)).base (by omega), HAP.out⟩
open Go.RowKit
def smallN (ns : List NB) : Prop := ∀ i, i < ns.length → (nAt ns i).ps.length ≤ 1048576 ∧ (nAt ns i).keys.length ≤ 1048576 ∧ (nAt ns i).kids.length ≤ 1048576
theorem vAt_set (V : List V3) (j : Nat) (p : V3) (h : j < V.length) : vAt (V.set j p) j = p := by simp [vAt, h]
theorem vAt_other (V : List V3) (j i : Nat) (p : V3) (h : i ≠ j) : vAt (V.set j p) i = vAt V i := by simp [vAt, Ne.symm h]
theorem infoNodeI : (Tryz.prog.info? 85).map (fun i => (i.zero, i.size, i.bytes)) = some (some (.agg #[.slice none 0 0, .slice none 0 0, .slice none 0 0]), 3, 72) := by kernel_rfl
open Go.RowKit
set_option maxHeartbeats 2000000 in
theorem eqNode_any (S S' : Nat → Prop) (ap ax ai ap' ax' ai' : Option Addr) (np cp nx cx ni ci np' cp' nx' cx' ni' ci' : Nat) (x y : NB) (w : World)
  (hP : Pr w S (.slice ap np cp) x.ps) (hS : Sr w S (.slice ax nx cx) x.keys) (hI : Ir w S (.slice ai ni ci) x.kids) (hP' : Pr w S' (.slice ap' np' cp') y.ps) (hS' : Sr w S' (.slice ax' nx' cx') y.keys) (hI' : Ir w S' (.slice ai' ni' ci') y.kids) :
  Calls Tryz.prog 120 #[.agg #[.slice ap np cp, .slice ax nx cx, .slice ai ni ci], .agg #[.slice ap' np' cp', .slice ax' nx' cx', .slice ai' ni' ci']] w fun e w' => e = .returned (.bool (decide (x = y))) ∧ Below w.heap.size w w' := by
 have HP := hid hP
 have HS := hid hS
 have HI := hid hI
 have HP' := hid hP'
 have HS' := hid hS'
 have HI' := hid hI'
 clear hP hS hI hP' hS' hI'
 have HB0 : Hid (Below w.heap.size w ((w.alloc (.cells #[.slice ap np cp, .slice ax nx cx, .slice ai ni ci] 85)).alloc (.cells #[.slice ap' np' cp', .slice ax' nx' cx', .slice ai' ni' ci'] 85))) := below_new (below_new (Below.refl _ _))
 have KA : Hid (Bk ((w.alloc (.cells #[.slice ap np cp, .slice ax nx cx, .slice ai ni ci] 85)).alloc (.cells #[.slice ap' np' cp', .slice ax' nx' cx', .slice ai' ni' ci'] 85)) w.heap.size 85 [.slice ap np cp, .slice ax nx cx, .slice ai ni ci]) := (Bk.new w 85 [.slice ap np cp, .slice ax nx cx, .slice ai ni ci]).alloc _
 have KB : Hid (Bk ((w.alloc (.cells #[.slice ap np cp, .slice ax nx cx, .slice ai ni ci] 85)).alloc (.cells #[.slice ap' np' cp', .slice ax' nx' cx', .slice ai' ni' ci'] 85)) (w.heap.size + 1) 85 [.slice ap' np' cp', .slice ax' nx' cx', .slice ai' ni' ci']) := by
  have := Bk.new (w.alloc (.cells #[.slice ap np cp, .slice ax nx cx, .slice ai ni ci] 85)) 85 [.slice ap' np' cp', .slice ax' nx' cx', .slice ai' ni' ci']
  show Bk _ _ _ _
  simpa using this
 go_enter Tryz.func120, Tryz.ntmps120
 go_wp2_with fail
 refine (eqPairS_at S S' ap ap' np np' cp cp' x.ps y.ps _ (HP.out.below HB0.out) (HP'.out.below HB0.out)).mono ?_
 generalize (w.alloc (.cells #[.slice ap np cp, .slice ax nx cx, .slice ai ni ci] 85)).alloc (.cells #[.slice ap' np' cp', .slice ax' nx' cx', .slice ai' ni' ci'] 85) = W at *
 rintro e w1 ⟨rfl, hb1⟩
 have HB1 := hid (HB0.out.trans (hb1.mono HB0.out.size))
 have KA1 := hid (KA.out.below hb1)
 have KB1 := hid (KB.out.below hb1)
 clear hb1 HB0 KA KB
 by_cases h1 : x.ps = y.ps
 ·rw [decide_eq_true h1]
  have HH1 := hid h1
  clear h1
  have c0 := KA1.out.cell (j := 1) rfl
  have d0 := KB1.out.cell (j := 1) rfl
  go_wp2_with fail
  refine (eqStringS_at S S' ax ax' nx nx' cx cx' x.keys y.keys _ (HS.out.below HB1.out) (HS'.out.below HB1.out)).mono ?_
  rintro e w2 ⟨rfl, hb2⟩
  have HB2 := hid (HB1.out.trans (hb2.mono HB1.out.size))
  have KA2 := hid (KA1.out.below hb2)
  have KB2 := hid (KB1.out.below hb2)
  clear hb2 HB1 KA1 KB1 c0 d0
  by_cases h2 : x.keys = y.keys
  ·rw [decide_eq_true h2]
   have HH2 := hid h2
   clear h2
   have c0 := KA2.out.cell (j := 2) rfl
   have d0 := KB2.out.cell (j := 2) rfl
   go_wp2_with fail
   refine (eqIntS_at S S' ai ai' ni ni' ci ci' x.kids y.kids _ (HI.out.below HB2.out) (HI'.out.below HB2.out)).mono ?_
   rintro e w3 ⟨rfl, hb3⟩
   have HB3 := hid (HB2.out.trans (hb3.mono HB2.out.size))
   clear hb3 HB2 KA2 KB2 c0 d0
   by_cases h3 : x.kids = y.kids
   ·rw [decide_eq_true h3]
    have HF : Hid (decide (x = y) = true) := by
     show _ = _
     rw [decide_eq_true_eq]
     have e1 := HH1.out
     have e2 := HH2.out
     cases x; cases y; simp_all
    clear h3
    go_wp2
    go_ret
    exact ⟨by rw [HF.out]; rfl, HB3.out⟩
   ·rw [decide_eq_false h3]
    have HF : Hid (decide (x = y) = false) := by
     show _ = _
     rw [decide_eq_false_iff_not]
     rintro rfl
     exact h3 rfl
    clear h3
    go_wp2
    go_ret
    exact ⟨by rw [HF.out]; rfl, HB3.out⟩
  ·rw [decide_eq_false h2]
   have HF : Hid (decide (x = y) = false) := by
    show _ = _
    rw [decide_eq_false_iff_not]
    rintro rfl
    exact h2 rfl
   clear h2
   go_wp2
   go_ret
   exact ⟨by rw [HF.out]; rfl, HB2.out⟩
 ·rw [decide_eq_false h1]
  have HF : Hid (decide (x = y) = false) := by
   show _ = _
   rw [decide_eq_false_iff_not]
   rintro rfl
   exact h1 rfl
  clear h1
  go_wp2
  go_ret
  exact ⟨by rw [HF.out]; rfl, HB1.out⟩
set_option maxHeartbeats 4000000 in
theorem eqNodeS_at (S S' : Nat → Prop) (a a' : Option Addr) (n n' c c' : Nat) (l l' : List NB) (w : World) (h : Nr w S (.slice a n c) l) (h' : Nr w S' (.slice a' n' c') l') :
  Calls Tryz.prog 79 #[.slice a n c, .slice a' n' c'] w fun e w' => e = .returned (.bool (decide (l = l'))) ∧ Below w.heap.size w w' := by
 obtain ⟨hn, hnc, hcc⟩ := h.len
 obtain ⟨hn', hnc', hcc'⟩ := h'.len
 have HN := hid hn
 have HN' := hid hn'
 have H0 := hid h
 have H0' := hid h'
 clear h h' hn hn'
 by_cases hne : n = n'
 ·subst hne
  have hz : ((n : Int) != (n : Int)) = false := by simp
  go_enter Tryz.func79, Tryz.ntmps79
  go_wp2
  go_loopw [5] (fun i wr => ∃ k : Nat, k ≤ n ∧ i = .int .i64 k ∧ Hid (Below w.heap.size w wr) ∧ Hid (l.take k = l'.take k)) (fun i _ => n - (intOf i).toNat)
  case atStart => exact ⟨0, Nat.zero_le _, rfl, Below.refl _ _, rfl⟩
  case round =>
   obtain ⟨k, hk, rfl, HB, HT⟩ := hrel
   by_cases hlt : k < n
   ·have hlt' : (k : Int) < (n : Int) := by omega
    have HP := hid (H0.out.below HB.out)
    have HP' := hid (H0'.out.below HB.out)
    obtain ⟨b, off, rfl, _, hbw, hcell⟩ := HP.out.at (by omega)
    obtain ⟨b', off', rfl, _, hbw', hcell'⟩ := HP'.out.at (by omega)
    obtain ⟨ap, np, cp, ax, nx, cx, ai, ni, ci, c0, c1, c2, hp, hx, hi⟩ := hcell k hlt
    obtain ⟨ap', np', cp', ax', nx', cx', ai', ni', ci', d0, d1, d2, hp', hx', hi'⟩ := hcell' k hlt
    have HC : Hid (∀ v, Below wr.heap.size wr v → Calls Tryz.prog 120 #[.agg #[.slice ap np cp, .slice ax nx cx, .slice ai ni ci], .agg #[.slice ap' np' cp', .slice ax' nx' cx', .slice ai' ni' ci']] v fun e w' => e = .returned (.bool (decide (nAt l k = nAt l' k))) ∧ Below v.heap.size v w') := fun v hv =>
     eqNode_any S S' ap ax ai ap' ax' ai' np cp nx cx ni ci np' cp' nx' cx' ni' ci' (nAt l k) (nAt l' k) v (hp.below hv) (hx.below hv) (hi.below hv) (hp'.below hv) (hx'.below hv) (hi'.below hv)
    have HS : Hid (nAt l k = nAt l' k → l.take (k + 1) = l'.take (k + 1)) := by
     intro e
     have hl : k < l.length := by rw [← HN.out]; exact hlt
     have hl' : k < l'.length := by rw [← HN'.out]; exact hlt
     rw [List.take_succ_eq_append_getElem hl, List.take_succ_eq_append_getElem hl', HT.out]
     simp [nAt, hl, hl'] at e
     rw [e]
    have HF : Hid (nAt l k ≠ nAt l' k → decide (l = l') = false) := by
     intro e
     rw [decide_eq_false_iff_not]
     intro e'
     exact e (by rw [e'])
    have T0 := hid (kc0_6 c0 c1 c2 d0 d1 d2)
    clear hcell hcell' hbw hbw' HP HP' HT hp hx hi hp' hx' hi' c0 c1 c2 d0 d1 d2
    generalize nAt l k = cx1 at *
    generalize nAt l' k = cx2 at *
    by_cases he : cx1 = cx2
    ·have HS1 := hid (HS.out he)
     rw [decide_eq_true he] at HC
     clear he HS HF
     go_wp2_with fail
     go_region_held3 (fun v => v.cell? ⟨b, off + k * 3, none⟩ = some (.slice ap np cp) ∧ v.cell? ⟨b, off + k * 3 + 1, none⟩ = some (.slice ax nx cx) ∧ v.cell? ⟨b, off + k * 3 + 2, none⟩ = some (.slice ai ni ci) ∧ v.cell? ⟨b', off' + k * 3, none⟩ = some (.slice ap' np' cp') ∧ v.cell? ⟨b', off' + k * 3 + 1, none⟩ = some (.slice ax' nx' cx') ∧ v.cell? ⟨b', off' + k * 3 + 2, none⟩ = some (.slice ai' ni' ci') ∧ KC wr v [(⟨b, off + k * 3, none⟩, .slice ap np cp), (⟨b, off + k * 3 + 1, none⟩, .slice ax nx cx), (⟨b, off + k * 3 + 2, none⟩, .slice ai ni ci), (⟨b', off' + k * 3, none⟩, .slice ap' np' cp'), (⟨b', off' + k * 3 + 1, none⟩, .slice ax' nx' cx'), (⟨b', off' + k * 3 + 2, none⟩, .slice ai' ni' ci')])
      (first | assumption | exact kc6 (T0.out.call (below_drew _)) | exact kc6c hbC (by assumption))
      (first | (go_at_call 120; refine (HC.out _ (KC.bel (by first | exact (by assumption : _ ∧ _ ∧ _ ∧ _ ∧ _ ∧ _ ∧ _).2.2.2.2.2.2))).mono ?_; rintro e w' ⟨rfl, hbC⟩))
     all_goals (rename_i hS; have HB1 := hid (Below.then' HB.out hS.2.2.2.2.2.2.bel (Nat.le_refl _)); clear hS; go_wp2)
     go_roundw
     case rel => exact ⟨k + 1, by omega, by go_num, HB1.out, HS1.out⟩
     case measure => simp [intOf]; omega
    ·have HF1 := hid (HF.out he)
     rw [decide_eq_false he] at HC
     clear he HS HF
     go_wp2_with fail
     go_region_held3 (fun v => v.cell? ⟨b, off + k * 3, none⟩ = some (.slice ap np cp) ∧ v.cell? ⟨b, off + k * 3 + 1, none⟩ = some (.slice ax nx cx) ∧ v.cell? ⟨b, off + k * 3 + 2, none⟩ = some (.slice ai ni ci) ∧ v.cell? ⟨b', off' + k * 3, none⟩ = some (.slice ap' np' cp') ∧ v.cell? ⟨b', off' + k * 3 + 1, none⟩ = some (.slice ax' nx' cx') ∧ v.cell? ⟨b', off' + k * 3 + 2, none⟩ = some (.slice ai' ni' ci') ∧ KC wr v [(⟨b, off + k * 3, none⟩, .slice ap np cp), (⟨b, off + k * 3 + 1, none⟩, .slice ax nx cx), (⟨b, off + k * 3 + 2, none⟩, .slice ai ni ci), (⟨b', off' + k * 3, none⟩, .slice ap' np' cp'), (⟨b', off' + k * 3 + 1, none⟩, .slice ax' nx' cx'), (⟨b', off' + k * 3 + 2, none⟩, .slice ai' ni' ci')])
      (first | assumption | exact kc6 (T0.out.call (below_drew _)) | exact kc6c hbC (by assumption))
      (first | (go_at_call 120; refine (HC.out _ (KC.bel (by first | exact (by assumption : _ ∧ _ ∧ _ ∧ _ ∧ _ ∧ _ ∧ _).2.2.2.2.2.2))).mono ?_; rintro e w' ⟨rfl, hbC⟩))
     all_goals (rename_i hS; have HB1 := hid (Below.then' HB.out hS.2.2.2.2.2.2.bel (Nat.le_refl _)); clear hS; go_wp2)
     go_ret
     exact ⟨by rw [HF1.out]; rfl, HB1.out⟩
   ·have HF : Hid (decide (l = l') = true) := by
     show decide (l = l') = true
     have hk' : k = n := by omega
     have e := HT.out
     have e1 : l.length ≤ k := by rw [← HN.out]; omega
     have e2 : l'.length ≤ k := by rw [← HN'.out]; omega
     rw [List.take_of_length_le e1, List.take_of_length_le e2] at e
     simp [e]
    clear HT
    go_wp2
    go_ret
    exact ⟨by rw [HF.out]; rfl, HB.out⟩
 ·have hz : ((n : Int) != (n' : Int)) = true := by simp; omega
  have HF : Hid (decide (l = l') = false) := by
   show decide (l = l') = false
   rw [decide_eq_false_iff_not]
   intro e
   exact hne (by rw [HN.out, HN'.out, e])
  clear hne
  go_enter Tryz.func79, Tryz.ntmps79
  go_wp2
  go_ret
  exact ⟨by rw [HF.out]; rfl, Below.refl _ _⟩
set_option maxHeartbeats 2000000 in
theorem eqTree_at (S S' : Nat → Prop) (a a' : Option Addr) (n n' c c' : Nat) (l l' : List NB) (w : World) (h : Nr w S (.slice a n c) l) (h' : Nr w S' (.slice a' n' c') l') :
  Calls Tryz.prog 32 #[.agg #[.slice a n c], .agg #[.slice a' n' c']] w fun e w' => e = .returned (.bool (decide (l = l'))) ∧ Below w.heap.size w w' := by
 have H0 := hid h
 have H0' := hid h'
 clear h h'
 have HB0 : Hid (Below w.heap.size w ((w.alloc (.cells #[.slice a n c] 33)).alloc (.cells #[.slice a' n' c'] 33))) := below_new (below_new (Below.refl _ _))
 go_enter Tryz.func32, Tryz.ntmps32
 go_wp2_with fail
 refine (eqNodeS_at S S' a a' n n' c c' l l' _ (H0.out.below HB0.out) (H0'.out.below HB0.out)).mono ?_
 rintro e w1 ⟨rfl, hb1⟩
 have HB1 := hid (HB0.out.trans (hb1.mono HB0.out.size))
 clear hb1 HB0
 by_cases he : l = l'
 ·have HE := hid (decide_eq_true he)
  rw [decide_eq_true he]
  clear he
  go_wp2
  go_ret
  exact ⟨by rw [HE.out]; rfl, HB1.out⟩
 ·have HE := hid (decide_eq_false he)
  rw [decide_eq_false he]
  clear he
  go_wp2
  go_ret
  exact ⟨by rw [HE.out]; rfl, HB1.out⟩
end Go.Proofs.YtidjehapeanpbaaGreatDoor
