/-
  What the law's helpers do, for every slice of bytes: toByteS makes a new row with the same bytes; eqByteS tells whether two slices have the same bytes.
-/
import Derived.Test.YtgnjknbgahickacGreatDoorRows
import Derived.WalkKit
import Derived.WalkSpells
import Derived.Deep.QuietTactic
import Derived.BigQuiet
import Derived.Deep.OwnRows
import Derived.Laws.IdiomStrings
import Derived.Laws.Cover1
import Derived.Laws.AppendOwnNone
import Derived.Deep.RegionHeld3
import Derived.Laws.MakeOwn
import Derived.Deep.LoopGhost
import Derived.Maps.AppendAt
namespace Go.Proofs.YtgnjknbgahickacGreatDoor
open Go.RowKit

theorem hid {p : Prop} (h : p) : Hid p := h
theorem infoU8 : (Tryz.prog.info? 5).map (fun i => (i.zero, i.size, i.bytes)) = some (some (.int .u8 0), 1, 1) := by kernel_rfl

/-- The slice value '.slice a n c' has in the world w the bytes zs. -/
def Rd (w : World) (a : Option Addr) (n c : Nat) (zs : List Int) : Prop :=
  n = zs.length ∧ n ≤ c ∧ c ≤ 9223372036854775807 ∧ n ≤ 140737488355328 ∧ (∀ i : Nat, 0 ≤ zs[i]?.getD 0 ∧ zs[i]?.getD 0 ≤ 255) ∧
    (0 < n → ∃ b off, a = some ⟨b, off, none⟩ ∧ b < w.heap.size ∧ ∀ i, i < n → w.cell? ⟨b, off + i, none⟩ = some (.int .u8 (zs[i]?.getD 0)))

def byteVals (zs : List Int) : Array Value := (zs.map (Value.int .u8)).toArray

/-- The row that toByteS fills, k of its bytes being there. -/
def part (zs : List Int) (k : Nat) : Array Value := ((zs.take k).map (Value.int .u8) ++ List.replicate (zs.length - k) (Value.int .u8 0)).toArray
theorem part_zero (zs : List Int) : part zs 0 = madeCells #[.int .u8 0] zs.length := by
  apply Array.ext
  · simp [part, madeCells]
  · intro i h1 h2; simp [part, madeCells, Nat.mod_one]
theorem part_all (zs : List Int) : part zs zs.length = byteVals zs := by simp [part, byteVals]
theorem part_at (zs : List Int) (k : Nat) (h : k < zs.length) : (part zs k)[k]? = some (.int .u8 0) := by
  simp only [part, List.getElem?_toArray]
  have hl : ((zs.take k).map (Value.int .u8)).length = k := by simp; omega
  rw [List.getElem?_append_right (by omega), hl, List.getElem?_replicate]
  rw [if_pos (by omega)]
theorem part_set (zs : List Int) (k : Nat) (h : k < zs.length) : (part zs k).setIfInBounds k (.int .u8 (zs[k]?.getD 0)) = part zs (k + 1) := by
  have e : zs[k]?.getD 0 = zs[k] := by simp [h]
  rw [e]
  simp only [part, List.setIfInBounds_toArray]
  congr 1
  have hl : ((zs.take k).map (Value.int .u8)).length = k := by simp; omega
  rw [List.set_append_right _ _ (by omega), hl]
  have h2 : zs.length - k = (zs.length - (k + 1)) + 1 := by omega
  rw [List.take_succ_eq_append_getElem h, h2, List.replicate_succ, List.map_append, Nat.sub_self, List.set_cons_zero, List.append_assoc]
  rfl


theorem Rd.len {w : World} {a : Option Addr} {n c : Nat} {zs : List Int} (h : Rd w a n c zs) : n = zs.length := h.1

/-- A slice reads as before in a world that has kept what lay below. -/
theorem Rd.below {w w' : World} {B : Nat} {a : Option Addr} {n c : Nat} {zs : List Int} (h : Rd w a n c zs) (hB : Below B w w') (hlt : ∀ x, a = some x → 0 < n → x.block < B) : Rd w' a n c zs := by
  obtain ⟨h1, h2, h3, h30, h4, h5⟩ := h
  refine ⟨h1, h2, h3, h30, h4, fun hp => ?_⟩
  obtain ⟨b, off, rfl, hb, hc⟩ := h5 hp
  refine ⟨b, off, rfl, Nat.lt_of_lt_of_le hb hB.size, fun i hi => ?_⟩
  rw [hB.cell (p := ⟨b, off + i, none⟩) (hlt ⟨b, off, none⟩ rfl hp)]
  exact hc i hi
theorem Rd.lt {w : World} {a : Option Addr} {n c : Nat} {zs : List Int} (h : Rd w a n c zs) : ∀ x, a = some x → 0 < n → x.block < w.heap.size := by
  intro x hx hp
  obtain ⟨b, off, ha, hb, _⟩ := h.2.2.2.2.2 hp
  rw [ha] at hx; cases hx; exact hb
theorem Rd.kept {w w' : World} {a : Option Addr} {n c : Nat} {zs : List Int} (h : Rd w a n c zs) (hB : Below w.heap.size w w') : Rd w' a n c zs := h.below hB h.lt
/-- The row that toByteS leaves. -/
theorem rd_new (w : World) (zs : List Int) (hl : zs.length ≤ 140737488355328) (hb : ∀ i : Nat, 0 ≤ zs[i]?.getD 0 ∧ zs[i]?.getD 0 ≤ 255) :
    Rd (w.alloc (.cells (byteVals zs) 5)) (some ⟨w.heap.size, 0, none⟩) zs.length zs.length zs := by
  refine ⟨rfl, Nat.le_refl _, by omega, hl, hb, fun _ => ⟨w.heap.size, 0, rfl, by simp, fun i hi => ?_⟩⟩
  rw [World.cell?_alloc_at (hn := rfl)]
  simp [byteVals, hi]

theorem take_succ_eq {xs ys : List Int} {k : Nat} (hx : k < xs.length) (hy : k < ys.length) (h : xs.take k = ys.take k) (e : xs[k]?.getD 0 = ys[k]?.getD 0) : xs.take (k + 1) = ys.take (k + 1) := by
  rw [List.take_succ_eq_append_getElem hx, List.take_succ_eq_append_getElem hy, h]
  simp [hx, hy] at e
  rw [e]

/-- What is known of a slice of integers that came in: it is nil; or it leads to a row of 'cap' cells, the first 'len' of which are its elements. -/
def IsRow (k : IntKind) (w : World) (a : Option Addr) (len cap : Nat) (zs : List Int) : Prop :=
  (a = none ∧ len = 0 ∧ cap = 0 ∧ zs = []) ∨
  ∃ x, a = some x ∧ len ≤ cap ∧ cap ≤ maxLen ∧ zs.length = cap ∧ (∀ i, i < zs.length → w.cell? (x.add i) = some (.int k (zs.getD i 0))) ∧ ∀ n ∈ zs, (Lit.int k n).wf = true
theorem block_lt {w : World} {x : Addr} {v : Value} (h : w.cell? x = some v) : x.block < w.heap.size := by
  rcases Nat.lt_or_ge x.block w.heap.size with h' | h'
  · exact h'
  · simp [World.cell?, Array.getElem?_eq_none h'] at h
theorem rd_of_row {w : World} {a : Option Addr} {len cap : Nat} {zs : List Int} (h : IsRow .u8 w a len cap zs) (hl : len ≤ 140737488355328) : Rd w a len cap (zs.take len) := by
  rcases h with ⟨rfl, rfl, rfl, rfl⟩ | ⟨x, rfl, h1, h2, h3, h4, h5⟩
  · exact ⟨rfl, Nat.le_refl _, by omega, by omega, by simp, fun h => by omega⟩
  · refine ⟨by simp; omega, h1, by unfold maxLen at h2; omega, hl, fun i => ?_, fun hp => ?_⟩
    · by_cases hi : i < (zs.take len).length
      · have hm : (zs.take len)[i] ∈ zs := List.mem_of_mem_take (List.getElem_mem hi)
        have := h5 _ hm
        rw [List.getElem?_eq_getElem hi]
        simpa [Lit.wf, IntKind.min, IntKind.max, IntKind.signed, IntKind.bits] using this
      · rw [List.getElem?_eq_none (by omega)]; simp
    · obtain ⟨b, off, spot⟩ := x
      have hc := h4 0 (by omega)
      have hspot : spot = none := by simpa [Addr.add] using World.cell?_spot hc
      subst hspot
      refine ⟨b, off, rfl, by simpa [Addr.add] using block_lt hc, fun i hi => ?_⟩
      have hci := h4 i (by omega)
      rw [Addr.add_lit] at hci
      rw [hci, List.getElem?_take_of_lt hi]
      rfl
theorem i64_bounds {n : Int} (h : (Lit.int .i64 n).wf = true) : -9223372036854775808 ≤ n ∧ n ≤ 9223372036854775807 := by
  simpa [Lit.wf, IntKind.min, IntKind.max, IntKind.signed, IntKind.bits] using h
theorem Below.drewN' {B : Nat} {a w : World} (h : Below B a w) (q : Nat) : Below B a (w.drewN q) := ⟨h.os, h.tape, h.output, h.size, h.block⟩

end Go.Proofs.YtgnjknbgahickacGreatDoor
/-
  The order of byte strings: strict, total; the empty string is the least; a byte 0 behind makes the next one.
-/
namespace Go.Proofs.YtgnjknbgahickacGreatDoor

theorem less_irrefl (a : List UInt8) : Op.bytesLess a a = false := by
  induction a with
  | nil => rfl
  | cons x a ih => simp [Op.bytesLess, ih]
theorem less_asymm (a : List UInt8) : ∀ b, Op.bytesLess a b = true → Op.bytesLess b a = false := by
  induction a with
  | nil => intro b h; cases b <;> rfl
  | cons x a ih =>
    intro b h
    cases b with
    | nil => simp [Op.bytesLess] at h
    | cons y b =>
      simp only [Op.bytesLess, Bool.or_eq_true, decide_eq_true_eq, Bool.and_eq_true, beq_iff_eq, Bool.or_eq_false_iff, decide_eq_false_iff_not, Bool.and_eq_false_iff] at h ⊢
      rcases h with h | ⟨rfl, h⟩
      · exact ⟨fun h' => absurd (UInt8.lt_trans h h') (UInt8.lt_irrefl _), .inl (by
          simp only [beq_eq_false_iff_ne]; intro e; subst e; exact UInt8.lt_irrefl _ h)⟩
      · exact ⟨UInt8.lt_irrefl _, .inr (ih b h)⟩
theorem less_total (a : List UInt8) : ∀ b, Op.bytesLess a b = false → a ≠ b → Op.bytesLess b a = true := by
  induction a with
  | nil => intro b h hne; cases b with | nil => exact absurd rfl hne | cons y b => simp [Op.bytesLess] at h
  | cons x a ih =>
    intro b h hne
    cases b with
    | nil => rfl
    | cons y b =>
      simp only [Op.bytesLess, Bool.or_eq_true, decide_eq_true_eq, Bool.and_eq_true, beq_iff_eq, Bool.or_eq_false_iff, decide_eq_false_iff_not, Bool.and_eq_false_iff] at h ⊢
      by_cases e : x = y
      · subst e
        refine .inr ⟨rfl, ih b ?_ (fun e => hne (by rw [e]))⟩
        rcases h.2 with h' | h'
        · simp at h'
        · exact h'
      · refine .inl ?_
        rcases Nat.lt_or_ge y.toNat x.toNat with h' | h'
        · exact UInt8.lt_iff_toNat_lt.2 h'
        · refine absurd (UInt8.lt_iff_toNat_lt.2 (Nat.lt_of_le_of_ne h' fun e' => e (UInt8.toNat_inj.1 e'))) h.1
theorem less_trans (a : List UInt8) : ∀ b c, Op.bytesLess a b = true → Op.bytesLess b c = true → Op.bytesLess a c = true := by
  induction a with
  | nil => intro b c h1 h2; cases c with | nil => cases b <;> simp [Op.bytesLess] at h2 | cons z c => rfl
  | cons x a ih =>
    intro b c h1 h2
    cases b with
    | nil => simp [Op.bytesLess] at h1
    | cons y b =>
      cases c with
      | nil => simp [Op.bytesLess] at h2
      | cons z c =>
        simp only [Op.bytesLess, Bool.or_eq_true, decide_eq_true_eq, Bool.and_eq_true, beq_iff_eq] at h1 h2 ⊢
        rcases h1 with h1 | ⟨rfl, h1⟩
        · rcases h2 with h2 | ⟨rfl, h2⟩
          · exact .inl (UInt8.lt_trans h1 h2)
          · exact .inl h1
        · rcases h2 with h2 | ⟨rfl, h2⟩
          · exact .inl h2
          · exact .inr ⟨rfl, ih _ _ h1 h2⟩
/-- a is not above b, b is below c. -/
theorem nless_less (a b c : List UInt8) (h1 : Op.bytesLess b a = false) (h2 : Op.bytesLess b c = true) : Op.bytesLess a c = true := by
  by_cases e : a = b
  · subst e; exact h2
  · exact less_trans _ _ _ (less_total _ _ h1 (Ne.symm e)) h2
theorem less_nless (a b c : List UInt8) (h1 : Op.bytesLess a b = true) (h2 : Op.bytesLess c b = false) : Op.bytesLess a c = true := by
  by_cases e : b = c
  · subst e; exact h1
  · exact less_trans _ _ _ h1 (less_total _ _ h2 (Ne.symm e))
theorem nless_trans (a b c : List UInt8) (h1 : Op.bytesLess b a = false) (h2 : Op.bytesLess c b = false) : Op.bytesLess c a = false := by
  cases h : Op.bytesLess c a with
  | false => rfl
  | true => rw [less_nless c a b h h1] at h2; cases h2
theorem less_nil (a : List UInt8) : Op.bytesLess a [] = false := by cases a <;> rfl
theorem less_zero (a : List UInt8) : Op.bytesLess a (a ++ [0]) = true := by
  induction a with
  | nil => rfl
  | cons x a ih => simp [Op.bytesLess, ih]
theorem nil_less (a : List UInt8) (h : ¬ a = []) : Op.bytesLess [] a = true := by cases a with | nil => exact absurd rfl h | cons _ _ => rfl

theorem str_ext {a b : ByteArray} (h : a.toList = b.toList) : a = b := by
  rw [ByteArray.toList_eq, ByteArray.toList_eq] at h
  cases a; cases b
  simp at h
  rw [h]
theorem str_beq {a b : ByteArray} (h : a ≠ b) : (a.toList == b.toList) = false := by
  simp only [beq_eq_false_iff_ne, ne_eq]
  exact fun e => h (str_ext e)
theorem tri (a b : ByteArray) : (Op.bytesLess a.toList b.toList = true ∧ Op.bytesLess b.toList a.toList = false ∧ (a.toList == b.toList) = false ∧ (b.toList == a.toList) = false) ∨ a = b ∨
    (Op.bytesLess a.toList b.toList = false ∧ Op.bytesLess b.toList a.toList = true ∧ (a.toList == b.toList) = false ∧ (b.toList == a.toList) = false) := by
  by_cases e : a = b
  · exact .inr (.inl e)
  · cases h : Op.bytesLess a.toList b.toList with
    | true => exact .inl ⟨rfl, less_asymm _ _ h, str_beq e, str_beq (Ne.symm e)⟩
    | false => exact .inr (.inr ⟨rfl, less_total _ _ h (fun e' => e (str_ext e')), str_beq e, str_beq (Ne.symm e)⟩)
end Go.Proofs.YtgnjknbgahickacGreatDoor
/-
  Keys and values: what the program's functions and the specification's answer, for all strings.
-/
namespace Go.Proofs.YtgnjknbgahickacGreatDoor
open Go.RowKit

theorem str_empty {s : ByteArray} (h : s.toList = []) : s.size = 0 := by
  rw [ByteArray.toList_eq] at h
  show s.data.size = 0
  rw [← Array.length_toList, h]; rfl
theorem str_full {s : ByteArray} (h : ¬ s.toList = []) : 1 ≤ s.size := by
  rcases Nat.eq_zero_or_pos s.size with e | e
  · refine absurd ?_ h
    rw [ByteArray.toList_eq]
    exact List.eq_nil_of_length_eq_zero (by rw [Array.length_toList]; exact e)
  · exact e
theorem below_drew (w : World) : Below w.heap.size w w.drew := ⟨rfl, rfl, rfl, Nat.le_refl _, fun _ _ => rfl⟩
theorem Below.then' {B : Nat} {w w1 w2 : World} (h : Below B w w1) (h2 : Below w1.heap.size w1 w2) (hB : B ≤ w.heap.size) : Below B w w2 := h.trans (h2.mono (Nat.le_trans hB h.size))
theorem below_new {w w1 : World} {o : Obj} (h : Below (w.alloc o).heap.size (w.alloc o) w1) : Below w.heap.size w w1 := ((Below.refl _ _).alloc (Nat.le_refl _) o).trans (h.mono (by simp))

def kOk (k : ByteArray) : Bool := decide (1 ≤ k.size) && decide (k.size ≤ 16)
theorem implKeyOk_any (k : ByteArray) (w : World) : Calls Tryz.prog 71 #[.string k] w fun e w' => e = .returned (.bool (kOk k)) ∧ w = w' := by
  by_cases h : k.toList = []
  · have HE : Hid (kOk k = false) := by show kOk k = false; simp [kOk, str_empty h]
    go_enter Tryz.func71, Tryz.ntmps71
    go_wp2
    go_ret
    exact ⟨by rw [HE.out]; rfl, rfl⟩
  · have h2 : k.toList.isEmpty = false := by simpa using h
    have h3 : 1 ≤ k.size := str_full h
    have HE : Hid (kOk k = decide (k.size ≤ 16)) := by show kOk k = decide (k.size ≤ 16); simp [kOk, h3]
    by_cases h4 : k.size ≤ 16
    · have h5 : (k.size : Int) ≤ 16 := by omega
      go_enter Tryz.func71, Tryz.ntmps71
      go_wp2
      go_ret
      exact ⟨by rw [HE.out, decide_eq_true h4]; rfl, rfl⟩
    · have h5 : ¬ (k.size : Int) ≤ 16 := by omega
      go_enter Tryz.func71, Tryz.ntmps71
      go_wp2
      go_ret
      exact ⟨by rw [HE.out, decide_eq_false h4]; rfl, rfl⟩
theorem specKeyOk_any (k : ByteArray) (w : World) : Calls Tryz.prog 68 #[.string k] w fun e w' => e = .returned (.bool (kOk k)) ∧ w = w' := by
  by_cases h3 : 1 ≤ k.size
  · have HE : Hid (kOk k = decide (k.size ≤ 16)) := by show kOk k = decide (k.size ≤ 16); simp [kOk, h3]
    have h4 : (1 : Int) ≤ (k.size : Int) := by omega
    by_cases h4 : k.size ≤ 16
    · have h5 : (k.size : Int) ≤ 16 := by omega
      go_enter Tryz.func68, Tryz.ntmps68
      go_wp2
      go_ret
      exact ⟨by rw [HE.out, decide_eq_true h4]; rfl, rfl⟩
    · have h5 : ¬ (k.size : Int) ≤ 16 := by omega
      go_enter Tryz.func68, Tryz.ntmps68
      go_wp2
      go_ret
      exact ⟨by rw [HE.out, decide_eq_false h4]; rfl, rfl⟩
  · have HE : Hid (kOk k = false) := by show kOk k = false; simp [kOk, h3]
    have h4 : ¬ (1 : Int) ≤ (k.size : Int) := by omega
    go_enter Tryz.func68, Tryz.ntmps68
    go_wp2
    go_ret
    exact ⟨by rw [HE.out]; rfl, rfl⟩
def vOk (v : ByteArray) : Bool := decide (v.size ≤ 60)
theorem implValOk_any (v : ByteArray) (w : World) : Calls Tryz.prog 142 #[.string v] w fun e w' => e = .returned (.bool (vOk v)) ∧ w = w' := by
  have HE : Hid (vOk v = decide ((v.size : Int) ≤ 60)) := by
    show decide (v.size ≤ 60) = decide ((v.size : Int) ≤ 60)
    rw [decide_eq_decide]; omega
  go_enter Tryz.func142, Tryz.ntmps142
  go_wp2
  go_ret
  exact ⟨by rw [HE.out]; rfl, rfl⟩
theorem specValOk_any (v : ByteArray) (w : World) : Calls Tryz.prog 121 #[.string v] w fun e w' => e = .returned (.bool (vOk v)) ∧ w = w' := by
  have HE : Hid (vOk v = decide ((v.size : Int) ≤ 60)) := by
    show decide (v.size ≤ 60) = decide ((v.size : Int) ≤ 60)
    rw [decide_eq_decide]; omega
  go_enter Tryz.func121, Tryz.ntmps121
  go_wp2
  go_ret
  exact ⟨by rw [HE.out]; rfl, rfl⟩
theorem implKeyOk_is (k : ByteArray) (b : Bool) (h : kOk k = b) (w : World) : Calls Tryz.prog 71 #[.string k] w fun e w' => e = .returned (.bool b) ∧ w' = w := by
  subst h
  exact (implKeyOk_any k w).mono fun _ _ ⟨h1, h2⟩ => ⟨h1, h2.symm⟩
theorem specKeyOk_is (k : ByteArray) (b : Bool) (h : kOk k = b) (w : World) : Calls Tryz.prog 68 #[.string k] w fun e w' => e = .returned (.bool b) ∧ w' = w := by
  subst h
  exact (specKeyOk_any k w).mono fun _ _ ⟨h1, h2⟩ => ⟨h1, h2.symm⟩
theorem implValOk_is (k : ByteArray) (b : Bool) (h : vOk k = b) (w : World) : Calls Tryz.prog 142 #[.string k] w fun e w' => e = .returned (.bool b) ∧ w' = w := by
  subst h
  exact (implValOk_any k w).mono fun _ _ ⟨h1, h2⟩ => ⟨h1, h2.symm⟩
theorem specValOk_is (k : ByteArray) (b : Bool) (h : vOk k = b) (w : World) : Calls Tryz.prog 121 #[.string k] w fun e w' => e = .returned (.bool b) ∧ w' = w := by
  subst h
  exact (specValOk_any k w).mono fun _ _ ⟨h1, h2⟩ => ⟨h1, h2.symm⟩
end Go.Proofs.YtgnjknbgahickacGreatDoor
/-
  Trees as plain data: pairs at leaves, kids of branches; their least key, all pairs, depth, fullness, their nodes in the walk's order; and what reading a list of nodes gives, in the program's way and in the specification's.
-/
namespace Go.Proofs.YtgnjknbgahickacGreatDoor
open Go.RowKit

abbrev PB := ByteArray × ByteArray
structure NB where
  ps : List PB
  keys : List ByteArray
  kids : List Int
inductive T where
  | mk (ps : List PB) (ks : List T)
instance : Inhabited T := ⟨.mk [] []⟩
instance : Inhabited NB := ⟨⟨[], [], []⟩⟩
def T.ps : T → List PB | .mk ps _ => ps
def T.ks : T → List T | .mk _ ks => ks
theorem T.ind {P : T → Prop} (h : ∀ ps ks, (∀ k ∈ ks, P k) → P (.mk ps ks)) : ∀ t, P t := by
  intro t
  refine T.rec (motive_1 := P) (motive_2 := fun ks => ∀ k ∈ ks, P k) (fun ps ks ih => h ps ks ih) (by simp) ?_ t
  intro k ks h1 h2 x hx
  rcases List.mem_cons.1 hx with rfl | hx
  · exact h1
  · exact h2 x hx
mutual
def T.size : T → Nat | .mk _ ks => 1 + szL ks
def szL : List T → Nat | [] => 0 | k :: ks => k.size + szL ks
end
mutual
def T.all : T → List PB | .mk ps ks => ps ++ allL ks
def allL : List T → List PB | [] => [] | k :: ks => k.all ++ allL ks
end
def T.least : T → ByteArray
  | .mk ps [] => (ps.head?.map (·.1)).getD ⟨#[]⟩
  | .mk _ (k :: _) => k.least
/-- How far the first leaf is down. -/
def T.lv : T → Nat
  | .mk _ [] => 1
  | .mk _ (k :: _) => k.lv + 1
mutual
def T.dp : T → Int | .mk _ ks => if ks = [] then 1 else dpL true 0 ks
def dpL : Bool → Int → List T → Int
  | _, d, [] => d
  | f, d, k :: ks => if k.dp < 0 ∨ (f = false ∧ k.dp + 1 ≠ d) then -1 else dpL false (k.dp + 1) ks
end
mutual
def T.full : Bool → T → Bool | root, .mk ps ks => if ks = [] then decide (ps.length ≤ 4) && (decide (2 ≤ ps.length) || root && decide (ps.length = 1)) else decide (2 ≤ ks.length) && decide (ks.length ≤ 4) && decide (ps.length = 0) && fullL ks
def fullL : List T → Bool | [] => true | k :: ks => k.full false && fullL ks
end
def places : Nat → List T → List Int
  | _, [] => []
  | a, k :: ks => (a : Int) :: places (a + k.size) ks
mutual
def lay : Nat → T → List NB | a, .mk ps ks => if ks = [] then [⟨ps, [], []⟩] else ⟨[], ks.tail.map T.least, places (a + 1) ks⟩ :: layL (a + 1) ks
def layL : Nat → List T → List NB | _, [] => [] | a, k :: ks => lay a k ++ layL (a + k.size) ks
end
/-- All leaves are h down. -/
def Ev : Nat → T → Prop
  | 0, _ => False
  | h + 1, .mk _ ks => (ks = [] ∧ h = 0) ∨ (ks ≠ [] ∧ ∀ k ∈ ks, Ev h k)
def nAt (ns : List NB) (i : Nat) : NB := ns[i]?.getD ⟨[], [], []⟩
/-- At place a of ns lie the nodes l. -/
def Pre (ns : List NB) (a : Nat) (l : List NB) : Prop := ∀ i, i < l.length → ns[a + i]? = l[i]?
theorem pre_append {ns : List NB} {a : Nat} {l m : List NB} : Pre ns a (l ++ m) ↔ Pre ns a l ∧ Pre ns (a + l.length) m := by
  constructor
  · intro h
    refine ⟨fun i hi => ?_, fun i hi => ?_⟩
    · rw [h i (by simp; omega), List.getElem?_append_left hi]
    · have := h (l.length + i) (by simp; omega)
      rw [List.getElem?_append_right (by omega)] at this
      rw [Nat.add_assoc, this]
      congr 1
      omega
  · rintro ⟨h1, h2⟩ i hi
    by_cases hl : i < l.length
    · rw [h1 i hl, List.getElem?_append_left hl]
    · have := h2 (i - l.length) (by simp at hi; omega)
      rw [List.getElem?_append_right (by omega), ← this]
      congr 1
      omega
mutual
theorem lay_length : ∀ (t : T) (a : Nat), (lay a t).length = t.size
  | .mk ps ks, a => by
    by_cases h : ks = []
    · subst h; simp [lay, T.size, szL]
    · simp [lay, h, T.size, layL_length ks (a + 1)]; omega
theorem layL_length : ∀ (ks : List T) (a : Nat), (layL a ks).length = szL ks
  | [], a => by simp [layL, szL]
  | k :: ks, a => by simp [layL, szL, lay_length k a, layL_length ks (a + k.size)]
end

/-- What the specification's reading of the kids gives. -/
def rdSL (rd : Int → Option (T × Nat)) : List Int → Nat → Option (List T × Nat)
  | [], nx => some ([], nx)
  | k :: kids, nx => if k ≠ (nx : Int) then none else match rd k with
    | none => none
    | some (t, n1) => match rdSL rd kids n1 with
      | none => none
      | some (ts, n2) => some (t :: ts, n2)
def rdS (ns : List NB) : Nat → Int → Option (T × Nat)
  | 0, _ => none
  | f + 1, a => if a < 0 ∨ (ns.length : Int) ≤ a then none else match rdSL (rdS ns f) (nAt ns a.toNat).kids (a.toNat + 1) with
    | none => none
    | some (ts, n) => some (.mk (nAt ns a.toNat).ps ts, n)
/-- What the program's reading of the kids gives: ts0 have been read. -/
def rdIL (rd : Int → Nat → Option (T × Nat)) (keys : List ByteArray) : List T → List Int → Nat → Option (List T × Nat)
  | ts0, [], nx => some (ts0, nx)
  | ts0, k :: kids, nx => match rd k nx with
    | none => none
    | some (t, n1) => if 0 < ts0.length ∧ (t.least ≠ keys[ts0.length - 1]?.getD ⟨#[]⟩ ∨ t.lv ≠ (ts0[0]?.getD default).lv) then none else rdIL rd keys (ts0 ++ [t]) kids n1
def leafOk (n : NB) (root : Bool) : Bool := !(decide (n.ps.length = 0) || decide (4 < n.ps.length) || (decide (n.ps.length < 2) && !root) || !decide (n.keys.length = 0))
def brOk (n : NB) : Bool := !(decide (n.kids.length < 2) || decide (4 < n.kids.length) || !decide ((n.keys.length : Int) = (n.kids.length : Int) - 1) || !decide (n.ps.length = 0))
def rdI (ns : List NB) : Nat → Int → Nat → Option (T × Nat)
  | 0, _, _ => none
  | f + 1, pl, nx => if pl ≠ (nx : Int) ∨ (ns.length : Int) ≤ pl then none else
    if (nAt ns nx).kids.length = 0 then (if leafOk (nAt ns nx) (decide (pl = 0)) = true then some (.mk (nAt ns nx).ps [], nx + 1) else none)
    else if brOk (nAt ns nx) = true then (match rdIL (rdI ns f) (nAt ns nx).keys [] (nAt ns nx).kids (nx + 1) with
      | none => none
      | some (ts, n) => some (.mk [] ts, n)) else none
end Go.Proofs.YtgnjknbgahickacGreatDoor
/-
  Reading: the program reads just the trees that are full, evenly deep and laid in the walk's order; the specification reads these too.
-/
namespace Go.Proofs.YtgnjknbgahickacGreatDoor
open Go.RowKit

theorem ev_lv : ∀ (h : Nat) (t : T), Ev h t → t.lv = h
  | 0, _, e => e.elim
  | h + 1, .mk ps [], e => by
    rcases e with ⟨_, rfl⟩ | ⟨e, _⟩
    · rfl
    · exact absurd rfl e
  | h + 1, .mk ps (k :: ks), e => by
    rcases e with ⟨e, _⟩ | ⟨_, e⟩
    · cases e
    · simp [T.lv, ev_lv h k (e k (by simp))]
theorem ev_dpL (h : Nat) (ih : ∀ t, Ev h t → t.dp = h) : ∀ (ks : List T), (∀ k ∈ ks, Ev h k) → ∀ f, ks ≠ [] ∨ f = false → dpL f (if f then 0 else (h : Int) + 1) ks = h + 1
  | [], _, f, hf => by
    rcases hf with hf | rfl
    · exact absurd rfl hf
    · simp [dpL]
  | k :: ks, hk, f, _ => by
    have e := ih k (hk k (by simp))
    have := ev_dpL h ih ks (fun x hx => hk x (by simp [hx])) false (.inr rfl)
    simp only [dpL, e]
    rw [if_neg]
    · simpa using this
    · rintro (h1 | ⟨rfl, h1⟩)
      · omega
      · simp at h1
theorem ev_dp : ∀ (h : Nat) (t : T), Ev h t → t.dp = h
  | 0, _, e => e.elim
  | h + 1, .mk ps ks, e => by
    rcases e with ⟨rfl, rfl⟩ | ⟨e1, e2⟩
    · simp [T.dp]
    · have := ev_dpL h (ev_dp h) ks e2 true (.inl e1)
      simpa [T.dp, e1] using this
theorem dpL_neg_or (ks : List T) : ∀ (f : Bool) (d : Int), (dpL f d ks = -1) ∨ (∀ k ∈ ks, 0 ≤ k.dp ∧ k.dp + 1 = dpL f d ks) ∧ (f = false → ks ≠ [] → dpL f d ks = d) ∧ (ks = [] → dpL f d ks = d) := by
  induction ks with
  | nil => intro f d; right; simp [dpL]
  | cons k ks ih =>
    intro f d
    simp only [dpL]
    split
    · exact .inl rfl
    · rename_i h
      rcases ih false (k.dp + 1) with h1 | ⟨h1, h2, h3⟩
      · exact .inl h1
      · have hv : dpL false (k.dp + 1) ks = k.dp + 1 := by
          by_cases hk : ks = []
          · exact h3 hk
          · exact h2 rfl hk
        refine .inr ⟨fun x hx => ?_, fun hf _ => ?_, fun h => by cases h⟩
        · rcases List.mem_cons.1 hx with rfl | hx
          · exact ⟨by omega, hv.symm⟩
          · exact h1 x hx
        · rw [hv]
          by_cases e : k.dp + 1 = d
          · exact e
          · exact absurd (.inr ⟨hf, e⟩) h
theorem dp_ev : ∀ (t : T), 0 ≤ t.dp → Ev t.dp.toNat t := by
  refine T.ind ?_
  intro ps ks ih h0
  by_cases hk : ks = []
  · subst hk
    simp [T.dp, Ev]
  · have e : (T.mk ps ks).dp = dpL true 0 ks := by simp [T.dp, hk]
    rw [e] at h0 ⊢
    rcases dpL_neg_or ks true 0 with h1 | ⟨h1, _, _⟩
    · omega
    · obtain ⟨k, hk'⟩ := List.exists_mem_of_ne_nil ks hk
      have := h1 k hk'
      obtain ⟨m, hm⟩ : ∃ m : Nat, dpL true 0 ks = m + 1 := ⟨(dpL true 0 ks).toNat - 1, by omega⟩
      rw [hm]
      show Ev (m + 1) _
      refine .inr ⟨hk, fun x hx => ?_⟩
      have hx' := h1 x hx
      have := ih x hx hx'.1
      rwa [show x.dp.toNat = m by omega] at this
theorem pre_cons {ns : List NB} {a : Nat} {n : NB} {l : List NB} : Pre ns a (n :: l) ↔ ns[a]? = some n ∧ Pre ns (a + 1) l := by
  rw [show n :: l = [n] ++ l from rfl, pre_append]
  constructor
  · rintro ⟨h1, h2⟩; exact ⟨by simpa using h1 0 (by simp), h2⟩
  · rintro ⟨h1, h2⟩; refine ⟨fun i hi => ?_, h2⟩; simp at hi; subst hi; simpa using h1
theorem pre_lt {ns : List NB} {a : Nat} {n : NB} (h : ns[a]? = some n) : a < ns.length ∧ nAt ns a = n := by
  obtain ⟨h1, h2⟩ := List.getElem?_eq_some_iff.1 h
  exact ⟨h1, by simp [nAt, h]⟩
theorem nAt_some {ns : List NB} {a : Nat} (h : a < ns.length) : ns[a]? = some (nAt ns a) := by simp [nAt, h]
theorem T.size_pos (t : T) : 0 < t.size := by cases t; simp [T.size]; omega

theorem fullL_iff (ks : List T) : fullL ks = true ↔ ∀ k ∈ ks, k.full false = true := by
  induction ks with
  | nil => simp [fullL]
  | cons k ks ih => simp [fullL, ih]
theorem full_br {r : Bool} {ps : List PB} {ks : List T} (h : (T.mk ps ks).full r = true) (hk : ks ≠ []) : 2 ≤ ks.length ∧ ks.length ≤ 4 ∧ ps = [] ∧ ∀ k ∈ ks, k.full false = true := by
  simp only [T.full, hk, if_false, Bool.and_eq_true, decide_eq_true_eq] at h
  exact ⟨h.1.1.1, h.1.1.2, List.eq_nil_of_length_eq_zero h.1.2, (fullL_iff ks).1 h.2⟩
theorem full_lf {r : Bool} {ps : List PB} (h : (T.mk ps []).full r = true) : ps.length ≤ 4 ∧ (2 ≤ ps.length ∨ r = true ∧ ps.length = 1) := by
  simpa [T.full] using h

/-- The specification reads what lies there. -/
theorem rdSL_some (ns : List NB) (f : Nat) (ih : ∀ (t : T) (h a : Nat) (r : Bool), Ev h t → t.full r = true → h ≤ f → Pre ns a (lay a t) → rdS ns f a = some (t, a + t.size)) (h : Nat) (hf : h ≤ f) :
    ∀ (ks : List T) (a : Nat), (∀ k ∈ ks, Ev h k) → (∀ k ∈ ks, k.full false = true) → Pre ns a (layL a ks) → rdSL (rdS ns f) (places a ks) a = some (ks, a + szL ks)
  | [], a, _, _, _ => by simp [places, rdSL, szL]
  | k :: ks, a, he, hu, hp => by
    rw [layL, pre_append, lay_length] at hp
    have h1 := ih k h a false (he k (by simp)) (hu k (by simp)) hf hp.1
    have h2 := rdSL_some ns f ih h hf ks (a + k.size) (fun x hx => he x (by simp [hx])) (fun x hx => hu x (by simp [hx])) hp.2
    simp [places, rdSL, h1, h2, szL, Nat.add_assoc]
theorem rdS_some (ns : List NB) : ∀ (f : Nat) (t : T) (h a : Nat) (r : Bool), Ev h t → t.full r = true → h ≤ f → Pre ns a (lay a t) → rdS ns f a = some (t, a + t.size)
  | 0, t, h, a, r, he, hu, hf, hp => by obtain rfl : h = 0 := by omega
                                        exact he.elim
  | f + 1, .mk ps ks, 0, a, r, he, hu, hf, hp => he.elim
  | f + 1, .mk ps ks, h + 1, a, r, he, hu, hf, hp => by
    by_cases hk : ks = []
    · subst hk
      simp only [lay, if_true] at hp
      obtain ⟨h1, h2⟩ := pre_lt (pre_cons.1 hp).1
      simp [rdS, h2, rdSL, T.size, szL]
      omega
    · simp only [lay, hk, if_false] at hp
      obtain ⟨h0, h3⟩ := pre_cons.1 hp
      obtain ⟨h1, h2⟩ := pre_lt h0
      obtain ⟨_, _, rfl, hu'⟩ := full_br hu hk
      rcases he with ⟨e, _⟩ | ⟨_, e⟩
      · exact absurd e hk
      · have := rdSL_some ns f (rdS_some ns f) h (by omega) ks (a + 1) e hu' h3
        simp [rdS, h2, this, T.size]
        omega
/-- The program reads what lies there. -/
theorem rdIL_some (ns : List NB) (f : Nat) (ih : ∀ (t : T) (h a : Nat), Ev h t → t.full (decide (a = 0)) = true → h ≤ f → Pre ns a (lay a t) → rdI ns f a a = some (t, a + t.size)) (h : Nat) (hf : h ≤ f) (keys : List ByteArray) :
    ∀ (ks ts0 : List T) (a : Nat), 0 < a → (∀ k ∈ ts0, Ev h k) → (∀ k ∈ ks, Ev h k) → (∀ k ∈ ks, k.full false = true) → (∀ i, 0 < i → i < (ts0 ++ ks).length → keys[i - 1]?.getD ⟨#[]⟩ = ((ts0 ++ ks)[i]?.getD default).least) →
      Pre ns a (layL a ks) → rdIL (rdI ns f) keys ts0 (places a ks) a = some (ts0 ++ ks, a + szL ks)
  | [], ts0, a, _, _, _, _, _, _ => by simp [places, rdIL, szL]
  | k :: ks, ts0, a, ha, hz, he, hu, hkey, hp => by
    rw [layL, pre_append, lay_length] at hp
    have h1 := ih k h a (he k (by simp)) (by rw [decide_eq_false (by omega)]; exact hu k (by simp)) hf hp.1
    have h2 := rdIL_some ns f ih h hf keys ks (ts0 ++ [k]) (a + k.size) (by omega) (by
        intro x hx
        rcases List.mem_append.1 hx with hx | hx
        · exact hz x hx
        · simp at hx; subst hx; exact he x (by simp)) (fun x hx => he x (by simp [hx])) (fun x hx => hu x (by simp [hx])) (by simpa using hkey) hp.2
    simp only [places, rdIL, h1]
    rw [if_neg]
    · rw [h2]; simp [szL, Nat.add_assoc]
    · rintro ⟨h0, h3 | h3⟩
      · have := hkey ts0.length h0 (by simp)
        simp at this
        exact h3 (by rw [this])
      · apply h3
        rw [ev_lv h k (he k (by simp))]
        obtain ⟨x, hx⟩ : ∃ x, ts0[0]? = some x := ⟨ts0[0], by simp⟩
        rw [hx]
        exact (ev_lv h x (hz x (List.mem_of_getElem? hx))).symm
theorem rdI_some (ns : List NB) : ∀ (f : Nat) (t : T) (h a : Nat), Ev h t → t.full (decide (a = 0)) = true → h ≤ f → Pre ns a (lay a t) → rdI ns f a a = some (t, a + t.size)
  | 0, t, h, a, he, hu, hf, hp => by obtain rfl : h = 0 := by omega
                                     exact he.elim
  | f + 1, .mk ps ks, 0, a, he, hu, hf, hp => he.elim
  | f + 1, .mk ps ks, h + 1, a, he, hu, hf, hp => by
    by_cases hk : ks = []
    · subst hk
      simp only [lay, if_true] at hp
      obtain ⟨h1, h2⟩ := pre_lt (pre_cons.1 hp).1
      obtain ⟨u1, u2⟩ := full_lf hu
      have hl : leafOk ⟨ps, [], []⟩ (decide ((a : Int) = 0)) = true := by
        have e1 : ps.length ≠ 0 := by rcases u2 with u2 | ⟨_, u2⟩ <;> omega
        have e2 : ps.length < 2 → a = 0 := by
          intro h; rcases u2 with u2 | ⟨u2, _⟩
          · omega
          · exact of_decide_eq_true u2
        simp only [leafOk, Bool.not_eq_true', Bool.or_eq_false_iff, decide_eq_false_iff_not, Bool.and_eq_false_iff, List.length_nil, decide_true, Bool.not_true]
        refine ⟨⟨⟨e1, by omega⟩, ?_⟩, trivial⟩
        by_cases h2 : ps.length < 2
        · right; simp [e2 h2]
        · left; exact h2
      rw [rdI, if_neg (by omega), h2, if_pos (by rfl), if_pos hl]
      simp [T.size, szL]
    · simp only [lay, hk, if_false] at hp
      obtain ⟨h0, h3⟩ := pre_cons.1 hp
      obtain ⟨h1, h2⟩ := pre_lt h0
      obtain ⟨u1, u2, rfl, hu'⟩ := full_br hu hk
      rcases he with ⟨e, _⟩ | ⟨_, e⟩
      · exact absurd e hk
      · have := rdIL_some ns f (rdI_some ns f) h (by omega) (ks.tail.map T.least) ks [] (a + 1) (by omega) (by simp) e hu' (by
          intro i hi hlt
          obtain ⟨j, rfl⟩ : ∃ j, i = j + 1 := ⟨i - 1, by omega⟩
          simp at hlt ⊢
          simp [hlt]) h3
        have hpl : ∀ (ks : List T) (a : Nat), (places a ks).length = ks.length := by
          intro ks; induction ks with
          | nil => intro a; rfl
          | cons k ks ih => intro a; simp [places, ih]
        have hb : brOk ⟨[], ks.tail.map T.least, places (a + 1) ks⟩ = true := by
          simp only [brOk, hpl, Bool.not_eq_true', Bool.or_eq_false_iff, decide_eq_false_iff_not, Bool.not_eq_false', decide_eq_true_eq, List.length_nil, List.length_map, List.length_tail]
          refine ⟨⟨⟨by omega, by omega⟩, by omega⟩, trivial⟩
        rw [rdI, if_neg (by omega), h2, if_neg (by simp only [hpl]; omega), if_pos hb]
        simp only [this]
        simp [T.size]
        omega
theorem rdIL_sound (ns : List NB) (f : Nat) (ih : ∀ (pl : Int) (nx : Nat) (t : T) (n1 : Nat), rdI ns f pl nx = some (t, n1) → pl = nx ∧ nx < ns.length ∧ t.full (decide (nx = 0)) = true ∧ (∃ h, Ev h t) ∧ Pre ns nx (lay nx t) ∧ n1 = nx + t.size)
    (keys : List ByteArray) (h : Nat) : ∀ (kids : List Int) (ts0 : List T) (nx : Nat) (ts : List T) (n : Nat), 0 < nx → 0 < ts0.length → (∀ k ∈ ts0, Ev h k) → rdIL (rdI ns f) keys ts0 kids nx = some (ts, n) →
      ∃ ks, ts = ts0 ++ ks ∧ kids = places nx ks ∧ (∀ k ∈ ks, Ev h k) ∧ (∀ k ∈ ks, k.full false = true) ∧ (∀ i, ts0.length ≤ i → i < ts.length → keys[i - 1]?.getD ⟨#[]⟩ = (ts[i]?.getD default).least) ∧ Pre ns nx (layL nx ks) ∧ n = nx + szL ks
  | [], ts0, nx, ts, n, hnx, hl, hz, hr => by
    simp only [rdIL, Option.some.injEq, Prod.mk.injEq] at hr
    obtain ⟨rfl, rfl⟩ := hr
    exact ⟨[], by simp, rfl, by simp, by simp, fun i h1 h2 => by omega, fun i hi => by simp [layL] at hi, rfl⟩
  | k :: kids, ts0, nx, ts, n, hnx, hl, hz, hr => by
    simp only [rdIL] at hr
    cases e : rdI ns f k nx with
    | none => simp [e] at hr
    | some x =>
      obtain ⟨t, n1⟩ := x
      obtain ⟨rfl, i2, i3, ⟨h', i4⟩, i5, rfl⟩ := ih _ _ _ _ e
      simp only [e] at hr
      split at hr
      · cases hr
      · rename_i hc
        have hl0 : t.least = keys[ts0.length - 1]?.getD ⟨#[]⟩ := by
          by_cases q : t.least = keys[ts0.length - 1]?.getD ⟨#[]⟩
          · exact q
          · exact absurd ⟨hl, .inl q⟩ hc
        have hl1 : t.lv = (ts0[0]?.getD default).lv := by
          by_cases q : t.lv = (ts0[0]?.getD default).lv
          · exact q
          · exact absurd ⟨hl, .inr q⟩ hc
        obtain ⟨x, hx⟩ : ∃ x, ts0[0]? = some x := ⟨ts0[0], by simp⟩
        have hh : h' = h := by
          rw [← ev_lv h' t i4, hl1, hx]
          exact ev_lv h x (hz x (List.mem_of_getElem? hx))
        subst hh
        obtain ⟨ks, rfl, rfl, k3, k4, k5, k6, rfl⟩ := rdIL_sound ns f ih keys h' kids (ts0 ++ [t]) (nx + t.size) ts n (by omega) (by simp) (by
          intro y hy
          rcases List.mem_append.1 hy with hy | hy
          · exact hz y hy
          · simp at hy; subst hy; exact i4) hr
        refine ⟨t :: ks, by simp, rfl, ?_, ?_, ?_, ?_, by simp [szL, Nat.add_assoc]⟩
        · intro y hy
          rcases List.mem_cons.1 hy with rfl | hy
          · exact i4
          · exact k3 y hy
        · intro y hy
          rcases List.mem_cons.1 hy with rfl | hy
          · rwa [decide_eq_false (by omega)] at i3
          · exact k4 y hy
        · intro i h1 h2
          by_cases hi : i = ts0.length
          · subst hi
            rw [← hl0]
            simp
          · exact k5 i (by simp; omega) h2
        · rw [layL, pre_append, lay_length]
          exact ⟨i5, k6⟩
theorem rdI_sound (ns : List NB) : ∀ (f : Nat) (pl : Int) (nx : Nat) (t : T) (n1 : Nat), rdI ns f pl nx = some (t, n1) → pl = nx ∧ nx < ns.length ∧ t.full (decide (nx = 0)) = true ∧ (∃ h, Ev h t) ∧ Pre ns nx (lay nx t) ∧ n1 = nx + t.size
  | 0, pl, nx, t, n1, h => by simp [rdI] at h
  | f + 1, pl, nx, t, n1, h => by
    rw [rdI] at h
    split at h
    · cases h
    · rename_i h0
      have hpl : pl = nx := by omega
      subst hpl
      have hlt : nx < ns.length := by omega
      have hn := nAt_some hlt
      generalize nAt ns nx = N at h hn
      obtain ⟨nps, nkeys, nkids⟩ := N
      refine ⟨rfl, hlt, ?_⟩
      split at h
      · rename_i hk
        have hk := List.eq_nil_of_length_eq_zero hk
        simp only at hk
        subst hk
        split at h
        · rename_i hl
          simp only [Option.some.injEq, Prod.mk.injEq] at h
          obtain ⟨rfl, rfl⟩ := h
          simp only [leafOk, Bool.not_eq_true', Bool.or_eq_false_iff, decide_eq_false_iff_not, Bool.and_eq_false_iff, Bool.not_eq_false', decide_eq_true_eq] at hl
          obtain ⟨⟨⟨l1, l2⟩, l3⟩, l4⟩ := hl
          have l4 := List.eq_nil_of_length_eq_zero l4
          subst l4
          refine ⟨?_, ⟨1, by simp [Ev]⟩, ?_, by simp [T.size, szL]⟩
          · simp only [T.full, if_true, Bool.and_eq_true, decide_eq_true_eq, Bool.or_eq_true]
            refine ⟨by omega, ?_⟩
            rcases l3 with l3 | l3
            · left; omega
            · by_cases h2 : 2 ≤ nps.length
              · exact .inl h2
              · right; exact ⟨by omega, by omega⟩
          · simp only [lay, if_true]
            exact pre_cons.2 ⟨hn, fun i hi => by simp at hi⟩
        · cases h
      · rename_i hk
        split at h
        · rename_i hb
          simp only [brOk, Bool.not_eq_true', Bool.or_eq_false_iff, decide_eq_false_iff_not, Bool.not_eq_false', decide_eq_true_eq] at hb
          obtain ⟨⟨⟨b1, b2⟩, b3⟩, b4⟩ := hb
          have b4 := List.eq_nil_of_length_eq_zero b4
          subst b4
          cases nkids with
          | nil => simp at b1
          | cons k kids =>
            cases e : rdIL (rdI ns f) nkeys [] (k :: kids) (nx + 1) with
            | none => simp [e] at h
            | some x =>
              obtain ⟨ts, n⟩ := x
              simp only [e, Option.some.injEq, Prod.mk.injEq] at h
              obtain ⟨rfl, rfl⟩ := h
              simp only [rdIL] at e
              cases e1 : rdI ns f k (nx + 1) with
              | none => simp [e1] at e
              | some y =>
                obtain ⟨t0, n1⟩ := y
                simp only [e1, List.length_nil, Nat.lt_irrefl, false_and, if_false, List.nil_append] at e
                obtain ⟨rfl, i2, i3, ⟨h', i4⟩, i5, rfl⟩ := rdI_sound ns f _ _ _ _ e1
                rw [decide_eq_false (by omega)] at i3
                obtain ⟨ks, rfl, rfl, k3, k4, k5, k6, rfl⟩ := rdIL_sound ns f (rdI_sound ns f) nkeys h' kids [t0] (nx + 1 + t0.size) ts n (by omega) (by simp) (by simp; exact i4) e
                have hpl : ∀ (ks : List T) (a : Nat), (places a ks).length = ks.length := by
                  intro ks; induction ks with
                  | nil => intro a; rfl
                  | cons k ks ih => intro a; simp [places, ih]
                simp only [List.length_cons, hpl] at b1 b2 b3
                have hkeys : nkeys = ks.map T.least := by
                  apply List.ext_getElem
                  · simp; omega
                  · intro i h1 h2
                    have := k5 (i + 1) (by simp) (by simp at h2 ⊢; omega)
                    simp at h2
                    simp [h1, h2] at this
                    simpa using this
                refine ⟨?_, ⟨h' + 1, .inr ⟨by simp, ?_⟩⟩, ?_, by simp [T.size, szL]; omega⟩
                · simp only [T.full, List.singleton_append, reduceCtorEq, if_false, Bool.and_eq_true, decide_eq_true_eq, List.length_cons, List.length_nil]
                  refine ⟨⟨⟨by omega, by omega⟩, trivial⟩, ?_⟩
                  simp only [fullL, i3, Bool.true_and]
                  exact (fullL_iff ks).2 k4
                · intro y hy
                  rcases List.mem_cons.1 hy with rfl | hy
                  · exact i4
                  · exact k3 y hy
                · simp only [lay, List.singleton_append, reduceCtorEq, if_false, List.tail_cons]
                  refine pre_cons.2 ⟨by rw [hn, hkeys]; rfl, ?_⟩
                  rw [layL, pre_append, lay_length]
                  exact ⟨i5, k6⟩
        · cases h
end Go.Proofs.YtgnjknbgahickacGreatDoor
/-
  Which lists of nodes are right trees, said once for the program's way of reading and the specification's.
-/
namespace Go.Proofs.YtgnjknbgahickacGreatDoor
open Go.RowKit

def pAtB (l : List PB) (i : Nat) : PB := l[i]?.getD (⟨#[]⟩, ⟨#[]⟩)
/-- The pairs are right from place k on. -/
def pOkF (l : List PB) : Nat → Nat → Bool
  | 0, _ => true
  | f + 1, k => kOk (pAtB l k).1 && vOk (pAtB l k).2 && (decide (k = 0) || Op.bytesLess (pAtB l (k - 1)).1.toList (pAtB l k).1.toList) && pOkF l f (k + 1)
def pOk (l : List PB) : Bool := decide (l.length ≤ 200) && pOkF l l.length 0
theorem pOk_len {l : List PB} (h : pOk l = true) : l.length ≤ 200 := by simp [pOk] at h; exact h.1
mutual
theorem full_all : ∀ (t : T), t.full false = true → t.size + 1 ≤ t.all.length
  | .mk ps ks, h => by
    by_cases hk : ks = []
    · subst hk
      have := full_lf h
      simp at this
      simp [T.size, szL, T.all, allL]
      omega
    · obtain ⟨h1, h2, rfl, h3⟩ := full_br h hk
      have := fullL_all ks h3
      simp [T.size, T.all]
      omega
theorem fullL_all : ∀ (ks : List T), (∀ k ∈ ks, k.full false = true) → szL ks + ks.length ≤ (allL ks).length
  | [], _ => by simp [szL]
  | k :: ks, h => by
    have h1 := full_all k (h k (by simp))
    have h2 := fullL_all ks (fun x hx => h x (by simp [hx]))
    simp [szL, allL]
    omega
end
theorem full_root {t : T} (h : t.full true = true) : t.size ≤ t.all.length := by
  obtain ⟨ps, ks⟩ := t
  by_cases hk : ks = []
  · subst hk
    have := full_lf h
    simp [T.size, szL, T.all, allL]
    omega
  · obtain ⟨h1, h2, rfl, h3⟩ := full_br h hk
    have := fullL_all ks h3
    simp [T.size, T.all]
    omega
theorem ev_size : ∀ (h : Nat) (t : T) (r : Bool), Ev h t → t.full r = true → 2 ^ h ≤ t.size + 1
  | 0, t, r, e, _ => e.elim
  | h + 1, .mk ps ks, r, e, hu => by
    rcases e with ⟨rfl, rfl⟩ | ⟨hk, e⟩
    · simp [T.size, szL]
    · obtain ⟨h1, h2, rfl, h3⟩ := full_br hu hk
      have : ∀ (l : List T), (∀ k ∈ l, k ∈ ks) → l.length * (2 ^ h - 1) ≤ szL l := by
        intro l
        induction l with
        | nil => simp [szL]
        | cons k l ih =>
          intro hl
          have a1 := ev_size h k false (e k (hl k (by simp))) (h3 k (hl k (by simp)))
          have a2 := ih (fun x hx => hl x (by simp [hx]))
          simp only [szL, List.length_cons, Nat.add_mul, Nat.one_mul]
          omega
      have a1 := this ks (fun _ h => h)
      have a2 : 2 * (2 ^ h - 1) ≤ ks.length * (2 ^ h - 1) := Nat.mul_le_mul_right _ h1
      have a3 : 0 < 2 ^ h := Nat.pos_of_ne_zero (by simp)
      simp only [T.size]
      rw [Nat.pow_succ]
      omega
theorem ev_le_size {h : Nat} {t : T} {r : Bool} (e : Ev h t) (hu : t.full r = true) : h ≤ t.size := by
  have h1 := ev_size h t r e hu
  have h2 : h < 2 ^ h := Nat.lt_two_pow_self
  omega
/-- The nodes ns are the right tree t. -/
structure Good (ns : List NB) (t : T) : Prop where
  full : t.full true = true
  even : ∃ h, Ev h t
  ok : pOk t.all = true
  laid : lay 0 t = ns
def okT (ns : List NB) : Option T :=
  if ns.length = 0 then some (.mk [] []) else if 400 ≤ ns.length then none else match rdI ns ns.length 0 0 with
    | none => none
    | some (t, n) => if n = ns.length ∧ pOk t.all = true then some t else none
theorem pre_self (ns : List NB) : Pre ns 0 ns := fun i _ => by simp
theorem pre_all {ns l : List NB} (h : Pre ns 0 l) (hl : l.length = ns.length) : l = ns := by
  apply List.ext_getElem?
  intro i
  by_cases hi : i < l.length
  · have := h i hi; simpa using this.symm
  · rw [List.getElem?_eq_none (by omega), List.getElem?_eq_none (by omega)]
theorem Good.len {ns : List NB} {t : T} (g : Good ns t) : ns.length = t.size ∧ ns.length ≤ 200 := by
  have h1 := full_root g.full
  have h2 := pOk_len g.ok
  have h3 := lay_length t 0
  rw [g.laid] at h3
  omega
theorem okT_good {ns : List NB} {t : T} (hne : ns.length ≠ 0) : okT ns = some t ↔ Good ns t := by
  constructor
  · intro h
    rw [okT, if_neg hne] at h
    split at h
    · cases h
    · split at h
      · cases h
      · rename_i x t' n hr
        split at h
        · rename_i hc
          cases h
          obtain ⟨_, _, h3, h4, h5, rfl⟩ := rdI_sound ns _ _ _ _ _ hr
          exact ⟨h3, h4, hc.2, pre_all h5 (by rw [lay_length]; omega)⟩
        · cases h
  · intro g
    obtain ⟨h, hh⟩ := g.even
    have hl := g.len
    have := rdI_some ns ns.length t h 0 hh g.full (by have := ev_le_size hh g.full; omega) (by rw [g.laid]; exact pre_self ns)
    rw [okT, if_neg hne, if_neg (by omega)]
    rw [show rdI ns ns.length 0 0 = some (t, 0 + t.size) from this]
    simp only
    rw [if_pos ⟨by omega, g.ok⟩]
instance : DecidableEq NB := fun a b => decidable_of_iff (a.ps = b.ps ∧ a.keys = b.keys ∧ a.kids = b.kids) (by cases a; cases b; simp)
/-- What the specification asks of the nodes. -/
def spOk (ns : List NB) : Bool :=
  if ns.length = 0 then true else if 400 < ns.length then false else match rdS ns 13 0 with
    | none => false
    | some (t, n) => decide (n = ns.length) && t.full true && decide (0 ≤ t.dp) && pOk t.all && decide (lay 0 t = ns)
theorem Good.read {ns : List NB} {t : T} (g : Good ns t) : rdS ns 13 0 = some (t, ns.length) := by
  obtain ⟨h, hh⟩ := g.even
  have hl := g.len
  have h1 := ev_size h t true hh g.full
  have h2 : h ≤ 13 := by
    rcases Nat.lt_or_ge 13 h with h3 | h3
    · have : 2 ^ 13 ≤ 2 ^ h := Nat.pow_le_pow_right (by omega) (by omega)
      have e : 2 ^ 13 = 8192 := by decide
      omega
    · exact h3
  have := rdS_some ns 13 t h 0 true hh g.full h2 (by rw [g.laid]; exact pre_self ns)
  rw [show rdS ns 13 0 = some (t, 0 + t.size) from this]
  simp; omega
theorem Good.dp {ns : List NB} {t : T} (g : Good ns t) : t.dp = t.lv := by
  obtain ⟨h, hh⟩ := g.even
  rw [ev_dp h t hh, ev_lv h t hh]
theorem spOk_eq (ns : List NB) : spOk ns = (okT ns).isSome := by
  by_cases hne : ns.length = 0
  · simp [spOk, okT, hne]
  · cases e : okT ns with
    | some t =>
      have g := (okT_good hne).1 e
      have hl := g.len
      have hd := g.dp
      simp only [spOk, hne, if_false, g.read, g.full, g.ok, g.laid]
      rw [if_neg (by omega)]
      simp
      omega
    | none =>
      rw [Option.isSome_none, Bool.eq_false_iff]
      intro h
      simp only [spOk, hne, if_false] at h
      split at h
      · cases h
      · split at h
        · cases h
        · rename_i x t n hr
          simp only [Bool.and_eq_true, decide_eq_true_eq] at h
          obtain ⟨⟨⟨⟨h1, h2⟩, h3⟩, h4⟩, h5⟩ := h
          have := (okT_good hne).2 ⟨h2, ⟨_, dp_ev t h3⟩, h4, h5⟩
          rw [e] at this
          cases this
end Go.Proofs.YtgnjknbgahickacGreatDoor
/-
  What is read through a slice value, and in which blocks it lies; which blocks a stretch of the program may have turned.
-/
namespace Go.Proofs.YtgnjknbgahickacGreatDoor
open Go.RowKit

/-- Of the blocks of w only those of R have turned in w'. -/
structure Only (R : Nat → Prop) (w w' : World) : Prop where
  os : w'.os = w.os
  tape : w'.tape = w.tape
  output : w'.output = w.output
  size : w.heap.size ≤ w'.heap.size
  block : ∀ b, b < w.heap.size → ¬ R b → w'.heap[b]? = w.heap[b]?
theorem Only.refl (R : Nat → Prop) (w : World) : Only R w w := ⟨rfl, rfl, rfl, Nat.le_refl _, fun _ _ _ => rfl⟩
theorem Only.trans {R : Nat → Prop} {a b c : World} (h : Only R a b) (k : Only R b c) : Only R a c :=
  ⟨k.os.trans h.os, k.tape.trans h.tape, k.output.trans h.output, Nat.le_trans h.size k.size, fun i hi hr => (k.block i (Nat.lt_of_lt_of_le hi h.size) hr).trans (h.block i hi hr)⟩
/-- What was made since a may turn. -/
theorem Only.then {R R' : Nat → Prop} {a b c : World} (h : Only R a b) (k : Only R' b c) (hr : ∀ i, i < a.heap.size → R' i → R i) : Only R a c :=
  ⟨k.os.trans h.os, k.tape.trans h.tape, k.output.trans h.output, Nat.le_trans h.size k.size, fun i hi hn => (k.block i (Nat.lt_of_lt_of_le hi h.size) (fun h' => hn (hr i hi h'))).trans (h.block i hi hn)⟩
theorem Only.mono {R R' : Nat → Prop} {a b : World} (h : Only R a b) (hr : ∀ i, i < a.heap.size → R i → R' i) : Only R' a b :=
  ⟨h.os, h.tape, h.output, h.size, fun i hi hn => h.block i hi (fun h' => hn (hr i hi h'))⟩
theorem only_of_below {w w' : World} (h : Below w.heap.size w w') (R : Nat → Prop) : Only R w w' := ⟨h.os, h.tape, h.output, h.size, fun b hb _ => h.block b hb⟩
theorem only_of_grown {w w' : World} {row : Option Nat} (h : w.grownBy w' row) {R : Nat → Prop} (hr : ∀ k, row = some k → R k) : Only R w w' :=
  ⟨h.os, h.tape, h.output, h.size, fun b hb hn => h.block b hb (fun e => hn (hr b e.symm))⟩
theorem Only.below {R : Nat → Prop} {w w' : World} {B : Nat} (h : Only R w w') (hB : B ≤ w.heap.size) (hr : ∀ b, b < B → ¬ R b) : Below B w w' := ⟨h.os, h.tape, h.output, h.size, fun b hb => h.block b (by omega) (hr b hb)⟩
theorem only_alloc (R : Nat → Prop) (w : World) (o : Obj) : Only R w (w.alloc o) := ⟨rfl, rfl, rfl, by simp, fun b hb _ => Below.heap_alloc _ _ _ hb⟩
theorem only_set {R : Nat → Prop} {w : World} {p : Addr} (h : R p.block) (u : Value) : Only R w (w.setCell p u) := ⟨rfl, rfl, rfl, by simp [World.setCell], fun b _ hn => Below.heap_setCell _ _ _ _ (fun e => hn (e ▸ h))⟩
theorem only_drew (R : Nat → Prop) (w : World) (q : Nat) : Only R w (w.drewN q) := ⟨rfl, rfl, rfl, Nat.le_refl _, fun _ _ _ => rfl⟩

/-- The slice value v leads in w to n elements whose cells are xs, in a block of S. -/
def Rw (w : World) (S : Nat → Prop) (v : Value) (n : Nat) (xs : List Value) : Prop :=
  ∃ a c, v = .slice a n c ∧ n ≤ c ∧ c ≤ 9223372036854775807 ∧ (n = 0 → xs = []) ∧ (a = none → c = 0) ∧ (0 < n → ∃ b off, a = some ⟨b, off, none⟩ ∧ b < w.heap.size ∧ S b ∧ ∀ j u, xs[j]? = some u → w.cell? ⟨b, off + j, none⟩ = some u)
theorem Rw.to {w w' : World} {S R : Nat → Prop} {v : Value} {n : Nat} {xs : List Value} (h : Rw w S v n xs) (ho : Only R w w') (hd : ∀ b, S b → b < w.heap.size → ¬ R b) : Rw w' S v n xs := by
  obtain ⟨a, c, h1, h2, h3, h4, hn, h5⟩ := h
  refine ⟨a, c, h1, h2, h3, h4, hn, fun hp => ?_⟩
  obtain ⟨b, off, h6, h7, h8, h9⟩ := h5 hp
  refine ⟨b, off, h6, Nat.lt_of_lt_of_le h7 ho.size, h8, fun j u hu => ?_⟩
  rw [← h9 j u hu]
  exact World.cell?_of_block (w := w) (ho.block b h7 (hd b h8 h7))
theorem Rw.mono {w : World} {S R : Nat → Prop} {v : Value} {n : Nat} {xs : List Value} (h : Rw w S v n xs) (hd : ∀ b, S b → b < w.heap.size → R b) : Rw w R v n xs := by
  obtain ⟨a, c, h1, h2, h3, h4, hn, h5⟩ := h
  refine ⟨a, c, h1, h2, h3, h4, hn, fun hp => ?_⟩
  obtain ⟨b, off, h6, h7, h8, h9⟩ := h5 hp
  exact ⟨b, off, h6, h7, hd b h8 h7, h9⟩
theorem rw_nil (w : World) (S : Nat → Prop) : Rw w S (.slice none 0 0) 0 [] := ⟨none, 0, rfl, Nat.le_refl _, by omega, fun _ => rfl, fun _ => rfl, fun h => by omega⟩
/-- What one owns is read. -/
theorem rw_own {w : World} {base : Nat} {e : TypeId} {size : Nat} {v : Value} {n : Nat} {xs : List Value} (h : w.ownsRow base e size v n xs) {S : Nat → Prop} (hS : ∀ k, v.ownBlock = some k → base ≤ k → k < w.heap.size → S k) : Rw w S v n xs := by
  have hlt := World.ownsRow.lt h
  have hc := fun g hg => World.ownsRow.cells h (g := g) hg
  obtain ⟨h1, h2⟩ := h
  rcases h2 with ⟨rfl, rfl⟩ | ⟨g, cap, cur, rfl, h3, h4, h5, h6, h7, h8⟩
  · have : xs = [] := List.eq_nil_of_length_eq_zero (by omega)
    subst this
    exact rw_nil w S
  · refine ⟨_, cap, rfl, h5, by unfold maxLen at h6; omega, fun h0 => List.eq_nil_of_length_eq_zero (by rw [h1, h0]; omega), fun h => by (cases h), fun _ => ⟨g, 0, rfl, (hlt g rfl).2, hS g rfl h3 (hlt g rfl).2, fun j u hu => ?_⟩⟩
    have := hc g rfl j u hu
    rwa [Addr.add_lit] at this
theorem own_kept {w w' : World} {R : Nat → Prop} {base : Nat} {e : TypeId} {size : Nat} {v : Value} {n : Nat} {xs : List Value} (h : w.ownsRow base e size v n xs) (ho : Only R w w') (hR : ∀ k, v.ownBlock = some k → ¬ R k) : w'.ownsRow base e size v n xs := by
  have hlt := World.ownsRow.lt h
  obtain ⟨h1, h2⟩ := h
  refine ⟨h1, ?_⟩
  rcases h2 with h2 | ⟨g, cap, cur, rfl, h3, h4, h5⟩
  · exact .inl h2
  · exact .inr ⟨g, cap, cur, rfl, h3, (ho.block g (hlt g rfl).2 (hR g rfl)).trans h4, h5⟩
theorem own_shape {w : World} {base : Nat} {e : TypeId} {size : Nat} {v : Value} {n : Nat} {xs : List Value} (h : w.ownsRow base e size v n xs) : ∃ a c, v = .slice a n c := by
  rcases h.2 with ⟨rfl, rfl⟩ | ⟨g, cap, cur, rfl, _⟩
  · exact ⟨none, 0, rfl⟩
  · exact ⟨_, cap, rfl⟩

/-- append(dst, src...): dst a row of one's own, src any row. -/
theorem run_append_row {P : Program} {w : World} (base : Nat) (t ty e : TypeId) (i : TypeInfo) (z : Value) (size bytes : Nat) (ht : P.underlying t = some (.slice e)) (hi : P.info? e = some i) (hz : i.zero = some z)
    (hsize : i.size = size) (hby : i.bytes = bytes) (hzs : z.cells.size = size) (hsz : 0 < size) (v : Value) (n : Nat) (xs : List Value) (hown : w.ownsRow base e size v n xs)
    (S : Nat → Prop) (src : Value) (m : Nat) (news : List Value) (hsrc : Rw w S src m news) (hl : news.length = m * size) (h1 : ∀ u ∈ news, u.oneCell' = true)
    (h63 : n + m ≤ maxLen) (hbytes : (n + m) * bytes ≤ 140737488355328) (hbase : base ≤ w.heap.size) :
    ∃ v' w', (Builtin.append_ #[t, t] ty #[v, src]).run P w = .ok v' w' ∧ w'.ownsRow base e size v' (n + m) (xs ++ news) ∧ w.grownBy w' v.ownBlock := by
  obtain ⟨a, c, rfl, h2, h3, h4, hn, h5⟩ := hsrc
  by_cases hm : 0 < m
  · obtain ⟨b, off, rfl, hb, hS, hc⟩ := h5 hm
    obtain ⟨v', w', hr, ho, hg, _⟩ := run_append_own w base t ty e i z size bytes ht hi hz hsize hby hzs hsz v n xs hown ⟨b, off, none⟩ m c news hl (fun j u hu => by rw [Addr.add_lit]; exact hc j u hu) h1 h63 hbytes hbase
    exact ⟨v', w', hr, ho, hg⟩
  · obtain rfl : m = 0 := by omega
    obtain rfl := h4 rfl
    cases a with
    | some ad =>
      obtain ⟨v', w', hr, ho, hg, _⟩ := run_append_own w base t ty e i z size bytes ht hi hz hsize hby hzs hsz v n xs hown ad 0 c [] hl (fun j u hu => by simp at hu) h1 h63 hbytes hbase
      exact ⟨v', w', hr, ho, hg⟩
    | none =>
      obtain rfl := hn rfl
      have hrun := run_append_owned_none (P := P) (w := w) base t ty e i size ht hi v n xs hown
      exact ⟨v, w, hrun, by simpa using hown, ⟨rfl, rfl, rfl, Nat.le_refl _, fun _ _ _ => rfl⟩⟩
theorem wpList_append_row {P : Program} {w : World} {ops : Array Oper} {rest : List Oper} {o : Oper} {a : Act} {Q : Exit → Act → World → Prop} (hgd : o.guard = none) (s x : Operand) (t : TypeId)
    (ho : o.op = .call { callee := .builtin .append, args := #[s, x], argTypes := #[t, t] })
    (base : Nat) (e : TypeId) (i : TypeInfo) (z : Value) (size bytes : Nat) (ht : P.underlying t = some (.slice e)) (hi : P.info? e = some i) (hz : i.zero = some z)
    (hsize : i.size = size) (hby : i.bytes = bytes) (hzs : z.cells.size = size) (hsz : 0 < size) (v : Value) (n : Nat) (xs : List Value) (hs : a.eval s = v) (hown : w.ownsRow base e size v n xs)
    (S : Nat → Prop) (src : Value) (m : Nat) (news : List Value) (hx : a.eval x = src) (hsrc : Rw w S src m news) (hl : news.length = m * size) (h1 : ∀ u ∈ news, u.oneCell' = true)
    (h63 : n + m ≤ maxLen) (hbytes : (n + m) * bytes ≤ 140737488355328) (hbase : base ≤ w.heap.size)
    (h : ∀ v' w', w'.ownsRow base e size v' (n + m) (xs ++ news) → w.grownBy w' v.ownBlock → wpList P ops Q rest (a.put o.dst v') w') : wpList P ops Q (o :: rest) a w := by
  refine wpList_plain hgd fun K hK => ?_
  obtain ⟨v', w', hr, h2, h3⟩ := run_append_row (P := P) (w := w) base t o.type e i z size bytes ht hi hz hsize hby hzs hsz v n xs hown S src m news hsrc hl h1 h63 hbytes hbase
  unfold Oper.wp execOp
  simp only [ho, resolve, invoke, builtin, Sem.run_bind, Sem.run_pure, Result.andThen_ok, List.map_toArray, List.map_cons, List.map_nil, hs, hx, hr]
  exact hK _ _ (h v' w' h2 h3)

/-- The cells of a list of pairs. -/
def pcs : List PB → List Value
  | [] => []
  | p :: ps => .string p.1 :: .string p.2 :: pcs ps
theorem pcs_length (ps : List PB) : (pcs ps).length = ps.length * 2 := by
  induction ps with
  | nil => rfl
  | cons p ps ih => simp only [pcs, List.length_cons, ih]; omega
theorem pcs_append (ps qs : List PB) : pcs (ps ++ qs) = pcs ps ++ pcs qs := by
  induction ps with
  | nil => rfl
  | cons p ps ih => simp only [pcs, List.cons_append, ih]
theorem pcs_one (ps : List PB) : ∀ u ∈ pcs ps, u.oneCell' = true := by
  induction ps with
  | nil => intro u hu; cases hu
  | cons p ps ih =>
    intro u hu
    simp only [pcs, List.mem_cons] at hu
    rcases hu with rfl | rfl | hu
    · rfl
    · rfl
    · exact ih u hu
theorem pcs_at (ps : List PB) : ∀ i, i < ps.length → (pcs ps)[i * 2]? = some (.string (pAtB ps i).1) ∧ (pcs ps)[i * 2 + 1]? = some (.string (pAtB ps i).2) := by
  induction ps with
  | nil => intro i h; exact absurd h (Nat.not_lt_zero _)
  | cons p ps ih =>
    intro i h
    cases i with
    | zero => exact ⟨rfl, rfl⟩
    | succ i =>
      have := ih i (by simpa using h)
      have e : (i + 1) * 2 = i * 2 + 2 := by omega
      rw [e]
      exact this
/-- The slice value v leads to the pairs ps. -/
def Pr (w : World) (S : Nat → Prop) (v : Value) (ps : List PB) : Prop := Rw w S v ps.length (pcs ps)
theorem Pr.cell {w : World} {S : Nat → Prop} {v : Value} {ps : List PB} (h : Pr w S v ps) (hp : 0 < ps.length) : ∃ b off c, v = .slice (some ⟨b, off, none⟩) ps.length c ∧ S b ∧ b < w.heap.size ∧
    ∀ i, i < ps.length → w.cell? ⟨b, off + i * 2, none⟩ = some (.string (pAtB ps i).1) ∧ w.cell? ⟨b, off + i * 2 + 1, none⟩ = some (.string (pAtB ps i).2) := by
  obtain ⟨a, c, rfl, h2, h3, h4, hn, h5⟩ := h
  obtain ⟨b, off, rfl, h7, h8, h9⟩ := h5 hp
  refine ⟨b, off, c, rfl, h8, h7, fun i hi => ?_⟩
  obtain ⟨e1, e2⟩ := pcs_at ps i hi
  exact ⟨h9 _ _ e1, h9 _ _ e2⟩
theorem Rw.shape {w : World} {S : Nat → Prop} {v : Value} {n : Nat} {xs : List Value} (h : Rw w S v n xs) : ∃ a c, v = .slice a n c ∧ n ≤ c ∧ c ≤ 9223372036854775807 := by
  obtain ⟨a, c, h1, h2, h3, _⟩ := h
  exact ⟨a, c, h1, h2, h3⟩
theorem Rw.len {w : World} {S : Nat → Prop} {a : Option Addr} {n m c : Nat} {xs : List Value} (h : Rw w S (.slice a n c) m xs) : n = m ∧ n ≤ c ∧ c ≤ 9223372036854775807 := by
  obtain ⟨a', c', h1, h2, h3, _⟩ := h
  cases h1
  exact ⟨rfl, h2, h3⟩
theorem Pr.shape {w : World} {S : Nat → Prop} {v : Value} {ps : List PB} (h : Pr w S v ps) : ∃ a c, v = .slice a ps.length c ∧ ps.length ≤ c ∧ c ≤ 9223372036854775807 := Rw.shape h
theorem Pr.at {w : World} {S : Nat → Prop} {a : Option Addr} {n c : Nat} {ps : List PB} (h : Pr w S (.slice a n c) ps) (hp : 0 < n) : ∃ b off, a = some ⟨b, off, none⟩ ∧ S b ∧ b < w.heap.size ∧
    ∀ i, i < n → w.cell? ⟨b, off + i * 2, none⟩ = some (.string (pAtB ps i).1) ∧ w.cell? ⟨b, off + i * 2 + 1, none⟩ = some (.string (pAtB ps i).2) := by
  have hn := (Rw.len h).1
  obtain ⟨b, off, c', hv, h1, h2, h3⟩ := h.cell (by omega)
  cases hv
  exact ⟨b, off, rfl, h1, h2, h3⟩
end Go.Proofs.YtgnjknbgahickacGreatDoor
/-
  PairsOk of the program and of the specification: both answer pOk.
-/
namespace Go.Proofs.YtgnjknbgahickacGreatDoor
open Go.RowKit

theorem pOkF_k (l : List PB) (f k : Nat) (h : kOk (pAtB l k).1 = false) : pOkF l (f + 1) k = false := by simp [pOkF, h]
theorem pOkF_v (l : List PB) (f k : Nat) (h : vOk (pAtB l k).2 = false) : pOkF l (f + 1) k = false := by simp [pOkF, h]
theorem pOkF_0 (l : List PB) (f : Nat) (h : kOk (pAtB l 0).1 = true) (h2 : vOk (pAtB l 0).2 = true) : pOkF l (f + 1) 0 = pOkF l f 1 := by simp [pOkF, h, h2]
theorem pOkF_s (l : List PB) (f j : Nat) (h : kOk (pAtB l (j + 1)).1 = true) (h2 : vOk (pAtB l (j + 1)).2 = true) (b : Bool) (h3 : Op.bytesLess (pAtB l j).1.toList (pAtB l (j + 1)).1.toList = b) : pOkF l (f + 1) (j + 1) = (b && pOkF l f (j + 1 + 1)) := by
  simp only [pOkF, h, h2, Nat.add_sub_cancel, h3]; simp
theorem Pr.below {w w' : World} {S : Nat → Prop} {v : Value} {ps : List PB} (h : Pr w S v ps) (hb : Below w.heap.size w w') : Pr w' S v ps := Rw.to h (only_of_below hb (fun _ => False)) (fun _ _ _ h => h)
set_option maxHeartbeats 4000000 in
theorem implPairsOk_at (S : Nat → Prop) (a : Option Addr) (n c : Nat) (l : List PB) (w : World) (h : Pr w S (.slice a n c) l) :
    Calls Tryz.prog 112 #[.slice a n c] w fun e w' => e = .returned (.bool (pOk l)) ∧ Below w.heap.size w w' := by
  obtain ⟨hn, hnc, hc⟩ := Rw.len h
  have H0 := hid h
  clear h
  have HN := hid hn
  clear hn
  by_cases hbig : 200 < n
  · have hb : (200 : Int) < (n : Int) := by omega
    have HR : Hid (pOk l = false) := by show pOk l = false; have := HN.out; simp [pOk]; omega
    go_enter Tryz.func112, Tryz.ntmps112
    go_wp2
    go_ret
    exact ⟨by rw [HR.out]; rfl, Below.refl _ _⟩
  · have hb : ¬ (200 : Int) < (n : Int) := by omega
    have HR : Hid (pOk l = pOkF l n 0) := by show pOk l = pOkF l n 0; have := HN.out; rw [this]; simp [pOk]; omega
    go_enter Tryz.func112, Tryz.ntmps112
    go_wp2_with fail
    go_loopw [3, 4, 10] (fun x y i wr => ∃ k : Nat, k ≤ n ∧ i = .int .i64 k ∧ Hid (Below w.heap.size w wr) ∧ Hid (pOkF l (n - k) k = pOkF l n 0)) (fun _ _ i _ => n - (intOf i).toNat)
    case atStart => exact ⟨0, Nat.zero_le _, rfl, Below.refl _ _, rfl⟩
    case round =>
      obtain ⟨k, hk, rfl, HB, HS⟩ := hrel
      by_cases hlt : k < n
      · have hlt' : (k : Int) < (n : Int) := by omega
        have HP := hid (H0.out.below HB.out)
        obtain ⟨b, off, rfl, _, hbw, hcell⟩ := HP.out.at (by omega)
        have hck := (hcell k hlt).1
        have hck1 := (hcell k hlt).2
        have e1 : n - k = (n - (k + 1)) + 1 := by omega
        have HE1 := hid e1
        clear e1
        rw [HE1.out] at HS
        cases k with
        | zero =>
          clear hcell
          simp only [Nat.zero_mul, Nat.add_zero] at hck hck1
          generalize hcur : pAtB l 0 = cur at hck hck1
          obtain ⟨ck, cv⟩ := cur
          have HC := hid hcur
          clear hcur
          cases h1 : kOk ck
          · have HZ : Hid (pOkF l n 0 = false) := by show pOkF l n 0 = false; rw [← HS.out]; exact pOkF_k l _ _ (by rw [HC.out]; exact h1)
            have C1 := implKeyOk_is ck _ h1
            clear h1
            go_wp2_with fail
            go_quiet (first | (go_at_call 71; exact Calls.quiet_of_same (C1 _)) | fail)
            go_wp2
            go_ret
            exact ⟨by rw [HR.out, HZ.out]; rfl, Below.then' HB.out (Below.drewN' (below_new (Below.refl _ _)) _) (Nat.le_refl _)⟩
          · cases h2 : vOk cv
            · have HZ : Hid (pOkF l n 0 = false) := by show pOkF l n 0 = false; rw [← HS.out]; exact pOkF_v l _ _ (by rw [HC.out]; exact h2)
              have C1 := implKeyOk_is ck _ h1
              have C2 := implValOk_is cv _ h2
              clear h1 h2
              go_wp2_with fail
              go_quiet (first | (go_at_call 71; exact Calls.quiet_of_same (C1 _)) | (go_at_call 142; exact Calls.quiet_of_same (C2 _)) | fail)
              go_wp2
              go_ret
              exact ⟨by rw [HR.out, HZ.out]; rfl, Below.then' HB.out (Below.drewN' (below_new (Below.refl _ _)) _) (Nat.le_refl _)⟩
            · have HZ : Hid (pOkF l (n - 1) 1 = pOkF l n 0) := by
                show pOkF l (n - 1) 1 = pOkF l n 0
                rw [← HS.out]; exact (pOkF_0 l _ (by rw [HC.out]; exact h1) (by rw [HC.out]; exact h2)).symm
              have C1 := implKeyOk_is ck _ h1
              have C2 := implValOk_is cv _ h2
              clear h1 h2
              go_wp2_with fail
              go_quiet (first | (go_at_call 71; exact Calls.quiet_of_same (C1 _)) | (go_at_call 142; exact Calls.quiet_of_same (C2 _)) | fail)
              go_wp2
              go_roundw
              case rel => exact ⟨1, by omega, by go_num, Below.then' HB.out (Below.drewN' (below_new (Below.refl _ _)) _) (Nat.le_refl _), HZ⟩
              case measure => simp [intOf]; omega
        | succ j =>
          have hcj := (hcell j (by omega)).1
          have hj1 : (0 : Int) < (j : Int) + 1 := by omega
          clear hcell
          generalize hcur : pAtB l (j + 1) = cur at hck hck1
          obtain ⟨ck, cv⟩ := cur
          generalize hprev : (pAtB l j).1 = prev at hcj
          have HC := hid hcur
          have HQ := hid hprev
          clear hcur hprev
          cases h1 : kOk ck
          · have HZ : Hid (pOkF l n 0 = false) := by show pOkF l n 0 = false; rw [← HS.out]; exact pOkF_k l _ _ (by rw [HC.out]; exact h1)
            have C1 := implKeyOk_is ck _ h1
            clear h1
            go_wp2_with fail
            go_quiet (first | (go_at_call 71; exact Calls.quiet_of_same (C1 _)) | fail)
            go_wp2
            go_ret
            exact ⟨by rw [HR.out, HZ.out]; rfl, Below.then' HB.out (Below.drewN' (below_new (Below.refl _ _)) _) (Nat.le_refl _)⟩
          · cases h2 : vOk cv
            · have HZ : Hid (pOkF l n 0 = false) := by show pOkF l n 0 = false; rw [← HS.out]; exact pOkF_v l _ _ (by rw [HC.out]; exact h2)
              have C1 := implKeyOk_is ck _ h1
              have C2 := implValOk_is cv _ h2
              clear h1 h2
              go_wp2_with fail
              go_quiet (first | (go_at_call 71; exact Calls.quiet_of_same (C1 _)) | (go_at_call 142; exact Calls.quiet_of_same (C2 _)) | fail)
              go_wp2
              go_ret
              exact ⟨by rw [HR.out, HZ.out]; rfl, Below.then' HB.out (Below.drewN' (below_new (Below.refl _ _)) _) (Nat.le_refl _)⟩
            · have HG : Hid (∀ b, Op.bytesLess prev.toList ck.toList = b → (b && pOkF l (n - (j + 1 + 1)) (j + 1 + 1)) = pOkF l n 0) := by
                intro b hb
                rw [← HS.out]
                exact (pOkF_s l _ j (by rw [HC.out]; exact h1) (by rw [HC.out]; exact h2) b (by rw [HQ.out, HC.out]; exact hb)).symm
              have C1 := implKeyOk_is ck _ h1
              have C2 := implValOk_is cv _ h2
              clear h1 h2
              rcases tri prev ck with ⟨t1, t2, t3, t4⟩ | rfl | ⟨t1, t2, t3, t4⟩
              · have HZ : Hid (pOkF l (n - (j + 1 + 1)) (j + 1 + 1) = pOkF l n 0) := by show pOkF l (n - (j + 1 + 1)) (j + 1 + 1) = pOkF l n 0; have := HG.out _ t1; simpa using this
                go_wp2_with fail
                go_quiet (first | (go_at_call 71; exact Calls.quiet_of_same (C1 _)) | (go_at_call 142; exact Calls.quiet_of_same (C2 _)) | fail)
                go_wp2
                go_roundw
                case rel => exact ⟨j + 1 + 1, by omega, by go_num, Below.then' HB.out (Below.drewN' (below_new (Below.refl _ _)) _) (Nat.le_refl _), HZ⟩
                case measure => simp [intOf]; omega
              · have t1 := less_irrefl prev.toList
                have HZ : Hid (pOkF l n 0 = false) := by show pOkF l n 0 = false; have := HG.out _ t1; simpa using this.symm
                go_wp2_with fail
                go_quiet (first | (go_at_call 71; exact Calls.quiet_of_same (C1 _)) | (go_at_call 142; exact Calls.quiet_of_same (C2 _)) | fail)
                go_wp2
                go_ret
                exact ⟨by rw [HR.out, HZ.out]; rfl, Below.then' HB.out (Below.drewN' (below_new (Below.refl _ _)) _) (Nat.le_refl _)⟩
              · have HZ : Hid (pOkF l n 0 = false) := by show pOkF l n 0 = false; have := HG.out _ t1; simpa using this.symm
                go_wp2_with fail
                go_quiet (first | (go_at_call 71; exact Calls.quiet_of_same (C1 _)) | (go_at_call 142; exact Calls.quiet_of_same (C2 _)) | fail)
                go_wp2
                go_ret
                exact ⟨by rw [HR.out, HZ.out]; rfl, Below.then' HB.out (Below.drewN' (below_new (Below.refl _ _)) _) (Nat.le_refl _)⟩
      · have hk' : k = n := by omega
        have HZ : Hid (pOkF l n 0 = true) := by show pOkF l n 0 = true; rw [← HS.out, hk', Nat.sub_self]; rfl
        clear hk'
        go_wp2
        go_ret
        exact ⟨by rw [HR.out, HZ.out]; rfl, HB.out⟩
theorem implPairsOk_any (S : Nat → Prop) (v : Value) (l : List PB) (w : World) (h : Pr w S v l) :
    Calls Tryz.prog 112 #[v] w fun e w' => e = .returned (.bool (pOk l)) ∧ Below w.heap.size w w' := by
  obtain ⟨a, c, rfl, _⟩ := h.shape
  exact implPairsOk_at S a _ c l w h
set_option maxHeartbeats 4000000 in
theorem specPairsOk_at (S : Nat → Prop) (a : Option Addr) (n c : Nat) (l : List PB) (w : World) (h : Pr w S (.slice a n c) l) :
    Calls Tryz.prog 82 #[.slice a n c] w fun e w' => e = .returned (.bool (pOk l)) ∧ Below w.heap.size w w' := by
  obtain ⟨hn, hnc, hc⟩ := Rw.len h
  have H0 := hid h
  clear h
  have HN := hid hn
  clear hn
  by_cases hbig : 200 < n
  · have hb : (200 : Int) < (n : Int) := by omega
    have HR : Hid (pOk l = false) := by show pOk l = false; have := HN.out; simp [pOk]; omega
    go_enter Tryz.func82, Tryz.ntmps82
    go_wp2
    go_ret
    exact ⟨by rw [HR.out]; rfl, Below.refl _ _⟩
  · have hb : ¬ (200 : Int) < (n : Int) := by omega
    have HR : Hid (pOk l = pOkF l n 0) := by show pOk l = pOkF l n 0; have := HN.out; rw [this]; simp [pOk]; omega
    go_enter Tryz.func82, Tryz.ntmps82
    go_wp2_with fail
    go_loopw [3, 4, 10] (fun x y i wr => ∃ k : Nat, k ≤ n ∧ i = .int .i64 k ∧ Hid (Below w.heap.size w wr) ∧ Hid (pOkF l (n - k) k = pOkF l n 0)) (fun _ _ i _ => n - (intOf i).toNat)
    case atStart => exact ⟨0, Nat.zero_le _, rfl, Below.refl _ _, rfl⟩
    case round =>
      obtain ⟨k, hk, rfl, HB, HS⟩ := hrel
      by_cases hlt : k < n
      · have hlt' : (k : Int) < (n : Int) := by omega
        have HP := hid (H0.out.below HB.out)
        obtain ⟨b, off, rfl, _, hbw, hcell⟩ := HP.out.at (by omega)
        have hck := (hcell k hlt).1
        have hck1 := (hcell k hlt).2
        have e1 : n - k = (n - (k + 1)) + 1 := by omega
        have HE1 := hid e1
        clear e1
        rw [HE1.out] at HS
        cases k with
        | zero =>
          clear hcell
          simp only [Nat.zero_mul, Nat.add_zero] at hck hck1
          generalize hcur : pAtB l 0 = cur at hck hck1
          obtain ⟨ck, cv⟩ := cur
          have HC := hid hcur
          clear hcur
          cases h1 : kOk ck
          · have HZ : Hid (pOkF l n 0 = false) := by show pOkF l n 0 = false; rw [← HS.out]; exact pOkF_k l _ _ (by rw [HC.out]; exact h1)
            have C1 := specKeyOk_is ck _ h1
            clear h1
            go_wp2_with fail
            go_quiet (first | (go_at_call 68; exact Calls.quiet_of_same (C1 _)) | fail)
            go_wp2
            go_ret
            exact ⟨by rw [HR.out, HZ.out]; rfl, Below.then' HB.out (Below.drewN' (below_new (Below.refl _ _)) _) (Nat.le_refl _)⟩
          · cases h2 : vOk cv
            · have HZ : Hid (pOkF l n 0 = false) := by show pOkF l n 0 = false; rw [← HS.out]; exact pOkF_v l _ _ (by rw [HC.out]; exact h2)
              have C1 := specKeyOk_is ck _ h1
              have C2 := specValOk_is cv _ h2
              clear h1 h2
              go_wp2_with fail
              go_quiet (first | (go_at_call 68; exact Calls.quiet_of_same (C1 _)) | (go_at_call 121; exact Calls.quiet_of_same (C2 _)) | fail)
              go_wp2
              go_ret
              exact ⟨by rw [HR.out, HZ.out]; rfl, Below.then' HB.out (Below.drewN' (below_new (Below.refl _ _)) _) (Nat.le_refl _)⟩
            · have HZ : Hid (pOkF l (n - 1) 1 = pOkF l n 0) := by
                show pOkF l (n - 1) 1 = pOkF l n 0
                rw [← HS.out]; exact (pOkF_0 l _ (by rw [HC.out]; exact h1) (by rw [HC.out]; exact h2)).symm
              have C1 := specKeyOk_is ck _ h1
              have C2 := specValOk_is cv _ h2
              clear h1 h2
              go_wp2_with fail
              go_quiet (first | (go_at_call 68; exact Calls.quiet_of_same (C1 _)) | (go_at_call 121; exact Calls.quiet_of_same (C2 _)) | fail)
              go_wp2
              go_roundw
              case rel => exact ⟨1, by omega, by go_num, Below.then' HB.out (Below.drewN' (below_new (Below.refl _ _)) _) (Nat.le_refl _), HZ⟩
              case measure => simp [intOf]; omega
        | succ j =>
          have hcj := (hcell j (by omega)).1
          have hj1 : (0 : Int) < (j : Int) + 1 := by omega
          clear hcell
          generalize hcur : pAtB l (j + 1) = cur at hck hck1
          obtain ⟨ck, cv⟩ := cur
          generalize hprev : (pAtB l j).1 = prev at hcj
          have HC := hid hcur
          have HQ := hid hprev
          clear hcur hprev
          cases h1 : kOk ck
          · have HZ : Hid (pOkF l n 0 = false) := by show pOkF l n 0 = false; rw [← HS.out]; exact pOkF_k l _ _ (by rw [HC.out]; exact h1)
            have C1 := specKeyOk_is ck _ h1
            clear h1
            go_wp2_with fail
            go_quiet (first | (go_at_call 68; exact Calls.quiet_of_same (C1 _)) | fail)
            go_wp2
            go_ret
            exact ⟨by rw [HR.out, HZ.out]; rfl, Below.then' HB.out (Below.drewN' (below_new (Below.refl _ _)) _) (Nat.le_refl _)⟩
          · cases h2 : vOk cv
            · have HZ : Hid (pOkF l n 0 = false) := by show pOkF l n 0 = false; rw [← HS.out]; exact pOkF_v l _ _ (by rw [HC.out]; exact h2)
              have C1 := specKeyOk_is ck _ h1
              have C2 := specValOk_is cv _ h2
              clear h1 h2
              go_wp2_with fail
              go_quiet (first | (go_at_call 68; exact Calls.quiet_of_same (C1 _)) | (go_at_call 121; exact Calls.quiet_of_same (C2 _)) | fail)
              go_wp2
              go_ret
              exact ⟨by rw [HR.out, HZ.out]; rfl, Below.then' HB.out (Below.drewN' (below_new (Below.refl _ _)) _) (Nat.le_refl _)⟩
            · have HG : Hid (∀ b, Op.bytesLess prev.toList ck.toList = b → (b && pOkF l (n - (j + 1 + 1)) (j + 1 + 1)) = pOkF l n 0) := by
                intro b hb
                rw [← HS.out]
                exact (pOkF_s l _ j (by rw [HC.out]; exact h1) (by rw [HC.out]; exact h2) b (by rw [HQ.out, HC.out]; exact hb)).symm
              have C1 := specKeyOk_is ck _ h1
              have C2 := specValOk_is cv _ h2
              clear h1 h2
              rcases tri prev ck with ⟨t1, t2, t3, t4⟩ | rfl | ⟨t1, t2, t3, t4⟩
              · have HZ : Hid (pOkF l (n - (j + 1 + 1)) (j + 1 + 1) = pOkF l n 0) := by show pOkF l (n - (j + 1 + 1)) (j + 1 + 1) = pOkF l n 0; have := HG.out _ t1; simpa using this
                go_wp2_with fail
                go_quiet (first | (go_at_call 68; exact Calls.quiet_of_same (C1 _)) | (go_at_call 121; exact Calls.quiet_of_same (C2 _)) | fail)
                go_wp2
                go_roundw
                case rel => exact ⟨j + 1 + 1, by omega, by go_num, Below.then' HB.out (Below.drewN' (below_new (Below.refl _ _)) _) (Nat.le_refl _), HZ⟩
                case measure => simp [intOf]; omega
              · have t1 := less_irrefl prev.toList
                have HZ : Hid (pOkF l n 0 = false) := by show pOkF l n 0 = false; have := HG.out _ t1; simpa using this.symm
                go_wp2_with fail
                go_quiet (first | (go_at_call 68; exact Calls.quiet_of_same (C1 _)) | (go_at_call 121; exact Calls.quiet_of_same (C2 _)) | fail)
                go_wp2
                go_ret
                exact ⟨by rw [HR.out, HZ.out]; rfl, Below.then' HB.out (Below.drewN' (below_new (Below.refl _ _)) _) (Nat.le_refl _)⟩
              · have HZ : Hid (pOkF l n 0 = false) := by show pOkF l n 0 = false; have := HG.out _ t1; simpa using this.symm
                go_wp2_with fail
                go_quiet (first | (go_at_call 68; exact Calls.quiet_of_same (C1 _)) | (go_at_call 121; exact Calls.quiet_of_same (C2 _)) | fail)
                go_wp2
                go_ret
                exact ⟨by rw [HR.out, HZ.out]; rfl, Below.then' HB.out (Below.drewN' (below_new (Below.refl _ _)) _) (Nat.le_refl _)⟩
      · have hk' : k = n := by omega
        have HZ : Hid (pOkF l n 0 = true) := by show pOkF l n 0 = true; rw [← HS.out, hk', Nat.sub_self]; rfl
        clear hk'
        go_wp2
        go_ret
        exact ⟨by rw [HR.out, HZ.out]; rfl, HB.out⟩
theorem specPairsOk_any (S : Nat → Prop) (v : Value) (l : List PB) (w : World) (h : Pr w S v l) :
    Calls Tryz.prog 82 #[v] w fun e w' => e = .returned (.bool (pOk l)) ∧ Below w.heap.size w w' := by
  obtain ⟨a, c, rfl, _⟩ := h.shape
  exact specPairsOk_at S a _ c l w h
end Go.Proofs.YtgnjknbgahickacGreatDoor
/-
  Cells that are kept, with all else that was there, while a stretch of the program reads and calls in an order that is not known.
-/
namespace Go.Proofs.YtgnjknbgahickacGreatDoor
open Go.RowKit
structure KC (u v : World) (cs : List (Addr × Value)) : Prop where
  cells : ∀ p ∈ cs, u.cell? p.1 = some p.2
  bel : Below u.heap.size u v
theorem KC.at {u v : World} {cs : List (Addr × Value)} (h : KC u v cs) {a : Addr} {x : Value} (hp : (a, x) ∈ cs) : v.cell? a = some x := by
  have hc := h.cells (a, x) hp
  rw [h.bel.cell (p := a) (block_lt hc)]
  exact hc
theorem KC.call {u v v' : World} {cs : List (Addr × Value)} (h : KC u v cs) (k : Below v.heap.size v v') : KC u v' cs := ⟨h.cells, h.bel.trans (k.mono h.bel.size)⟩
theorem kc2 {u v : World} {a0 a1 : Addr} {x0 x1 : Value} (h : KC u v [(a0, x0), (a1, x1)]) : v.cell? a0 = some x0 ∧ v.cell? a1 = some x1 ∧ KC u v [(a0, x0), (a1, x1)] := ⟨h.at (by simp), h.at (by simp), h⟩
theorem kc3 {u v : World} {a0 a1 a2 : Addr} {x0 x1 x2 : Value} (h : KC u v [(a0, x0), (a1, x1), (a2, x2)]) : v.cell? a0 = some x0 ∧ v.cell? a1 = some x1 ∧ v.cell? a2 = some x2 ∧ KC u v [(a0, x0), (a1, x1), (a2, x2)] := ⟨h.at (by simp), h.at (by simp), h.at (by simp), h⟩
theorem kc4 {u v : World} {a0 a1 a2 a3 : Addr} {x0 x1 x2 x3 : Value} (h : KC u v [(a0, x0), (a1, x1), (a2, x2), (a3, x3)]) : v.cell? a0 = some x0 ∧ v.cell? a1 = some x1 ∧ v.cell? a2 = some x2 ∧ v.cell? a3 = some x3 ∧ KC u v [(a0, x0), (a1, x1), (a2, x2), (a3, x3)] := ⟨h.at (by simp), h.at (by simp), h.at (by simp), h.at (by simp), h⟩
theorem kc5 {u v : World} {a0 a1 a2 a3 a4 : Addr} {x0 x1 x2 x3 x4 : Value} (h : KC u v [(a0, x0), (a1, x1), (a2, x2), (a3, x3), (a4, x4)]) : v.cell? a0 = some x0 ∧ v.cell? a1 = some x1 ∧ v.cell? a2 = some x2 ∧ v.cell? a3 = some x3 ∧ v.cell? a4 = some x4 ∧ KC u v [(a0, x0), (a1, x1), (a2, x2), (a3, x3), (a4, x4)] := ⟨h.at (by simp), h.at (by simp), h.at (by simp), h.at (by simp), h.at (by simp), h⟩
theorem kc6 {u v : World} {a0 a1 a2 a3 a4 a5 : Addr} {x0 x1 x2 x3 x4 x5 : Value} (h : KC u v [(a0, x0), (a1, x1), (a2, x2), (a3, x3), (a4, x4), (a5, x5)]) : v.cell? a0 = some x0 ∧ v.cell? a1 = some x1 ∧ v.cell? a2 = some x2 ∧ v.cell? a3 = some x3 ∧ v.cell? a4 = some x4 ∧ v.cell? a5 = some x5 ∧ KC u v [(a0, x0), (a1, x1), (a2, x2), (a3, x3), (a4, x4), (a5, x5)] := ⟨h.at (by simp), h.at (by simp), h.at (by simp), h.at (by simp), h.at (by simp), h.at (by simp), h⟩
theorem kc0_2 {u : World} {a0 a1 : Addr} {x0 x1 : Value} (h0 : u.cell? a0 = some x0) (h1 : u.cell? a1 = some x1) : KC u u [(a0, x0), (a1, x1)] :=
  ⟨fun p hp => by simp at hp; rcases hp with rfl | rfl <;> assumption, Below.refl _ _⟩
theorem kc0_3 {u : World} {a0 a1 a2 : Addr} {x0 x1 x2 : Value} (h0 : u.cell? a0 = some x0) (h1 : u.cell? a1 = some x1) (h2 : u.cell? a2 = some x2) : KC u u [(a0, x0), (a1, x1), (a2, x2)] :=
  ⟨fun p hp => by simp at hp; rcases hp with rfl | rfl | rfl <;> assumption, Below.refl _ _⟩
theorem kc0_4 {u : World} {a0 a1 a2 a3 : Addr} {x0 x1 x2 x3 : Value} (h0 : u.cell? a0 = some x0) (h1 : u.cell? a1 = some x1) (h2 : u.cell? a2 = some x2) (h3 : u.cell? a3 = some x3) : KC u u [(a0, x0), (a1, x1), (a2, x2), (a3, x3)] :=
  ⟨fun p hp => by simp at hp; rcases hp with rfl | rfl | rfl | rfl <;> assumption, Below.refl _ _⟩
theorem kc0_6 {u : World} {a0 a1 a2 a3 a4 a5 : Addr} {x0 x1 x2 x3 x4 x5 : Value} (h0 : u.cell? a0 = some x0) (h1 : u.cell? a1 = some x1) (h2 : u.cell? a2 = some x2) (h3 : u.cell? a3 = some x3) (h4 : u.cell? a4 = some x4) (h5 : u.cell? a5 = some x5) : KC u u [(a0, x0), (a1, x1), (a2, x2), (a3, x3), (a4, x4), (a5, x5)] :=
  ⟨fun p hp => by simp at hp; rcases hp with rfl | rfl | rfl | rfl | rfl | rfl <;> assumption, Below.refl _ _⟩
theorem kc2c {u v v' : World} {a0 a1 : Addr} {x0 x1 : Value} (k : Below v.heap.size v v') (h : v.cell? a0 = some x0 ∧ v.cell? a1 = some x1 ∧ KC u v [(a0, x0), (a1, x1)]) : v'.cell? a0 = some x0 ∧ v'.cell? a1 = some x1 ∧ KC u v' [(a0, x0), (a1, x1)] := kc2 (KC.call h.2.2 k)
theorem kc3c {u v v' : World} {a0 a1 a2 : Addr} {x0 x1 x2 : Value} (k : Below v.heap.size v v') (h : v.cell? a0 = some x0 ∧ v.cell? a1 = some x1 ∧ v.cell? a2 = some x2 ∧ KC u v [(a0, x0), (a1, x1), (a2, x2)]) : v'.cell? a0 = some x0 ∧ v'.cell? a1 = some x1 ∧ v'.cell? a2 = some x2 ∧ KC u v' [(a0, x0), (a1, x1), (a2, x2)] := kc3 (KC.call h.2.2.2 k)
theorem kc4c {u v v' : World} {a0 a1 a2 a3 : Addr} {x0 x1 x2 x3 : Value} (k : Below v.heap.size v v') (h : v.cell? a0 = some x0 ∧ v.cell? a1 = some x1 ∧ v.cell? a2 = some x2 ∧ v.cell? a3 = some x3 ∧ KC u v [(a0, x0), (a1, x1), (a2, x2), (a3, x3)]) : v'.cell? a0 = some x0 ∧ v'.cell? a1 = some x1 ∧ v'.cell? a2 = some x2 ∧ v'.cell? a3 = some x3 ∧ KC u v' [(a0, x0), (a1, x1), (a2, x2), (a3, x3)] := kc4 (KC.call h.2.2.2.2 k)
theorem kc5c {u v v' : World} {a0 a1 a2 a3 a4 : Addr} {x0 x1 x2 x3 x4 : Value} (k : Below v.heap.size v v') (h : v.cell? a0 = some x0 ∧ v.cell? a1 = some x1 ∧ v.cell? a2 = some x2 ∧ v.cell? a3 = some x3 ∧ v.cell? a4 = some x4 ∧ KC u v [(a0, x0), (a1, x1), (a2, x2), (a3, x3), (a4, x4)]) : v'.cell? a0 = some x0 ∧ v'.cell? a1 = some x1 ∧ v'.cell? a2 = some x2 ∧ v'.cell? a3 = some x3 ∧ v'.cell? a4 = some x4 ∧ KC u v' [(a0, x0), (a1, x1), (a2, x2), (a3, x3), (a4, x4)] := kc5 (KC.call h.2.2.2.2.2 k)
theorem kc6c {u v v' : World} {a0 a1 a2 a3 a4 a5 : Addr} {x0 x1 x2 x3 x4 x5 : Value} (k : Below v.heap.size v v') (h : v.cell? a0 = some x0 ∧ v.cell? a1 = some x1 ∧ v.cell? a2 = some x2 ∧ v.cell? a3 = some x3 ∧ v.cell? a4 = some x4 ∧ v.cell? a5 = some x5 ∧ KC u v [(a0, x0), (a1, x1), (a2, x2), (a3, x3), (a4, x4), (a5, x5)]) : v'.cell? a0 = some x0 ∧ v'.cell? a1 = some x1 ∧ v'.cell? a2 = some x2 ∧ v'.cell? a3 = some x3 ∧ v'.cell? a4 = some x4 ∧ v'.cell? a5 = some x5 ∧ KC u v' [(a0, x0), (a1, x1), (a2, x2), (a3, x3), (a4, x4), (a5, x5)] := kc6 (KC.call h.2.2.2.2.2.2 k)
end Go.Proofs.YtgnjknbgahickacGreatDoor
/-
  What the law's helpers do with pairs and slices of pairs: sizes summed, copied, held against each other.
-/
namespace Go.Proofs.YtgnjknbgahickacGreatDoor
open Go.RowKit

/-- Block g is a row with the cells xs. -/
def Bk (w : World) (g : Nat) (T : TypeId) (xs : List Value) : Prop := w.heap[g]? = some (.cells xs.toArray T (0, 0))
theorem Bk.lt {w : World} {g : Nat} {T : TypeId} {xs : List Value} (h : Bk w g T xs) : g < w.heap.size := (Array.getElem?_eq_some_iff.1 h).1
theorem Bk.to {w w' : World} {g : Nat} {T : TypeId} {xs : List Value} {R : Nat → Prop} (h : Bk w g T xs) (ho : Only R w w') (hR : ¬ R g) : Bk w' g T xs := (ho.block g h.lt hR).trans h
theorem Bk.below {w w' : World} {g : Nat} {T : TypeId} {xs : List Value} (h : Bk w g T xs) (hb : Below w.heap.size w w') : Bk w' g T xs := (hb.block g h.lt).trans h
theorem Bk.new (w : World) (T : TypeId) (xs : List Value) : Bk (w.alloc (.cells xs.toArray T)) w.heap.size T xs := heap_alloc_new w _
theorem Bk.cell {w : World} {g : Nat} {T : TypeId} {xs : List Value} (h : Bk w g T xs) {j : Nat} {u : Value} (hu : xs[j]? = some u) : w.cell? ⟨g, j, none⟩ = some u := by
  have h' : w.heap[g]? = some (.cells xs.toArray T (0, 0)) := h
  simp [World.cell?, h', hu]
theorem Bk.free {w : World} {g : Nat} {T : TypeId} {xs : List Value} (h : Bk w g T xs) (j : Nat) : w.frozen? ⟨g, j, none⟩ = false := by
  have h' : w.heap[g]? = some (.cells xs.toArray T (0, 0)) := h
  simp [World.frozen?, h']
theorem Bk.set {w : World} {g : Nat} {T : TypeId} {xs : List Value} (h : Bk w g T xs) (o : Nat) (x : Value) : Bk (w.setCell ⟨g, o, none⟩ x) g T (xs.set o x) := by
  have h' : w.heap[g]? = some (.cells xs.toArray T (0, 0)) := h
  show (w.setCell ⟨g, o, none⟩ x).heap[g]? = _
  simp [World.setCell, Array.getElem?_modify, h']
theorem Bk.setOther {w : World} {g : Nat} {T : TypeId} {xs : List Value} (h : Bk w g T xs) {b : Nat} (hb : g ≠ b) (o : Nat) (x : Value) : Bk (w.setCell ⟨b, o, none⟩ x) g T xs := by
  show (w.setCell ⟨b, o, none⟩ x).heap[g]? = _
  rw [Below.heap_setCell _ _ _ _ hb]
  exact h
theorem Bk.alloc {w : World} {g : Nat} {T : TypeId} {xs : List Value} (h : Bk w g T xs) (o : Obj) : Bk (w.alloc o) g T xs := by
  show (w.alloc o).heap[g]? = _
  rw [Below.heap_alloc _ _ _ h.lt]
  exact h
theorem Bk.rw {w : World} {g : Nat} {T : TypeId} {xs : List Value} {n c : Nat} (h : Bk w g T xs) (hn : n ≤ c) (hc : c ≤ 9223372036854775807) (h0 : n = 0 → xs = []) (S : Nat → Prop) (hS : S g) : Rw w S (.slice (some ⟨g, 0, none⟩) n c) n xs :=
  ⟨_, c, rfl, hn, hc, h0, fun h => by (cases h), fun _ => ⟨g, 0, rfl, h.lt, hS, fun j u hu => by rw [Nat.zero_add]; exact h.cell hu⟩⟩
theorem Bk.pr {w : World} {g n : Nat} {T : TypeId} {ps : List PB} (h : Bk w g T (pcs ps)) (hn : n = ps.length) (hc : n ≤ 9223372036854775807) (S : Nat → Prop) (hS : S g) : Pr w S (.slice (some ⟨g, 0, none⟩) n n) ps := by
  subst hn
  exact h.rw (Nat.le_refl _) hc (fun h0 => by rw [List.eq_nil_of_length_eq_zero h0]; rfl) S hS
theorem pcs_set (ps : List PB) (p : PB) : ∀ j, j < ps.length → pcs (ps.set j p) = ((pcs ps).set (j * 2) (.string p.1)).set (j * 2 + 1) (.string p.2) := by
  induction ps with
  | nil => intro j h; exact absurd h (Nat.not_lt_zero _)
  | cons q ps ih =>
    intro j h
    cases j with
    | zero => rfl
    | succ j =>
      have := ih j (by simpa using h)
      rw [show (j + 1) * 2 = j * 2 + 2 by omega, show j * 2 + 2 + 1 = j * 2 + 1 + 2 by omega]
      show Value.string q.1 :: Value.string q.2 :: pcs (ps.set j p) = _
      rw [this]
      rfl
theorem infoPairI : (Tryz.prog.info? 53).map (fun i => (i.zero, i.size, i.bytes)) = some (some (.agg #[.string ⟨#[]⟩, .string ⟨#[]⟩]), 2, 32) := by kernel_rfl
/-- make([]T, n). -/
theorem run_make_n {P : Program} (t e : TypeId) (z : Value) (size bytes : Nat) (ht : P.underlying t = some (.slice e)) (hinfo : (P.info? e).map (fun i => (i.zero, i.size, i.bytes)) = some (some z, size, bytes)) (n : Nat) (hb : bytes * n ≤ 281474976710656) (h63 : n ≤ 9223372036854775807) (w : World) :
    (Instr.makeSlice t (.int .i64 (n : Int)) (.int .i64 (n : Int))).run P w = .ok (.slice (some ⟨w.heap.size, 0, none⟩) n n) (w.alloc (.cells (madeCells z.cells (n * size)) e)) := by
  obtain ⟨i, hi, hz⟩ := Option.map_eq_some_iff.1 hinfo
  simp only [Prod.mk.injEq] at hz
  obtain ⟨hz, rfl, rfl⟩ := hz
  have hb' : (i.bytes : Int) * (n : Int) ≤ 281474976710656 := by
    have h : ((i.bytes * n : Nat) : Int) ≤ 281474976710656 := by omega
    rwa [Int.natCast_mul] at h
  have := run_make (P := P) w t e i z ht hi hz .i64 .i64 n n (by omega) (Int.le_refl _) hb' (by omega)
  simpa using this
theorem made_pairs (n : Nat) : madeCells (Value.agg #[.string ⟨#[]⟩, .string ⟨#[]⟩]).cells (n * 2) = (pcs (List.replicate n (⟨#[]⟩, ⟨#[]⟩))).toArray := by
  apply Array.ext
  · simp [madeCells, pcs_length]
  · intro i h1 h2
    simp [pcs_length] at h2
    simp only [madeCells, List.getElem_toArray]
    have h3 : (pcs (List.replicate n ((⟨#[]⟩, ⟨#[]⟩) : PB)))[i]? = some (.string ⟨#[]⟩) := by
      rcases Nat.mod_two_eq_zero_or_one i with e | e
      · have := (pcs_at (List.replicate n ((⟨#[]⟩, ⟨#[]⟩) : PB)) (i / 2) (by simp; omega)).1
        rw [show i / 2 * 2 = i by omega] at this
        rw [this]
        simp [pAtB, show i / 2 < n by omega]
      · have := (pcs_at (List.replicate n ((⟨#[]⟩, ⟨#[]⟩) : PB)) (i / 2) (by simp; omega)).2
        rw [show i / 2 * 2 + 1 = i by omega] at this
        rw [this]
        simp [pAtB, show i / 2 < n by omega]
    have h4 := List.getElem?_eq_some_iff.1 h3
    rw [h4.2]
    rcases Nat.mod_two_eq_zero_or_one i with e | e <;> simp [Value.cells, e]
/-- The pairs as far as copied. -/
def ptP (l : List PB) (k : Nat) : List PB := l.take k ++ List.replicate (l.length - k) (⟨#[]⟩, ⟨#[]⟩)
theorem ptP_length (l : List PB) (k : Nat) (h : k ≤ l.length) : (ptP l k).length = l.length := by simp [ptP]; omega
theorem ptP_set (l : List PB) (k : Nat) (h : k < l.length) : (ptP l k).set k (pAtB l k) = ptP l (k + 1) := by
  have e : pAtB l k = l[k] := by simp [pAtB, h]
  rw [e]
  have hl : (l.take k).length = k := by simp; omega
  simp only [ptP]
  rw [List.set_append_right _ _ (by omega), hl]
  have h2 : l.length - k = (l.length - (k + 1)) + 1 := by omega
  rw [List.take_succ_eq_append_getElem h, h2, List.replicate_succ, Nat.sub_self, List.set_cons_zero, List.append_assoc]
  rfl
theorem load_pair {w : World} {g : Nat} {k v : ByteArray} (c0 : w.cell? ⟨g, 0, none⟩ = some (.string k)) (c1 : w.cell? ⟨g, 1, none⟩ = some (.string v)) :
    (loadVar 53 ⟨g, 0, none⟩).run Tryz.prog w = .ok (.agg #[.string k, .string v]) w := by go_simp
theorem results_pair {fn : Func} {p : Tmp} (h : fn.results = #[.cell p 53]) (tmps : Array Value) (w : World) (g : Nat) {k v : ByteArray} (hp : tmps.getD p undef = .pointer (some ⟨g, 0, none⟩))
    (c0 : w.cell? ⟨g, 0, none⟩ = some (.string k)) (c1 : w.cell? ⟨g, 1, none⟩ = some (.string v)) : (results fn tmps).run Tryz.prog w = .ok (.agg #[.string k, .string v]) w := by
  have hp' : tmps[p]?.getD undef = .pointer (some ⟨g, 0, none⟩) := by simpa using hp
  simp [results, h, hp', asAddr, load_pair c0 c1]
theorem toPair_any (k v : ByteArray) (w : World) : Calls Tryz.prog 126 #[.agg #[.string k, .string v]] w fun e w' => e = .returned (.agg #[.string k, .string v]) ∧ Below w.heap.size w w' := by
  go_enter Tryz.func126, Tryz.ntmps126
  go_wp2
  try simp only [Exit.inBlock, Exit.then]
  refine bodyPost_ret (v := .agg #[.string k, .string v]) ?_ rfl ?_
  · refine results_pair rfl _ _ _ rfl ?_ ?_
    · go_simp
    · go_simp
  · exact ⟨rfl, below_new (below_new (below_new (Below.refl _ _)))⟩
set_option maxHeartbeats 2000000 in
theorem toPairS_at (S : Nat → Prop) (a : Option Addr) (n c : Nat) (l : List PB) (w : World) (h : Pr w S (.slice a n c) l) (hnm : n ≤ 1048576) :
    Calls Tryz.prog 88 #[.slice a n c] w fun e w' => e = .returned (.slice (some ⟨w.heap.size, 0, none⟩) n n) ∧ Bk w' w.heap.size 53 (pcs l) ∧ Below w.heap.size w w' := by
  have HN := hid (Rw.len h).1
  have H0 := hid h
  clear h
  have hmk := run_make_n (P := Tryz.prog) 50 53 (.agg #[.string ⟨#[]⟩, .string ⟨#[]⟩]) 2 32 Tryz.underlying50 infoPairI n (by omega) (by omega)
  rw [made_pairs] at hmk
  have HM : Hid (pcs (List.replicate n (⟨#[]⟩, ⟨#[]⟩)) = pcs (ptP l 0)) := by
    show _ = _
    rw [HN.out]; simp [ptP]
  rw [HM.out] at hmk
  have h63 : n ≤ 9223372036854775807 := by omega
  go_enter Tryz.func88, Tryz.ntmps88
  go_wp2
  go_loopw [4] (fun i wr => ∃ k : Nat, k ≤ n ∧ i = .int .i64 k ∧ Hid (Bk wr w.heap.size 53 (pcs (ptP l k))) ∧ Hid (Below w.heap.size w wr)) (fun i _ => n - (intOf i).toNat)
  case atStart => exact ⟨0, Nat.zero_le _, rfl, Bk.new _ _ _, (Below.refl _ _).alloc (Nat.le_refl _) _⟩
  case round =>
    obtain ⟨k, hk, rfl, HK, HB⟩ := hrel
    by_cases hlt : k < n
    · have hlt' : (k : Int) < (n : Int) := by omega
      have HP := hid (H0.out.below HB.out)
      obtain ⟨b, off, rfl, _, hbw, hcell⟩ := HP.out.at (by omega)
      have hck := (hcell k hlt).1
      have hck1 := (hcell k hlt).2
      have HW : Hid (w.heap.size < wr.heap.size) := HK.out.lt
      have HSET : Hid ((ptP l k).set k (pAtB l k) = ptP l (k + 1)) := ptP_set l k (by rw [← HN.out]; exact hlt)
      have HLE : Hid ((ptP l k).length = n) := by show _ = _; rw [ptP_length l k (by rw [← HN.out]; exact hk), ← HN.out]
      clear hcell hbw
      generalize hcur : pAtB l k = cur at hck hck1 HSET
      obtain ⟨ck, cv⟩ := cur
      clear hcur HP
      go_wp2_with fail
      refine (toPair_any ck cv wr).mono ?_
      rintro e w1 ⟨rfl, hb1⟩
      have HK1 := hid (HK.out.below hb1)
      have HB1 := hid (HB.out.trans (hb1.mono HB.out.size))
      clear hb1
      have hc0 := HK1.out.cell (pcs_at (ptP l k) k (by rw [HLE.out]; exact hlt)).1
      have hc1 := HK1.out.cell (pcs_at (ptP l k) k (by rw [HLE.out]; exact hlt)).2
      have hf0 := HK1.out.free (k * 2)
      have hf1 := HK1.out.free (k * 2 + 1)
      have HK2 : Hid (Bk ((w1.setCell ⟨w.heap.size, k * 2, none⟩ (.string ck)).setCell ⟨w.heap.size, k * 2 + 1, none⟩ (.string cv)) w.heap.size 53 (pcs (ptP l (k + 1)))) := by
        show Bk _ _ _ _
        rw [← HSET.out, pcs_set _ _ _ (by rw [HLE.out]; exact hlt)]
        exact (HK1.out.set _ _).set _ _
      have HB2 : Hid (Below w.heap.size w ((w1.setCell ⟨w.heap.size, k * 2, none⟩ (.string ck)).setCell ⟨w.heap.size, k * 2 + 1, none⟩ (.string cv))) := (HB1.out.setCell (Nat.le_refl _) _).setCell (Nat.le_refl _) _
      generalize pAtB (ptP l k) k = old at hc0 hc1
      obtain ⟨o1, o2⟩ := old
      go_wp2
      go_roundw
      case rel => exact ⟨k + 1, by omega, by go_num, HK2.out, HB2.out⟩
      case measure => simp [intOf]; omega
    · have hk' : k = n := by omega
      have HA : Hid (pcs (ptP l k) = pcs l) := by show _ = _; rw [hk', HN.out]; simp [ptP]
      clear hk'
      go_wp2
      go_ret
      refine ⟨rfl, ?_, HB.out⟩
      rw [← HA.out]; exact HK.out
theorem szPair_any (k v : ByteArray) (left : Int) (w : World) (h0 : 0 ≤ left) (h1 : left ≤ 1048576) (hk : k.size ≤ 9223372036854775807) (hv : v.size ≤ 9223372036854775807) :
    Calls Tryz.prog 120 #[.agg #[.string k, .string v], .int .i64 left] w fun e w' => (∃ x : Int, e = .returned (.int .i64 x) ∧ x ≤ left ∧ -1 ≤ x) ∧ Below w.heap.size w w' := by
  go_enter Tryz.func120, Tryz.ntmps120
  go_wp2
  all_goals (go_ret; exact ⟨⟨_, rfl, by omega, by omega⟩, below_new (Below.refl _ _)⟩)
def szOkP (l : List PB) : Prop := ∀ i, (pAtB l i).1.size ≤ 9223372036854775807 ∧ (pAtB l i).2.size ≤ 9223372036854775807
set_option maxHeartbeats 2000000 in
theorem szPairS_at (S : Nat → Prop) (a : Option Addr) (n c : Nat) (l : List PB) (left : Int) (w : World) (h : Pr w S (.slice a n c) l) (hsz : szOkP l) (h0 : 0 ≤ left) (h1 : left ≤ 1048576) :
    Calls Tryz.prog 77 #[.slice a n c, .int .i64 left] w fun e w' => (∃ x : Int, e = .returned (.int .i64 x) ∧ x ≤ left ∧ -1 ≤ x ∧ (0 ≤ x → n ≤ 1048576)) ∧ Below w.heap.size w w' := by
  obtain ⟨hn, hnc, hcc⟩ := Rw.len h
  have HN := hid hn
  have H0 := hid h
  have HZ := hid hsz
  clear h hsz hn
  by_cases hbig : left - (n : Int) < 0
  · go_enter Tryz.func77, Tryz.ntmps77
    go_wp2
    go_ret
    exact ⟨⟨_, rfl, by omega, by omega, fun h => by omega⟩, Below.refl _ _⟩
  · have hn2 : n ≤ 1048576 := by omega
    go_enter Tryz.func77, Tryz.ntmps77
    go_wp2
    go_loopw [1, 5] (fun x i wr => ∃ (k : Nat) (y : Int), k ≤ n ∧ i = .int .i64 k ∧ x = .int .i64 y ∧ 0 ≤ y ∧ y ≤ left ∧ Hid (Below w.heap.size w wr)) (fun _ i _ => n - (intOf i).toNat)
    case atStart => exact ⟨0, _, Nat.zero_le _, rfl, rfl, by omega, by omega, Below.refl _ _⟩
    case round =>
      obtain ⟨k, y, hk, rfl, rfl, hy0, hy1, HB⟩ := hrel
      by_cases hlt : k < n
      · have hlt' : (k : Int) < (n : Int) := by omega
        have HP := hid (H0.out.below HB.out)
        obtain ⟨b, off, rfl, _, hbw, hcell⟩ := HP.out.at (by omega)
        have hck := (hcell k hlt).1
        have hck1 := (hcell k hlt).2
        have hs := HZ.out k
        clear hcell hbw HP
        generalize pAtB l k = cur at hck hck1 hs
        obtain ⟨ck, cv⟩ := cur
        obtain ⟨hs1, hs2⟩ := hs
        go_wp2_with fail
        refine (szPair_any ck cv y wr hy0 (by omega) hs1 hs2).mono ?_
        rintro e w1 ⟨⟨x, rfl, hx1, hx2⟩, hb1⟩
        have HB1 := hid (HB.out.trans (hb1.mono HB.out.size))
        clear hb1 hs1 hs2 hck hck1
        by_cases hneg : x < 0
        · go_wp2
          go_ret
          exact ⟨⟨_, rfl, by omega, by omega, fun h => by omega⟩, HB1.out⟩
        · go_wp2
          go_roundw
          case rel => exact ⟨k + 1, x, by omega, by go_num, rfl, by omega, by omega, HB1.out⟩
          case measure => simp [intOf]; omega
      · go_wp2
        go_ret
        exact ⟨⟨_, rfl, by omega, by omega, fun _ => hn2⟩, HB.out⟩
theorem eqPair_any (k v k' v' : ByteArray) (w : World) : Calls Tryz.prog 139 #[.agg #[.string k, .string v], .agg #[.string k', .string v']] w fun e w' => e = .returned (.bool (decide ((k, v) = (k', v')))) ∧ Below w.heap.size w w' := by
  by_cases h1 : k = k'
  · subst h1
    by_cases h2 : v = v'
    · subst h2
      have HE : Hid (decide ((k, v) = (k, v)) = true) := by show _ = _; simp
      go_enter Tryz.func139, Tryz.ntmps139
      go_wp2
      go_ret
      exact ⟨by first | rfl | (rw [HE.out]), below_new (below_new (Below.refl _ _))⟩
    · have HE : Hid (decide ((k, v) = (k, v')) = false) := by show _ = _; simp [h2]
      have t := str_beq h2
      clear h2
      go_enter Tryz.func139, Tryz.ntmps139
      go_wp2
      go_ret
      exact ⟨by rw [HE.out]; rfl, below_new (below_new (Below.refl _ _))⟩
  · have HE : Hid (decide ((k, v) = (k', v')) = false) := by show _ = _; simp [h1]
    have t := str_beq h1
    clear h1
    go_enter Tryz.func139, Tryz.ntmps139
    go_wp2
    go_ret
    exact ⟨by rw [HE.out]; rfl, below_new (below_new (Below.refl _ _))⟩
set_option maxHeartbeats 2000000 in
theorem eqPairS_at (S S' : Nat → Prop) (a a' : Option Addr) (n n' c c' : Nat) (l l' : List PB) (w : World) (h : Pr w S (.slice a n c) l) (h' : Pr w S' (.slice a' n' c') l') :
    Calls Tryz.prog 108 #[.slice a n c, .slice a' n' c'] w fun e w' => e = .returned (.bool (decide (l = l'))) ∧ Below w.heap.size w w' := by
  obtain ⟨hn, hnc, hcc⟩ := Rw.len h
  obtain ⟨hn', hnc', hcc'⟩ := Rw.len h'
  have HN := hid hn
  have HN' := hid hn'
  have H0 := hid h
  have H0' := hid h'
  clear h h' hn hn'
  by_cases hne : n = n'
  · subst hne
    have hz : ((n : Int) != (n : Int)) = false := by simp
    go_enter Tryz.func108, Tryz.ntmps108
    go_wp2
    go_loopw [5] (fun i wr => ∃ k : Nat, k ≤ n ∧ i = .int .i64 k ∧ Hid (Below w.heap.size w wr) ∧ Hid (l.take k = l'.take k)) (fun i _ => n - (intOf i).toNat)
    case atStart => exact ⟨0, Nat.zero_le _, rfl, Below.refl _ _, rfl⟩
    case round =>
      obtain ⟨k, hk, rfl, HB, HT⟩ := hrel
      by_cases hlt : k < n
      · have hlt' : (k : Int) < (n : Int) := by omega
        have HP := hid (H0.out.below HB.out)
        have HP' := hid (H0'.out.below HB.out)
        obtain ⟨b, off, rfl, _, hbw, hcell⟩ := HP.out.at (by omega)
        obtain ⟨b', off', rfl, _, hbw', hcell'⟩ := HP'.out.at (by omega)
        have hck := (hcell k hlt).1
        have hck1 := (hcell k hlt).2
        have hck' := (hcell' k hlt).1
        have hck1' := (hcell' k hlt).2
        have HS : Hid (pAtB l k = pAtB l' k → l.take (k + 1) = l'.take (k + 1)) := by
          intro e
          have hl : k < l.length := by rw [← HN.out]; exact hlt
          have hl' : k < l'.length := by rw [← HN'.out]; exact hlt
          rw [List.take_succ_eq_append_getElem hl, List.take_succ_eq_append_getElem hl', HT.out]
          simp [pAtB, hl, hl'] at e
          rw [e]
        have HF : Hid (pAtB l k ≠ pAtB l' k → decide (l = l') = false) := by
          intro e
          rw [decide_eq_false_iff_not]
          intro e'
          exact e (by rw [e'])
        clear hcell hcell' hbw hbw' HP HP' HT
        generalize pAtB l k = cur at *
        generalize pAtB l' k = cur' at *
        obtain ⟨ck, cv⟩ := cur
        obtain ⟨ck', cv'⟩ := cur'
        have T0 := hid (kc0_4 hck hck1 hck' hck1')
        by_cases he : (ck, cv) = (ck', cv')
        · have HS1 := hid (HS.out he)
          have C1 : ∀ v, Calls Tryz.prog 139 #[.agg #[.string ck, .string cv], .agg #[.string ck', .string cv']] v fun e w' => e = .returned (.bool true) ∧ Below v.heap.size v w' := fun v => by
            have := eqPair_any ck cv ck' cv' v
            rwa [decide_eq_true he] at this
          clear he HS HF hck hck1 hck' hck1'
          go_wp2_with fail
          go_region_held3 (fun v => v.cell? ⟨b, off + k * 2, none⟩ = some (.string ck) ∧ v.cell? ⟨b, off + k * 2 + 1, none⟩ = some (.string cv) ∧ v.cell? ⟨b', off' + k * 2, none⟩ = some (.string ck') ∧ v.cell? ⟨b', off' + k * 2 + 1, none⟩ = some (.string cv') ∧ KC wr v [(⟨b, off + k * 2, none⟩, .string ck), (⟨b, off + k * 2 + 1, none⟩, .string cv), (⟨b', off' + k * 2, none⟩, .string ck'), (⟨b', off' + k * 2 + 1, none⟩, .string cv')])
            (first | assumption | exact kc4 (T0.out.call (below_drew _)) | exact kc4c hbC (by assumption))
            (first | (go_at_call 139; refine (C1 _).mono ?_; rintro e w' ⟨rfl, hbC⟩))
          all_goals (rename_i hS; have HB1 := hid (Below.then' HB.out hS.2.2.2.2.bel (Nat.le_refl _)); clear hS; go_wp2)
          go_roundw
          case rel => exact ⟨k + 1, by omega, by go_num, HB1.out, HS1.out⟩
          case measure => simp [intOf]; omega
        · have HF1 := hid (HF.out he)
          have C1 : ∀ v, Calls Tryz.prog 139 #[.agg #[.string ck, .string cv], .agg #[.string ck', .string cv']] v fun e w' => e = .returned (.bool false) ∧ Below v.heap.size v w' := fun v => by
            have := eqPair_any ck cv ck' cv' v
            rwa [decide_eq_false he] at this
          clear he HS HF hck hck1 hck' hck1'
          go_wp2_with fail
          go_region_held3 (fun v => v.cell? ⟨b, off + k * 2, none⟩ = some (.string ck) ∧ v.cell? ⟨b, off + k * 2 + 1, none⟩ = some (.string cv) ∧ v.cell? ⟨b', off' + k * 2, none⟩ = some (.string ck') ∧ v.cell? ⟨b', off' + k * 2 + 1, none⟩ = some (.string cv') ∧ KC wr v [(⟨b, off + k * 2, none⟩, .string ck), (⟨b, off + k * 2 + 1, none⟩, .string cv), (⟨b', off' + k * 2, none⟩, .string ck'), (⟨b', off' + k * 2 + 1, none⟩, .string cv')])
            (first | assumption | exact kc4 (T0.out.call (below_drew _)) | exact kc4c hbC (by assumption))
            (first | (go_at_call 139; refine (C1 _).mono ?_; rintro e w' ⟨rfl, hbC⟩))
          all_goals (rename_i hS; have HB1 := hid (Below.then' HB.out hS.2.2.2.2.bel (Nat.le_refl _)); clear hS; go_wp2)
          go_ret
          exact ⟨by rw [HF1.out]; rfl, HB1.out⟩
      · have HF : Hid (decide (l = l') = true) := by
          show decide (l = l') = true
          have hk' : k = n := by omega
          have e := HT.out
          have e1 : l.length ≤ k := by rw [← HN.out]; omega
          have e2 : l'.length ≤ k := by rw [← HN'.out]; omega
          rw [List.take_of_length_le e1, List.take_of_length_le e2] at e
          simp [e]
        clear HT
        go_wp2
        go_ret
        exact ⟨by rw [HF.out]; rfl, HB.out⟩
  · have hz : ((n : Int) != (n' : Int)) = true := by simp; omega
    have HF : Hid (decide (l = l') = false) := by
      show decide (l = l') = false
      rw [decide_eq_false_iff_not]
      intro e
      exact hne (by rw [HN.out, HN'.out, e])
    clear hne
    go_enter Tryz.func108, Tryz.ntmps108
    go_wp2
    go_ret
    exact ⟨by rw [HF.out]; rfl, Below.refl _ _⟩
end Go.Proofs.YtgnjknbgahickacGreatDoor
/-
  Slices of strings, of numbers and of nodes: what is read through them.
-/
namespace Go.Proofs.YtgnjknbgahickacGreatDoor
open Go.RowKit

def Sr (w : World) (S : Nat → Prop) (v : Value) (ss : List ByteArray) : Prop := Rw w S v ss.length (ss.map Value.string)
def Ir (w : World) (S : Nat → Prop) (v : Value) (ks : List Int) : Prop := Rw w S v ks.length (ks.map (Value.int .i64))
def sAt (ss : List ByteArray) (i : Nat) : ByteArray := ss[i]?.getD ⟨#[]⟩
def iAt (ks : List Int) (i : Nat) : Int := ks[i]?.getD 0
theorem Sr.to {w w' : World} {S R : Nat → Prop} {v : Value} {ss : List ByteArray} (h : Sr w S v ss) (ho : Only R w w') (hd : ∀ b, S b → b < w.heap.size → ¬ R b) : Sr w' S v ss := Rw.to h ho hd
theorem Ir.to {w w' : World} {S R : Nat → Prop} {v : Value} {ss : List Int} (h : Ir w S v ss) (ho : Only R w w') (hd : ∀ b, S b → b < w.heap.size → ¬ R b) : Ir w' S v ss := Rw.to h ho hd
theorem Pr.to {w w' : World} {S R : Nat → Prop} {v : Value} {ss : List PB} (h : Pr w S v ss) (ho : Only R w w') (hd : ∀ b, S b → b < w.heap.size → ¬ R b) : Pr w' S v ss := Rw.to h ho hd
theorem Rw.below {w w' : World} {S : Nat → Prop} {v : Value} {n : Nat} {xs : List Value} (h : Rw w S v n xs) (hb : Below w.heap.size w w') : Rw w' S v n xs := Rw.to h (only_of_below hb (fun _ => False)) (fun _ _ _ h => h)
theorem Sr.below {w w' : World} {S : Nat → Prop} {v : Value} {ss : List ByteArray} (h : Sr w S v ss) (hb : Below w.heap.size w w') : Sr w' S v ss := Rw.below h hb
theorem Ir.below {w w' : World} {S : Nat → Prop} {v : Value} {ss : List Int} (h : Ir w S v ss) (hb : Below w.heap.size w w') : Ir w' S v ss := Rw.below h hb
theorem Sr.shape {w : World} {S : Nat → Prop} {v : Value} {ss : List ByteArray} (h : Sr w S v ss) : ∃ a c, v = .slice a ss.length c ∧ ss.length ≤ c ∧ c ≤ 9223372036854775807 := Rw.shape h
theorem Ir.shape {w : World} {S : Nat → Prop} {v : Value} {ss : List Int} (h : Ir w S v ss) : ∃ a c, v = .slice a ss.length c ∧ ss.length ≤ c ∧ c ≤ 9223372036854775807 := Rw.shape h
theorem Rw.at {w : World} {S : Nat → Prop} {a : Option Addr} {n c m : Nat} {xs : List Value} (h : Rw w S (.slice a n c) m xs) (hp : 0 < n) : ∃ b off, a = some ⟨b, off, none⟩ ∧ S b ∧ b < w.heap.size ∧ ∀ j u, xs[j]? = some u → w.cell? ⟨b, off + j, none⟩ = some u := by
  obtain ⟨a', c', h1, h2, h3, h4, hn, h5⟩ := h
  cases h1
  obtain ⟨b, off, h6, h7, h8, h9⟩ := h5 hp
  exact ⟨b, off, h6, h8, h7, h9⟩
theorem Sr.at {w : World} {S : Nat → Prop} {a : Option Addr} {n c : Nat} {ss : List ByteArray} (h : Sr w S (.slice a n c) ss) (hp : 0 < n) : ∃ b off, a = some ⟨b, off, none⟩ ∧ S b ∧ b < w.heap.size ∧ ∀ i, i < n → w.cell? ⟨b, off + i, none⟩ = some (.string (sAt ss i)) := by
  have hn := (Rw.len h).1
  obtain ⟨b, off, h1, h2, h3, h4⟩ := Rw.at h hp
  refine ⟨b, off, h1, h2, h3, fun i hi => h4 i _ ?_⟩
  simp [sAt, show i < ss.length by omega]
theorem Ir.at {w : World} {S : Nat → Prop} {a : Option Addr} {n c : Nat} {ss : List Int} (h : Ir w S (.slice a n c) ss) (hp : 0 < n) : ∃ b off, a = some ⟨b, off, none⟩ ∧ S b ∧ b < w.heap.size ∧ ∀ i, i < n → w.cell? ⟨b, off + i, none⟩ = some (.int .i64 (iAt ss i)) := by
  have hn := (Rw.len h).1
  obtain ⟨b, off, h1, h2, h3, h4⟩ := Rw.at h hp
  refine ⟨b, off, h1, h2, h3, fun i hi => h4 i _ ?_⟩
  simp [iAt, show i < ss.length by omega]
abbrev V3 := Value × Value × Value
/-- The cells of a list of nodes. -/
def ncs : List V3 → List Value
  | [] => []
  | p :: ps => p.1 :: p.2.1 :: p.2.2 :: ncs ps
def vAt (V : List V3) (i : Nat) : V3 := V[i]?.getD (.slice none 0 0, .slice none 0 0, .slice none 0 0)
theorem ncs_length (ps : List V3) : (ncs ps).length = ps.length * 3 := by
  induction ps with
  | nil => rfl
  | cons p ps ih => simp only [ncs, List.length_cons, ih]; omega
theorem ncs_append (ps qs : List V3) : ncs (ps ++ qs) = ncs ps ++ ncs qs := by
  induction ps with
  | nil => rfl
  | cons p ps ih => simp only [ncs, List.cons_append, ih]
theorem ncs_at (ps : List V3) : ∀ i, i < ps.length → (ncs ps)[i * 3]? = some (vAt ps i).1 ∧ (ncs ps)[i * 3 + 1]? = some (vAt ps i).2.1 ∧ (ncs ps)[i * 3 + 2]? = some (vAt ps i).2.2 := by
  induction ps with
  | nil => intro i h; exact absurd h (Nat.not_lt_zero _)
  | cons p ps ih =>
    intro i h
    cases i with
    | zero => exact ⟨rfl, rfl, rfl⟩
    | succ i =>
      have := ih i (by simpa using h)
      have e : (i + 1) * 3 = i * 3 + 3 := by omega
      rw [e]
      exact this
theorem ncs_set (ps : List V3) (p : V3) : ∀ j, j < ps.length → ncs (ps.set j p) = (((ncs ps).set (j * 3) p.1).set (j * 3 + 1) p.2.1).set (j * 3 + 2) p.2.2 := by
  induction ps with
  | nil => intro j h; exact absurd h (Nat.not_lt_zero _)
  | cons q ps ih =>
    intro j h
    cases j with
    | zero => rfl
    | succ j =>
      have := ih j (by simpa using h)
      rw [show (j + 1) * 3 = j * 3 + 3 by omega, show j * 3 + 3 + 1 = j * 3 + 1 + 3 by omega, show j * 3 + 3 + 2 = j * 3 + 2 + 3 by omega]
      show q.1 :: q.2.1 :: q.2.2 :: ncs (ps.set j p) = _
      rw [this]
      rfl
/-- A node's three values lead to what it holds. -/
def N1 (w : World) (S : Nat → Prop) (p : V3) (x : NB) : Prop := Pr w S p.1 x.ps ∧ Sr w S p.2.1 x.keys ∧ Ir w S p.2.2 x.kids
theorem N1.to {w w' : World} {S R : Nat → Prop} {p : V3} {x : NB} (h : N1 w S p x) (ho : Only R w w') (hd : ∀ b, S b → b < w.heap.size → ¬ R b) : N1 w' S p x := ⟨h.1.to ho hd, h.2.1.to ho hd, h.2.2.to ho hd⟩
theorem N1.mono {w : World} {S R : Nat → Prop} {p : V3} {x : NB} (h : N1 w S p x) (hd : ∀ b, S b → b < w.heap.size → R b) : N1 w R p x := ⟨Rw.mono h.1 hd, Rw.mono h.2.1 hd, Rw.mono h.2.2 hd⟩
theorem N1.below {w w' : World} {S : Nat → Prop} {p : V3} {x : NB} (h : N1 w S p x) (hb : Below w.heap.size w w') : N1 w' S p x := h.to (only_of_below hb (fun _ => False)) (fun _ _ _ h => h)
/-- The slice value v leads to the nodes ns. -/
def Nr (w : World) (S : Nat → Prop) (v : Value) (ns : List NB) : Prop := ∃ V : List V3, V.length = ns.length ∧ Rw w S v ns.length (ncs V) ∧ ∀ i, i < ns.length → N1 w S (vAt V i) (nAt ns i)
theorem Nr.to {w w' : World} {S R : Nat → Prop} {v : Value} {ns : List NB} (h : Nr w S v ns) (ho : Only R w w') (hd : ∀ b, S b → b < w.heap.size → ¬ R b) : Nr w' S v ns := by
  obtain ⟨V, h1, h2, h3⟩ := h
  exact ⟨V, h1, h2.to ho hd, fun i hi => (h3 i hi).to ho hd⟩
theorem Nr.mono {w : World} {S R : Nat → Prop} {v : Value} {ns : List NB} (h : Nr w S v ns) (hd : ∀ b, S b → b < w.heap.size → R b) : Nr w R v ns := by
  obtain ⟨V, h1, h2, h3⟩ := h
  exact ⟨V, h1, h2.mono hd, fun i hi => (h3 i hi).mono hd⟩
theorem Nr.below {w w' : World} {S : Nat → Prop} {v : Value} {ns : List NB} (h : Nr w S v ns) (hb : Below w.heap.size w w') : Nr w' S v ns := h.to (only_of_below hb (fun _ => False)) (fun _ _ _ h => h)
theorem Nr.shape {w : World} {S : Nat → Prop} {v : Value} {ns : List NB} (h : Nr w S v ns) : ∃ a c, v = .slice a ns.length c ∧ ns.length ≤ c ∧ c ≤ 9223372036854775807 := by
  obtain ⟨V, h1, h2, h3⟩ := h
  exact h2.shape
theorem Nr.len {w : World} {S : Nat → Prop} {a : Option Addr} {n c : Nat} {ns : List NB} (h : Nr w S (.slice a n c) ns) : n = ns.length ∧ n ≤ c ∧ c ≤ 9223372036854775807 := by
  obtain ⟨V, h1, h2, h3⟩ := h
  exact Rw.len h2
/-- The node at place i: its three values, the shapes of these, where they lie. -/
theorem Nr.at {w : World} {S : Nat → Prop} {a : Option Addr} {n c : Nat} {ns : List NB} (h : Nr w S (.slice a n c) ns) (hp : 0 < n) : ∃ b off, a = some ⟨b, off, none⟩ ∧ S b ∧ b < w.heap.size ∧ ∀ i, i < n → ∃ ap np cp ax nx cx ai ni ci,
    w.cell? ⟨b, off + i * 3, none⟩ = some (.slice ap np cp) ∧ w.cell? ⟨b, off + i * 3 + 1, none⟩ = some (.slice ax nx cx) ∧ w.cell? ⟨b, off + i * 3 + 2, none⟩ = some (.slice ai ni ci) ∧
      Pr w S (.slice ap np cp) (nAt ns i).ps ∧ Sr w S (.slice ax nx cx) (nAt ns i).keys ∧ Ir w S (.slice ai ni ci) (nAt ns i).kids := by
  obtain ⟨V, h1, h2, h3⟩ := h
  have hn := (Rw.len h2).1
  obtain ⟨b, off, e1, e2, e3, e4⟩ := h2.at hp
  refine ⟨b, off, e1, e2, e3, fun i hi => ?_⟩
  obtain ⟨k1, k2, k3⟩ := h3 i (by omega)
  obtain ⟨c0, c1, c2⟩ := ncs_at V i (by omega)
  have d0 := e4 _ _ c0
  have d1 := e4 _ _ c1
  have d2 := e4 _ _ c2
  generalize vAt V i = p at *
  obtain ⟨p0, p1, p2⟩ := p
  obtain ⟨ap, cp, g0, _⟩ := k1.shape
  obtain ⟨ax, cx, g1, _⟩ := k2.shape
  obtain ⟨ai, ci, g2, _⟩ := k3.shape
  simp only at g0 g1 g2
  subst g0 g1 g2
  exact ⟨ap, _, cp, ax, _, cx, ai, _, ci, d0, d1, d2, k1, k2, k3⟩
end Go.Proofs.YtgnjknbgahickacGreatDoor
/-
  What the law's helpers do with slices of strings and of numbers: copied, held against each other, sizes summed.
-/
namespace Go.Proofs.YtgnjknbgahickacGreatDoor
open Go.RowKit

theorem made_strs (n : Nat) : madeCells (Value.string ⟨#[]⟩).cells (n * 1) = ((List.replicate n ⟨#[]⟩).map Value.string).toArray := by
  apply Array.ext
  · simp [madeCells]
  · intro i h1 h2; simp [madeCells, Value.cells, Nat.mod_one]
theorem infoStringS : (Tryz.prog.info? 9).map (fun i => (i.zero, i.size, i.bytes)) = some (some (Value.string ⟨#[]⟩), 1, 16) := by kernel_rfl
def ptStringS (l : List ByteArray) (k : Nat) : List ByteArray := l.take k ++ List.replicate (l.length - k) ⟨#[]⟩
theorem ptStringS_length (l : List ByteArray) (k : Nat) (h : k ≤ l.length) : (ptStringS l k).length = l.length := by simp [ptStringS]; omega
theorem ptStringS_set (l : List ByteArray) (k : Nat) (h : k < l.length) : (ptStringS l k).set k (sAt l k) = ptStringS l (k + 1) := by
  have e : sAt l k = l[k] := by simp [sAt, h]
  rw [e]
  have hl : (l.take k).length = k := by simp; omega
  simp only [ptStringS]
  rw [List.set_append_right _ _ (by omega), hl]
  have h2 : l.length - k = (l.length - (k + 1)) + 1 := by omega
  rw [List.take_succ_eq_append_getElem h, h2, List.replicate_succ, Nat.sub_self, List.set_cons_zero, List.append_assoc]
  rfl
set_option maxHeartbeats 2000000 in
theorem toStringS_at (S : Nat → Prop) (a : Option Addr) (n c : Nat) (l : List ByteArray) (w : World) (h : Sr w S (.slice a n c) l) (hnm : n ≤ 1048576) :
    Calls Tryz.prog 89 #[.slice a n c] w fun e w' => e = .returned (.slice (some ⟨w.heap.size, 0, none⟩) n n) ∧ Bk w' w.heap.size 9 (l.map Value.string) ∧ Below w.heap.size w w' := by
  have HN := hid (Rw.len h).1
  have H0 := hid h
  clear h
  have hmk := run_make_n (P := Tryz.prog) 86 9 (Value.string ⟨#[]⟩) 1 16 Tryz.underlying86 infoStringS n (by omega) (by omega)
  rw [made_strs] at hmk
  have HM : Hid ((List.replicate n ⟨#[]⟩).map Value.string = (ptStringS l 0).map Value.string) := by
    show _ = _
    rw [HN.out]; simp [ptStringS]
  rw [HM.out] at hmk
  have h63 : n ≤ 9223372036854775807 := by omega
  go_enter Tryz.func89, Tryz.ntmps89
  go_wp2
  go_loopw [4] (fun i wr => ∃ k : Nat, k ≤ n ∧ i = .int .i64 k ∧ Hid (Bk wr w.heap.size 9 ((ptStringS l k).map Value.string)) ∧ Hid (Below w.heap.size w wr)) (fun i _ => n - (intOf i).toNat)
  case atStart => exact ⟨0, Nat.zero_le _, rfl, Bk.new _ _ _, (Below.refl _ _).alloc (Nat.le_refl _) _⟩
  case round =>
    obtain ⟨k, hk, rfl, HK, HB⟩ := hrel
    by_cases hlt : k < n
    · have hlt' : (k : Int) < (n : Int) := by omega
      have HP := hid (H0.out.below HB.out)
      obtain ⟨b, off, rfl, _, hbw, hcell⟩ := HP.out.at (by omega)
      have hck := hcell k hlt
      have HSET : Hid ((ptStringS l k).set k (sAt l k) = ptStringS l (k + 1)) := ptStringS_set l k (by rw [← HN.out]; exact hlt)
      have HLE : Hid ((ptStringS l k).length = n) := by show _ = _; rw [ptStringS_length l k (by rw [← HN.out]; exact hk), ← HN.out]
      clear hcell hbw
      generalize hcur : sAt l k = ck at hck HSET
      clear hcur HP
      have hc0 : wr.cell? ⟨w.heap.size, k, none⟩ = some (Value.string (sAt (ptStringS l k) k)) := HK.out.cell (by simp [sAt, show k < (ptStringS l k).length by rw [HLE.out]; exact hlt])
      have hf0 := HK.out.free k
      have HK2 : Hid (Bk (wr.setCell ⟨w.heap.size, k, none⟩ (Value.string ck)) w.heap.size 9 ((ptStringS l (k + 1)).map Value.string)) := by
        show Bk _ _ _ _
        rw [← HSET.out, List.map_set]
        exact HK.out.set _ _
      have HB2 : Hid (Below w.heap.size w (wr.setCell ⟨w.heap.size, k, none⟩ (Value.string ck))) := HB.out.setCell (Nat.le_refl _) _
      generalize sAt (ptStringS l k) k = old at hc0
      go_wp2
      go_roundw
      case rel => exact ⟨k + 1, by omega, by go_num, HK2.out, HB2.out⟩
      case measure => simp [intOf]; omega
    · have hk' : k = n := by omega
      have HA : Hid ((ptStringS l k).map Value.string = l.map Value.string) := by show _ = _; rw [hk', HN.out]; simp [ptStringS]
      clear hk'
      go_wp2
      go_ret
      refine ⟨rfl, ?_, HB.out⟩
      rw [← HA.out]; exact HK.out
set_option maxHeartbeats 2000000 in
theorem eqStringS_at (S S' : Nat → Prop) (a a' : Option Addr) (n n' c c' : Nat) (l l' : List ByteArray) (w : World) (h : Sr w S (.slice a n c) l) (h' : Sr w S' (.slice a' n' c') l') :
    Calls Tryz.prog 109 #[.slice a n c, .slice a' n' c'] w fun e w' => e = .returned (.bool (decide (l = l'))) ∧ Below w.heap.size w w' := by
  obtain ⟨hn, hnc, hcc⟩ := Rw.len h
  obtain ⟨hn', hnc', hcc'⟩ := Rw.len h'
  have HN := hid hn
  have HN' := hid hn'
  have H0 := hid h
  have H0' := hid h'
  clear h h' hn hn'
  by_cases hne : n = n'
  · subst hne
    have hz : ((n : Int) != (n : Int)) = false := by simp
    go_enter Tryz.func109, Tryz.ntmps109
    go_wp2
    go_loopw [5] (fun i wr => ∃ k : Nat, k ≤ n ∧ i = .int .i64 k ∧ Hid (Below w.heap.size w wr) ∧ Hid (l.take k = l'.take k)) (fun i _ => n - (intOf i).toNat)
    case atStart => exact ⟨0, Nat.zero_le _, rfl, Below.refl _ _, rfl⟩
    case round =>
      obtain ⟨k, hk, rfl, HB, HT⟩ := hrel
      by_cases hlt : k < n
      · have hlt' : (k : Int) < (n : Int) := by omega
        have HP := hid (H0.out.below HB.out)
        have HP' := hid (H0'.out.below HB.out)
        obtain ⟨b, off, rfl, _, hbw, hcell⟩ := HP.out.at (by omega)
        obtain ⟨b', off', rfl, _, hbw', hcell'⟩ := HP'.out.at (by omega)
        have hck := hcell k hlt
        have hck' := hcell' k hlt
        have HS : Hid (sAt l k = sAt l' k → l.take (k + 1) = l'.take (k + 1)) := by
          intro e
          have hl : k < l.length := by rw [← HN.out]; exact hlt
          have hl' : k < l'.length := by rw [← HN'.out]; exact hlt
          rw [List.take_succ_eq_append_getElem hl, List.take_succ_eq_append_getElem hl', HT.out]
          simp [sAt, hl, hl'] at e
          rw [e]
        have HF : Hid (sAt l k ≠ sAt l' k → decide (l = l') = false) := by
          intro e
          rw [decide_eq_false_iff_not]
          intro e'
          exact e (by rw [e'])
        clear hcell hcell' hbw hbw' HP HP' HT
        generalize sAt l k = ck at *
        generalize sAt l' k = ck' at *
        by_cases he : ck = ck'
        · have HS1 := hid (HS.out he)
          subst he
          skip
          clear HS HF
          go_wp2
          go_quiet (fail)
          go_wp2
          go_roundw
          case rel => exact ⟨k + 1, by omega, by go_num, Below.drewN' HB.out _, HS1.out⟩
          case measure => simp [intOf]; omega
        · have HF1 := hid (HF.out he)
          have t := str_beq he
          clear he HS HF
          go_wp2
          go_quiet (fail)
          go_wp2
          go_ret
          exact ⟨by rw [HF1.out]; rfl, Below.drewN' HB.out _⟩
      · have HF : Hid (decide (l = l') = true) := by
          show decide (l = l') = true
          have hk' : k = n := by omega
          have e := HT.out
          have e1 : l.length ≤ k := by rw [← HN.out]; omega
          have e2 : l'.length ≤ k := by rw [← HN'.out]; omega
          rw [List.take_of_length_le e1, List.take_of_length_le e2] at e
          simp [e]
        clear HT
        go_wp2
        go_ret
        exact ⟨by rw [HF.out]; rfl, HB.out⟩
  · have hz : ((n : Int) != (n' : Int)) = true := by simp; omega
    have HF : Hid (decide (l = l') = false) := by
      show decide (l = l') = false
      rw [decide_eq_false_iff_not]
      intro e
      exact hne (by rw [HN.out, HN'.out, e])
    clear hne
    go_enter Tryz.func109, Tryz.ntmps109
    go_wp2
    go_ret
    exact ⟨by rw [HF.out]; rfl, Below.refl _ _⟩
theorem made_ints (n : Nat) : madeCells (Value.int .i64 0).cells (n * 1) = ((List.replicate n 0).map (Value.int .i64)).toArray := by
  apply Array.ext
  · simp [madeCells]
  · intro i h1 h2; simp [madeCells, Value.cells, Nat.mod_one]
theorem infoIntS : (Tryz.prog.info? 3).map (fun i => (i.zero, i.size, i.bytes)) = some (some (Value.int .i64 0), 1, 8) := by kernel_rfl
def ptIntS (l : List Int) (k : Nat) : List Int := l.take k ++ List.replicate (l.length - k) 0
theorem ptIntS_length (l : List Int) (k : Nat) (h : k ≤ l.length) : (ptIntS l k).length = l.length := by simp [ptIntS]; omega
theorem ptIntS_set (l : List Int) (k : Nat) (h : k < l.length) : (ptIntS l k).set k (iAt l k) = ptIntS l (k + 1) := by
  have e : iAt l k = l[k] := by simp [iAt, h]
  rw [e]
  have hl : (l.take k).length = k := by simp; omega
  simp only [ptIntS]
  rw [List.set_append_right _ _ (by omega), hl]
  have h2 : l.length - k = (l.length - (k + 1)) + 1 := by omega
  rw [List.take_succ_eq_append_getElem h, h2, List.replicate_succ, Nat.sub_self, List.set_cons_zero, List.append_assoc]
  rfl
set_option maxHeartbeats 2000000 in
theorem toIntS_at (S : Nat → Prop) (a : Option Addr) (n c : Nat) (l : List Int) (w : World) (h : Ir w S (.slice a n c) l) (hnm : n ≤ 1048576) :
    Calls Tryz.prog 90 #[.slice a n c] w fun e w' => e = .returned (.slice (some ⟨w.heap.size, 0, none⟩) n n) ∧ Bk w' w.heap.size 3 (l.map (Value.int .i64)) ∧ Below w.heap.size w w' := by
  have HN := hid (Rw.len h).1
  have H0 := hid h
  clear h
  have hmk := run_make_n (P := Tryz.prog) 87 3 (Value.int .i64 0) 1 8 Tryz.underlying87 infoIntS n (by omega) (by omega)
  rw [made_ints] at hmk
  have HM : Hid ((List.replicate n 0).map (Value.int .i64) = (ptIntS l 0).map (Value.int .i64)) := by
    show _ = _
    rw [HN.out]; simp [ptIntS]
  rw [HM.out] at hmk
  have h63 : n ≤ 9223372036854775807 := by omega
  go_enter Tryz.func90, Tryz.ntmps90
  go_wp2
  go_loopw [4] (fun i wr => ∃ k : Nat, k ≤ n ∧ i = .int .i64 k ∧ Hid (Bk wr w.heap.size 3 ((ptIntS l k).map (Value.int .i64))) ∧ Hid (Below w.heap.size w wr)) (fun i _ => n - (intOf i).toNat)
  case atStart => exact ⟨0, Nat.zero_le _, rfl, Bk.new _ _ _, (Below.refl _ _).alloc (Nat.le_refl _) _⟩
  case round =>
    obtain ⟨k, hk, rfl, HK, HB⟩ := hrel
    by_cases hlt : k < n
    · have hlt' : (k : Int) < (n : Int) := by omega
      have HP := hid (H0.out.below HB.out)
      obtain ⟨b, off, rfl, _, hbw, hcell⟩ := HP.out.at (by omega)
      have hck := hcell k hlt
      have HSET : Hid ((ptIntS l k).set k (iAt l k) = ptIntS l (k + 1)) := ptIntS_set l k (by rw [← HN.out]; exact hlt)
      have HLE : Hid ((ptIntS l k).length = n) := by show _ = _; rw [ptIntS_length l k (by rw [← HN.out]; exact hk), ← HN.out]
      clear hcell hbw
      generalize hcur : iAt l k = ck at hck HSET
      clear hcur HP
      have hc0 : wr.cell? ⟨w.heap.size, k, none⟩ = some ((Value.int .i64) (iAt (ptIntS l k) k)) := HK.out.cell (by simp [iAt, show k < (ptIntS l k).length by rw [HLE.out]; exact hlt])
      have hf0 := HK.out.free k
      have HK2 : Hid (Bk (wr.setCell ⟨w.heap.size, k, none⟩ ((Value.int .i64) ck)) w.heap.size 3 ((ptIntS l (k + 1)).map (Value.int .i64))) := by
        show Bk _ _ _ _
        rw [← HSET.out, List.map_set]
        exact HK.out.set _ _
      have HB2 : Hid (Below w.heap.size w (wr.setCell ⟨w.heap.size, k, none⟩ ((Value.int .i64) ck))) := HB.out.setCell (Nat.le_refl _) _
      generalize iAt (ptIntS l k) k = old at hc0
      go_wp2
      go_roundw
      case rel => exact ⟨k + 1, by omega, by go_num, HK2.out, HB2.out⟩
      case measure => simp [intOf]; omega
    · have hk' : k = n := by omega
      have HA : Hid ((ptIntS l k).map (Value.int .i64) = l.map (Value.int .i64)) := by show _ = _; rw [hk', HN.out]; simp [ptIntS]
      clear hk'
      go_wp2
      go_ret
      refine ⟨rfl, ?_, HB.out⟩
      rw [← HA.out]; exact HK.out
set_option maxHeartbeats 2000000 in
theorem eqIntS_at (S S' : Nat → Prop) (a a' : Option Addr) (n n' c c' : Nat) (l l' : List Int) (w : World) (h : Ir w S (.slice a n c) l) (h' : Ir w S' (.slice a' n' c') l') :
    Calls Tryz.prog 110 #[.slice a n c, .slice a' n' c'] w fun e w' => e = .returned (.bool (decide (l = l'))) ∧ Below w.heap.size w w' := by
  obtain ⟨hn, hnc, hcc⟩ := Rw.len h
  obtain ⟨hn', hnc', hcc'⟩ := Rw.len h'
  have HN := hid hn
  have HN' := hid hn'
  have H0 := hid h
  have H0' := hid h'
  clear h h' hn hn'
  by_cases hne : n = n'
  · subst hne
    have hz : ((n : Int) != (n : Int)) = false := by simp
    go_enter Tryz.func110, Tryz.ntmps110
    go_wp2
    go_loopw [5] (fun i wr => ∃ k : Nat, k ≤ n ∧ i = .int .i64 k ∧ Hid (Below w.heap.size w wr) ∧ Hid (l.take k = l'.take k)) (fun i _ => n - (intOf i).toNat)
    case atStart => exact ⟨0, Nat.zero_le _, rfl, Below.refl _ _, rfl⟩
    case round =>
      obtain ⟨k, hk, rfl, HB, HT⟩ := hrel
      by_cases hlt : k < n
      · have hlt' : (k : Int) < (n : Int) := by omega
        have HP := hid (H0.out.below HB.out)
        have HP' := hid (H0'.out.below HB.out)
        obtain ⟨b, off, rfl, _, hbw, hcell⟩ := HP.out.at (by omega)
        obtain ⟨b', off', rfl, _, hbw', hcell'⟩ := HP'.out.at (by omega)
        have hck := hcell k hlt
        have hck' := hcell' k hlt
        have HS : Hid (iAt l k = iAt l' k → l.take (k + 1) = l'.take (k + 1)) := by
          intro e
          have hl : k < l.length := by rw [← HN.out]; exact hlt
          have hl' : k < l'.length := by rw [← HN'.out]; exact hlt
          rw [List.take_succ_eq_append_getElem hl, List.take_succ_eq_append_getElem hl', HT.out]
          simp [iAt, hl, hl'] at e
          rw [e]
        have HF : Hid (iAt l k ≠ iAt l' k → decide (l = l') = false) := by
          intro e
          rw [decide_eq_false_iff_not]
          intro e'
          exact e (by rw [e'])
        clear hcell hcell' hbw hbw' HP HP' HT
        generalize iAt l k = ck at *
        generalize iAt l' k = ck' at *
        by_cases he : ck = ck'
        · have HS1 := hid (HS.out he)
          subst he
          have t : (ck != ck) = false := by simp
          clear HS HF
          go_wp2
          go_quiet (fail)
          go_wp2
          go_roundw
          case rel => exact ⟨k + 1, by omega, by go_num, Below.drewN' HB.out _, HS1.out⟩
          case measure => simp [intOf]; omega
        · have HF1 := hid (HF.out he)
          have t : (ck != ck') = true := by simp [he]
          clear he HS HF
          go_wp2
          go_quiet (fail)
          go_wp2
          go_ret
          exact ⟨by rw [HF1.out]; rfl, Below.drewN' HB.out _⟩
      · have HF : Hid (decide (l = l') = true) := by
          show decide (l = l') = true
          have hk' : k = n := by omega
          have e := HT.out
          have e1 : l.length ≤ k := by rw [← HN.out]; omega
          have e2 : l'.length ≤ k := by rw [← HN'.out]; omega
          rw [List.take_of_length_le e1, List.take_of_length_le e2] at e
          simp [e]
        clear HT
        go_wp2
        go_ret
        exact ⟨by rw [HF.out]; rfl, HB.out⟩
  · have hz : ((n : Int) != (n' : Int)) = true := by simp; omega
    have HF : Hid (decide (l = l') = false) := by
      show decide (l = l') = false
      rw [decide_eq_false_iff_not]
      intro e
      exact hne (by rw [HN.out, HN'.out, e])
    clear hne
    go_enter Tryz.func110, Tryz.ntmps110
    go_wp2
    go_ret
    exact ⟨by rw [HF.out]; rfl, Below.refl _ _⟩
def szOkS (l : List ByteArray) : Prop := ∀ i, (sAt l i).size ≤ 9223372036854775807
set_option maxHeartbeats 2000000 in
theorem szStringS_at (S : Nat → Prop) (a : Option Addr) (n c : Nat) (l : List ByteArray) (left : Int) (w : World) (h : Sr w S (.slice a n c) l) (hsz : szOkS l) (h0 : 0 ≤ left) (h1 : left ≤ 1048576) :
    Calls Tryz.prog 78 #[.slice a n c, .int .i64 left] w fun e w' => (∃ x : Int, e = .returned (.int .i64 x) ∧ x ≤ left ∧ -1 ≤ x ∧ (0 ≤ x → n ≤ 1048576)) ∧ Below w.heap.size w w' := by
  obtain ⟨hn, hnc, hcc⟩ := Rw.len h
  have HN := hid hn
  have H0 := hid h
  have HZ := hid hsz
  clear h hsz hn
  by_cases hbig : left - (n : Int) < 0
  · go_enter Tryz.func78, Tryz.ntmps78
    go_wp2
    go_ret
    exact ⟨⟨_, rfl, by omega, by omega, fun h => by omega⟩, Below.refl _ _⟩
  · have hn2 : n ≤ 1048576 := by omega
    go_enter Tryz.func78, Tryz.ntmps78
    go_wp2
    go_loopw [1, 5] (fun x i wr => ∃ (k : Nat) (y : Int), k ≤ n ∧ i = .int .i64 k ∧ x = .int .i64 y ∧ 0 ≤ y ∧ y ≤ left ∧ wr = w) (fun _ i _ => n - (intOf i).toNat)
    case atStart => exact ⟨0, _, Nat.zero_le _, rfl, rfl, by omega, by omega, rfl⟩
    case round =>
      obtain ⟨k, y, hk, rfl, rfl, hy0, hy1, rfl⟩ := hrel
      by_cases hlt : k < n
      · have hlt' : (k : Int) < (n : Int) := by omega
        obtain ⟨b, off, rfl, _, hbw, hcell⟩ := H0.out.at (by omega)
        have hck := hcell k hlt
        have hs := HZ.out k
        clear hcell hbw
        generalize sAt l k = s at hck hs
        by_cases hneg : y - (s.size : Int) < 0
        · go_wp2
          go_ret
          exact ⟨⟨_, rfl, by omega, by omega, fun h => by omega⟩, Below.refl _ _⟩
        · go_wp2
          go_roundw
          case rel => exact ⟨k + 1, y - (s.size : Int), by omega, by go_num, rfl, by omega, by omega, by trivial⟩
          case measure => simp [intOf]; omega
      · go_wp2
        go_ret
        exact ⟨⟨_, rfl, by omega, by omega, fun _ => hn2⟩, Below.refl _ _⟩
theorem szIntS_at (a : Option Addr) (n c : Nat) (left : Int) (w : World) (hc : n ≤ 9223372036854775807) (h0 : 0 ≤ left) (h1 : left ≤ 1048576) :
    Calls Tryz.prog 79 #[.slice a n c, .int .i64 left] w fun e w' => (∃ x : Int, e = .returned (.int .i64 x) ∧ x ≤ left ∧ -1 ≤ x ∧ (0 ≤ x → n ≤ 1048576)) ∧ Below w.heap.size w w' := by
  go_enter Tryz.func79, Tryz.ntmps79
  go_wp2
  all_goals (go_ret; exact ⟨⟨_, rfl, by omega, by omega, fun h => by omega⟩, Below.refl _ _⟩)
end Go.Proofs.YtgnjknbgahickacGreatDoor
/-
  Blocks that may be written.
-/
namespace Go.Proofs.YtgnjknbgahickacGreatDoor
open Go.RowKit
/-- Block b is a row that may be written. -/
def Uf (w : World) (b : Nat) : Prop := ∃ xs T, w.heap[b]? = some (.cells xs T (0, 0))
theorem Bk.uf {w : World} {g : Nat} {T : TypeId} {xs : List Value} (h : Bk w g T xs) : Uf w g := ⟨_, _, h⟩
theorem Uf.to {w w' : World} {b : Nat} {R : Nat → Prop} (h : Uf w b) (ho : Only R w w') (hR : ¬ R b) : Uf w' b := by
  obtain ⟨xs, T, h⟩ := h
  exact ⟨xs, T, (ho.block b (Array.getElem?_eq_some_iff.1 h).1 hR).trans h⟩
end Go.Proofs.YtgnjknbgahickacGreatDoor
/-
  What the law's helpers do with nodes and trees: copied, sizes summed, held against each other.
-/
namespace Go.Proofs.YtgnjknbgahickacGreatDoor
open Go.RowKit

theorem load_node {w : World} {g : Nat} {x y z : Value} (c0 : w.cell? ⟨g, 0, none⟩ = some x) (c1 : w.cell? ⟨g, 1, none⟩ = some y) (c2 : w.cell? ⟨g, 2, none⟩ = some z) :
    (loadVar 104 ⟨g, 0, none⟩).run Tryz.prog w = .ok (.agg #[x, y, z]) w := by go_simp
theorem results_node {fn : Func} {p : Tmp} (h : fn.results = #[.cell p 104]) (tmps : Array Value) (w : World) (g : Nat) {x y z : Value} (hp : tmps.getD p undef = .pointer (some ⟨g, 0, none⟩))
    (c0 : w.cell? ⟨g, 0, none⟩ = some x) (c1 : w.cell? ⟨g, 1, none⟩ = some y) (c2 : w.cell? ⟨g, 2, none⟩ = some z) : (results fn tmps).run Tryz.prog w = .ok (.agg #[x, y, z]) w := by
  have hp' : tmps[p]?.getD undef = .pointer (some ⟨g, 0, none⟩) := by simpa using hp
  simp [results, h, hp', asAddr, load_node c0 c1 c2]
set_option maxHeartbeats 2000000 in
theorem toNode_any (S : Nat → Prop) (ap ax ai : Option Addr) (np cp nx cx ni ci : Nat) (x : NB) (w : World) (hP : Pr w S (.slice ap np cp) x.ps) (hS : Sr w S (.slice ax nx cx) x.keys) (hI : Ir w S (.slice ai ni ci) x.kids)
    (h1 : np ≤ 1048576) (h2 : nx ≤ 1048576) (h3 : ni ≤ 1048576) :
    Calls Tryz.prog 54 #[.agg #[.slice ap np cp, .slice ax nx cx, .slice ai ni ci]] w fun e w' => ∃ g0 g1 g2, e = .returned (.agg #[.slice (some ⟨g0, 0, none⟩) np np, .slice (some ⟨g1, 0, none⟩) nx nx, .slice (some ⟨g2, 0, none⟩) ni ni]) ∧
      w.heap.size ≤ g0 ∧ w.heap.size ≤ g1 ∧ w.heap.size ≤ g2 ∧ Bk w' g0 53 (pcs x.ps) ∧ Bk w' g1 9 (x.keys.map Value.string) ∧ Bk w' g2 3 (x.kids.map (Value.int .i64)) ∧ Below w.heap.size w w' := by
  have HP := hid hP
  have HS := hid hS
  have HI := hid hI
  clear hP hS hI
  go_enter Tryz.func54, Tryz.ntmps54
  have HB0 : Hid (Below w.heap.size w (((w.alloc (.cells #[.slice ap np cp, .slice ax nx cx, .slice ai ni ci] 89)).alloc (.cells #[.slice none 0 0, .slice none 0 0, .slice none 0 0] 104)).alloc (.cells #[.slice none 0 0, .slice none 0 0, .slice none 0 0] 104))) := below_new (below_new (below_new (Below.refl _ _)))
  have KP : Hid (Bk (((w.alloc (.cells #[.slice ap np cp, .slice ax nx cx, .slice ai ni ci] 89)).alloc (.cells #[.slice none 0 0, .slice none 0 0, .slice none 0 0] 104)).alloc (.cells #[.slice none 0 0, .slice none 0 0, .slice none 0 0] 104)) w.heap.size 89 [.slice ap np cp, .slice ax nx cx, .slice ai ni ci]) := ((Bk.new w 89 [.slice ap np cp, .slice ax nx cx, .slice ai ni ci]).alloc _).alloc _
  have KR : Hid (Bk (((w.alloc (.cells #[.slice ap np cp, .slice ax nx cx, .slice ai ni ci] 89)).alloc (.cells #[.slice none 0 0, .slice none 0 0, .slice none 0 0] 104)).alloc (.cells #[.slice none 0 0, .slice none 0 0, .slice none 0 0] 104)) (w.heap.size + 1) 104 [.slice none 0 0, .slice none 0 0, .slice none 0 0]) := by
    have := (Bk.new (w.alloc (.cells #[.slice ap np cp, .slice ax nx cx, .slice ai ni ci] 89)) 104 [.slice none 0 0, .slice none 0 0, .slice none 0 0]).alloc (.cells #[.slice none 0 0, .slice none 0 0, .slice none 0 0] 104)
    show Bk _ _ _ _
    simpa using this
  have KO : Hid (Bk (((w.alloc (.cells #[.slice ap np cp, .slice ax nx cx, .slice ai ni ci] 89)).alloc (.cells #[.slice none 0 0, .slice none 0 0, .slice none 0 0] 104)).alloc (.cells #[.slice none 0 0, .slice none 0 0, .slice none 0 0] 104)) (w.heap.size + 1 + 1) 104 [.slice none 0 0, .slice none 0 0, .slice none 0 0]) := by
    have := Bk.new ((w.alloc (.cells #[.slice ap np cp, .slice ax nx cx, .slice ai ni ci] 89)).alloc (.cells #[.slice none 0 0, .slice none 0 0, .slice none 0 0] 104)) 104 [.slice none 0 0, .slice none 0 0, .slice none 0 0]
    show Bk _ _ _ _
    simpa using this
  have HZ : Hid ((((w.alloc (.cells #[.slice ap np cp, .slice ax nx cx, .slice ai ni ci] 89)).alloc (.cells #[.slice none 0 0, .slice none 0 0, .slice none 0 0] 104)).alloc (.cells #[.slice none 0 0, .slice none 0 0, .slice none 0 0] 104)).heap.size = w.heap.size + 3) := by show _ = _; simp
  go_wp2_with fail
  refine (toPairS_at S ap np cp x.ps _ (HP.out.below HB0.out) h1).mono ?_
  generalize (((w.alloc (.cells #[.slice ap np cp, .slice ax nx cx, .slice ai ni ci] 89)).alloc (.cells #[.slice none 0 0, .slice none 0 0, .slice none 0 0] 104)).alloc (.cells #[.slice none 0 0, .slice none 0 0, .slice none 0 0] 104)) = W at *
  rintro e w1 ⟨rfl, K0, hb1⟩
  have HB1 := hid (HB0.out.trans (hb1.mono HB0.out.size))
  have KP1 := hid (KP.out.below hb1)
  have KR1 := hid (KR.out.below hb1)
  have KO1 := hid (KO.out.below hb1)
  have K01 := hid K0
  have HG0 : Hid (w.heap.size + 3 ≤ W.heap.size) := Nat.le_of_eq HZ.out.symm
  clear hb1 K0 KP KR KO HB0 HZ
  generalize W.heap.size = g0 at *
  have c0 := KO1.out.cell (j := 0) rfl
  have f0 := KO1.out.free 0
  have p1 := KP1.out.cell (j := 1) rfl
  have HG0' := HG0.out
  have HB2 : Hid (Below w.heap.size w (w1.setCell ⟨w.heap.size + 1 + 1, 0, none⟩ (.slice (some ⟨g0, 0, none⟩) np np))) := HB1.out.setCell (by show w.heap.size ≤ w.heap.size + 1 + 1; omega) _
  have KP2 := hid (KP1.out.setOther (b := w.heap.size + 1 + 1) (by omega) 0 (.slice (some ⟨g0, 0, none⟩) np np))
  have KR2 := hid (KR1.out.setOther (b := w.heap.size + 1 + 1) (by omega) 0 (.slice (some ⟨g0, 0, none⟩) np np))
  have KO2 := hid (KO1.out.set 0 (.slice (some ⟨g0, 0, none⟩) np np))
  have K02 := hid (K01.out.setOther (b := w.heap.size + 1 + 1) (by omega) 0 (.slice (some ⟨g0, 0, none⟩) np np))
  have HL : Hid (g0 < (w1.setCell ⟨w.heap.size + 1 + 1, 0, none⟩ (.slice (some ⟨g0, 0, none⟩) np np)).heap.size) := K02.out.lt
  clear HB1 KP1 KR1 KO1 K01 HG0'
  go_wp2_with fail
  refine (toStringS_at S ax nx cx x.keys _ (HS.out.below HB2.out) h2).mono ?_
  generalize w1.setCell ⟨w.heap.size + 1 + 1, 0, none⟩ (.slice (some ⟨g0, 0, none⟩) np np) = W2 at *
  clear c0 f0 p1
  rintro e w2 ⟨rfl, K1, hb2⟩
  have HB3 := hid (HB2.out.trans (hb2.mono HB2.out.size))
  have KP3 := hid (KP2.out.below hb2)
  have KR3 := hid (KR2.out.below hb2)
  have KO3 := hid (KO2.out.below hb2)
  have K03 := hid (K02.out.below hb2)
  have K13 := hid K1
  clear hb2 K1 KP2 KR2 KO2 K02 HB2
  generalize W2.heap.size = g1 at *
  have c1 := KO3.out.cell (j := 1) rfl
  have f1 := KO3.out.free 1
  have p2 := KP3.out.cell (j := 2) rfl
  have HG0' := HG0.out
  have HL' := HL.out
  have HB4 : Hid (Below w.heap.size w (w2.setCell ⟨w.heap.size + 1 + 1, 1, none⟩ (.slice (some ⟨g1, 0, none⟩) nx nx))) := HB3.out.setCell (by show w.heap.size ≤ w.heap.size + 1 + 1; omega) _
  have KR4 := hid (KR3.out.setOther (b := w.heap.size + 1 + 1) (by omega) 1 (.slice (some ⟨g1, 0, none⟩) nx nx))
  have KO4 := hid (KO3.out.set 1 (.slice (some ⟨g1, 0, none⟩) nx nx))
  have K04 := hid (K03.out.setOther (b := w.heap.size + 1 + 1) (by omega) 1 (.slice (some ⟨g1, 0, none⟩) nx nx))
  have K14 := hid (K13.out.setOther (b := w.heap.size + 1 + 1) (by omega) 1 (.slice (some ⟨g1, 0, none⟩) nx nx))
  have HL1 : Hid (g1 < (w2.setCell ⟨w.heap.size + 1 + 1, 1, none⟩ (.slice (some ⟨g1, 0, none⟩) nx nx)).heap.size) := K14.out.lt
  clear HB3 KP3 KR3 KO3 K03 K13 HG0' HL'
  go_wp2_with fail
  refine (toIntS_at S ai ni ci x.kids _ (HI.out.below HB4.out) h3).mono ?_
  generalize w2.setCell ⟨w.heap.size + 1 + 1, 1, none⟩ (.slice (some ⟨g1, 0, none⟩) nx nx) = W4 at *
  clear c1 f1 p2
  rintro e w3 ⟨rfl, K2, hb3⟩
  have HB5 := hid (HB4.out.trans (hb3.mono HB4.out.size))
  have KR5 := hid (KR4.out.below hb3)
  have KO5 := hid (KO4.out.below hb3)
  have K05 := hid (K04.out.below hb3)
  have K15 := hid (K14.out.below hb3)
  have K25 := hid K2
  clear hb3 K2 KR4 KO4 K04 K14 HB4
  generalize W4.heap.size = g2 at *
  have c0 := KO5.out.cell (j := 0) rfl
  have c1 := KO5.out.cell (j := 1) rfl
  have c2 := KO5.out.cell (j := 2) rfl
  have f2 := KO5.out.free 2
  have r0 := KR5.out.cell (j := 0) rfl
  have r1 := KR5.out.cell (j := 1) rfl
  have r2 := KR5.out.cell (j := 2) rfl
  have q0 := KR5.out.free 0
  have q1 := KR5.out.free 1
  have q2 := KR5.out.free 2
  go_wp2
  try simp only [Exit.inBlock, Exit.then]
  refine bodyPost_ret (v := .agg #[.slice (some ⟨g0, 0, none⟩) np np, .slice (some ⟨g1, 0, none⟩) nx nx, .slice (some ⟨g2, 0, none⟩) ni ni]) ?_ rfl ?_
  · refine results_node rfl _ _ _ rfl ?_ ?_ ?_
    · go_simp
    · go_simp
    · go_simp
  · have HG0' := HG0.out
    have HL' := HL.out
    have HL1' := HL1.out
    refine ⟨g0, g1, g2, rfl, by omega, by omega, by omega, ?_, ?_, ?_, ?_⟩
    · exact (((K05.out.setOther (by omega) _ _).setOther (by omega) _ _).setOther (by omega) _ _).setOther (by omega) _ _
    · exact (((K15.out.setOther (by omega) _ _).setOther (by omega) _ _).setOther (by omega) _ _).setOther (by omega) _ _
    · exact (((K25.out.setOther (by omega) _ _).setOther (by omega) _ _).setOther (by omega) _ _).setOther (by omega) _ _
    · exact (((HB5.out.setCell (by show w.heap.size ≤ w.heap.size + 1 + 1; omega) _).setCell (by show w.heap.size ≤ w.heap.size + 1; omega) _).setCell (by show w.heap.size ≤ w.heap.size + 1; omega) _).setCell (by show w.heap.size ≤ w.heap.size + 1; omega) _
end Go.Proofs.YtgnjknbgahickacGreatDoor
/-
  What the law's helpers do with slices of nodes and with trees.
-/
namespace Go.Proofs.YtgnjknbgahickacGreatDoor
open Go.RowKit

def smallN (ns : List NB) : Prop := ∀ i, i < ns.length → (nAt ns i).ps.length ≤ 1048576 ∧ (nAt ns i).keys.length ≤ 1048576 ∧ (nAt ns i).kids.length ≤ 1048576
theorem N1.grow {w w' : World} {B : Nat} {p : V3} {x : NB} (h : N1 w (fun b => B < b ∧ Uf w b) p x) (ho : Only (fun b => b = B) w w') : N1 w' (fun b => B < b ∧ Uf w' b) p x :=
  (h.to ho (fun b hb _ e => by have := hb.1; omega)).mono (fun b hb _ => ⟨hb.1, hb.2.to ho (by have := hb.1; omega)⟩)
theorem N1.fresh {w : World} {B g0 g1 g2 : Nat} {x : NB} {np nx ni : Nat} (h0 : B < g0) (h1 : B < g1) (h2 : B < g2) (k0 : Bk w g0 53 (pcs x.ps)) (k1 : Bk w g1 9 (x.keys.map Value.string)) (k2 : Bk w g2 3 (x.kids.map (Value.int .i64)))
    (l0 : np = x.ps.length) (l1 : nx = x.keys.length) (l2 : ni = x.kids.length) (b0 : np ≤ 1048576) (b1 : nx ≤ 1048576) (b2 : ni ≤ 1048576) :
    N1 w (fun b => B < b ∧ Uf w b) (.slice (some ⟨g0, 0, none⟩) np np, .slice (some ⟨g1, 0, none⟩) nx nx, .slice (some ⟨g2, 0, none⟩) ni ni) x := by
  refine ⟨k0.pr l0 (by omega) _ ⟨h0, k0.uf⟩, ?_, ?_⟩
  · subst l1
    exact k1.rw (Nat.le_refl _) (by omega) (fun e => by rw [List.eq_nil_of_length_eq_zero e]; rfl) _ ⟨h1, k1.uf⟩
  · subst l2
    exact k2.rw (Nat.le_refl _) (by omega) (fun e => by rw [List.eq_nil_of_length_eq_zero e]; rfl) _ ⟨h2, k2.uf⟩
theorem vAt_set (V : List V3) (j : Nat) (p : V3) (h : j < V.length) : vAt (V.set j p) j = p := by simp [vAt, h]
theorem vAt_other (V : List V3) (j i : Nat) (p : V3) (h : i ≠ j) : vAt (V.set j p) i = vAt V i := by simp [vAt, Ne.symm h]
theorem infoNodeI : (Tryz.prog.info? 104).map (fun i => (i.zero, i.size, i.bytes)) = some (some (.agg #[.slice none 0 0, .slice none 0 0, .slice none 0 0]), 3, 72) := by kernel_rfl
theorem made_nodes (n : Nat) : madeCells (Value.agg #[.slice none 0 0, .slice none 0 0, .slice none 0 0]).cells (n * 3) = (ncs (List.replicate n (.slice none 0 0, .slice none 0 0, .slice none 0 0))).toArray := by
  apply Array.ext
  · simp [madeCells, ncs_length]
  · intro i h1 h2
    simp [ncs_length] at h2
    simp only [madeCells, List.getElem_toArray]
    have h3 : (ncs (List.replicate n ((.slice none 0 0, .slice none 0 0, .slice none 0 0) : V3)))[i]? = some (.slice none 0 0) := by
      obtain ⟨c0, c1, c2⟩ := ncs_at (List.replicate n ((.slice none 0 0, .slice none 0 0, .slice none 0 0) : V3)) (i / 3) (by simp; omega)
      simp [vAt, show i / 3 < n by omega] at c0 c1 c2
      have : i % 3 = 0 ∨ i % 3 = 1 ∨ i % 3 = 2 := by omega
      rcases this with e | e | e
      · rw [show i / 3 * 3 = i by omega] at c0; exact c0
      · rw [show i / 3 * 3 + 1 = i by omega] at c1; exact c1
      · rw [show i / 3 * 3 + 2 = i by omega] at c2; exact c2
    have h4 := List.getElem?_eq_some_iff.1 h3
    rw [h4.2]
    have : i % 3 = 0 ∨ i % 3 = 1 ∨ i % 3 = 2 := by omega
    rcases this with e | e | e <;> simp [Value.cells, e]
set_option maxHeartbeats 4000000 in
theorem toNodeS_at (S : Nat → Prop) (a : Option Addr) (n c : Nat) (ns : List NB) (w : World) (h : Nr w S (.slice a n c) ns) (hnm : n ≤ 1048576) (hsm : smallN ns) :
    Calls Tryz.prog 28 #[.slice a n c] w fun e w' => e = .returned (.slice (some ⟨w.heap.size, 0, none⟩) n n) ∧ Nr w' (fun b => w.heap.size ≤ b ∧ Uf w' b) (.slice (some ⟨w.heap.size, 0, none⟩) n n) ns ∧ Below w.heap.size w w' := by
  have HN := hid h.len.1
  have H0 := hid h
  have HSM := hid hsm
  clear h hsm
  have hmk := run_make_n (P := Tryz.prog) 28 104 (.agg #[.slice none 0 0, .slice none 0 0, .slice none 0 0]) 3 72 Tryz.underlying28 infoNodeI n (by omega) (by omega)
  rw [made_nodes] at hmk
  have h63 : n ≤ 9223372036854775807 := by omega
  have HV0 : Hid ((List.replicate n ((.slice none 0 0, .slice none 0 0, .slice none 0 0) : V3)).length = n) := by show _ = _; simp
  generalize List.replicate n ((.slice none 0 0, .slice none 0 0, .slice none 0 0) : V3) = V0 at *
  go_enter Tryz.func28, Tryz.ntmps28
  go_wp2
  go_loopw [4] (fun i wr => ∃ (k : Nat) (V : List V3), k ≤ n ∧ i = .int .i64 k ∧ Hid (V.length = n) ∧ Hid (Bk wr w.heap.size 104 (ncs V)) ∧ Hid (∀ i, i < k → N1 wr (fun b => w.heap.size < b ∧ Uf wr b) (vAt V i) (nAt ns i)) ∧ Hid (Below w.heap.size w wr)) (fun i _ => n - (intOf i).toNat)
  case atStart => exact ⟨0, V0, Nat.zero_le _, rfl, HV0.out, Bk.new _ _ _, fun i hi => absurd hi (Nat.not_lt_zero _), (Below.refl _ _).alloc (Nat.le_refl _) _⟩
  case round =>
    obtain ⟨k, V, hk, rfl, HV, HK, HA, HB⟩ := hrel
    by_cases hlt : k < n
    · have hlt' : (k : Int) < (n : Int) := by omega
      have HP := hid (H0.out.below HB.out)
      obtain ⟨b, off, rfl, _, hbw, hcell⟩ := HP.out.at (by omega)
      obtain ⟨ap, np, cp, ax, nx, cx, ai, ni, ci, c0, c1, c2, hp, hx, hi⟩ := hcell k hlt
      obtain ⟨s1, s2, s3⟩ := HSM.out k (by rw [← HN.out]; exact hlt)
      have l0 := hid (Rw.len hp).1
      have l1 := hid (Rw.len hx).1
      have l2 := hid (Rw.len hi).1
      have b0 : np ≤ 1048576 := by rw [l0.out]; exact s1
      have b1 : nx ≤ 1048576 := by rw [l1.out]; exact s2
      have b2 : ni ≤ 1048576 := by rw [l2.out]; exact s3
      have HPp := hid hp
      have HPx := hid hx
      have HPi := hid hi
      have HWL : Hid (w.heap.size < wr.heap.size) := HK.out.lt
      clear hcell hbw HP hp hx hi s1 s2 s3
      go_wp2_with fail
      refine (toNode_any S ap ax ai np cp nx cx ni ci (nAt ns k) wr HPp.out HPx.out HPi.out b0 b1 b2).mono ?_
      rintro e w1 ⟨g0, g1, g2, rfl, e0, e1, e2, k0, k1, k2, hb1⟩
      have HK1 := hid (HK.out.below hb1)
      have HB1 := hid (HB.out.trans (hb1.mono HB.out.size))
      have HWL' := HWL.out
      have HA1 : Hid (∀ i, i < k → N1 w1 (fun b => w.heap.size < b ∧ Uf w1 b) (vAt V i) (nAt ns i)) := fun i hi => (HA.out i hi).grow (only_of_below hb1 _)
      have HN1 : Hid (N1 w1 (fun b => w.heap.size < b ∧ Uf w1 b) (.slice (some ⟨g0, 0, none⟩) np np, .slice (some ⟨g1, 0, none⟩) nx nx, .slice (some ⟨g2, 0, none⟩) ni ni) (nAt ns k)) := N1.fresh (by omega) (by omega) (by omega) k0 k1 k2 l0.out l1.out l2.out b0 b1 b2
      clear hb1 HA HB k0 k1 k2 e0 e1 e2 HWL' c0 c1 c2 HPp HPx HPi
      obtain ⟨d0, d1, d2⟩ := ncs_at V k (by rw [HV.out]; exact hlt)
      have c0 := HK1.out.cell d0
      have c1 := HK1.out.cell d1
      have c2 := HK1.out.cell d2
      have f0 := HK1.out.free (k * 3)
      have f1 := HK1.out.free (k * 3 + 1)
      have f2 := HK1.out.free (k * 3 + 2)
      clear d0 d1 d2
      have HO : Hid (Only (fun b => b = w.heap.size) w1 (((w1.setCell ⟨w.heap.size, k * 3, none⟩ (.slice (some ⟨g0, 0, none⟩) np np)).setCell ⟨w.heap.size, k * 3 + 1, none⟩ (.slice (some ⟨g1, 0, none⟩) nx nx)).setCell ⟨w.heap.size, k * 3 + 2, none⟩ (.slice (some ⟨g2, 0, none⟩) ni ni))) := ((only_set (R := fun b => b = w.heap.size) rfl _).trans (only_set (R := fun b => b = w.heap.size) rfl _)).trans (only_set (R := fun b => b = w.heap.size) rfl _)
      have HK2 : Hid (Bk (((w1.setCell ⟨w.heap.size, k * 3, none⟩ (.slice (some ⟨g0, 0, none⟩) np np)).setCell ⟨w.heap.size, k * 3 + 1, none⟩ (.slice (some ⟨g1, 0, none⟩) nx nx)).setCell ⟨w.heap.size, k * 3 + 2, none⟩ (.slice (some ⟨g2, 0, none⟩) ni ni)) w.heap.size 104 (ncs (V.set k (.slice (some ⟨g0, 0, none⟩) np np, .slice (some ⟨g1, 0, none⟩) nx nx, .slice (some ⟨g2, 0, none⟩) ni ni)))) := by
        show Bk _ _ _ _
        rw [ncs_set _ _ _ (by rw [HV.out]; exact hlt)]
        exact ((HK1.out.set _ _).set _ _).set _ _
      have HB2 : Hid (Below w.heap.size w (((w1.setCell ⟨w.heap.size, k * 3, none⟩ (.slice (some ⟨g0, 0, none⟩) np np)).setCell ⟨w.heap.size, k * 3 + 1, none⟩ (.slice (some ⟨g1, 0, none⟩) nx nx)).setCell ⟨w.heap.size, k * 3 + 2, none⟩ (.slice (some ⟨g2, 0, none⟩) ni ni))) := ((HB1.out.setCell (Nat.le_refl _) _).setCell (Nat.le_refl _) _).setCell (Nat.le_refl _) _
      have HA2 : Hid (∀ i, i < k + 1 → N1 (((w1.setCell ⟨w.heap.size, k * 3, none⟩ (.slice (some ⟨g0, 0, none⟩) np np)).setCell ⟨w.heap.size, k * 3 + 1, none⟩ (.slice (some ⟨g1, 0, none⟩) nx nx)).setCell ⟨w.heap.size, k * 3 + 2, none⟩ (.slice (some ⟨g2, 0, none⟩) ni ni)) (fun b => w.heap.size < b ∧ Uf (((w1.setCell ⟨w.heap.size, k * 3, none⟩ (.slice (some ⟨g0, 0, none⟩) np np)).setCell ⟨w.heap.size, k * 3 + 1, none⟩ (.slice (some ⟨g1, 0, none⟩) nx nx)).setCell ⟨w.heap.size, k * 3 + 2, none⟩ (.slice (some ⟨g2, 0, none⟩) ni ni)) b) (vAt (V.set k (.slice (some ⟨g0, 0, none⟩) np np, .slice (some ⟨g1, 0, none⟩) nx nx, .slice (some ⟨g2, 0, none⟩) ni ni)) i) (nAt ns i)) := by
        intro i hi
        by_cases e : i = k
        · subst e
          rw [vAt_set _ _ _ (by rw [HV.out]; exact hlt)]
          exact HN1.out.grow HO.out
        · rw [vAt_other _ _ _ _ e]
          exact (HA1.out i (by omega)).grow HO.out
      have HV2 : Hid ((V.set k (.slice (some ⟨g0, 0, none⟩) np np, .slice (some ⟨g1, 0, none⟩) nx nx, .slice (some ⟨g2, 0, none⟩) ni ni)).length = n) := by show _ = _; rw [List.length_set]; exact HV.out
      clear HO HN1 HA1 HB1
      generalize (vAt V k).1 = o0 at c0
      generalize (vAt V k).2.1 = o1 at c1
      generalize (vAt V k).2.2 = o2 at c2
      go_wp2
      go_roundw
      case rel => exact ⟨k + 1, _, by omega, by go_num, HV2.out, HK2.out, HA2.out, HB2.out⟩
      case measure => simp [intOf]; omega
    · have hk' : k = n := by omega
      have HR : Hid (Nr wr (fun b => w.heap.size ≤ b ∧ Uf wr b) (.slice (some ⟨w.heap.size, 0, none⟩) n n) ns) := by
        refine ⟨V, by rw [HV.out, HN.out], ?_, fun i hi => (HA.out i (by rw [hk', HN.out]; exact hi)).mono (fun b hb _ => ⟨Nat.le_of_lt hb.1, hb.2⟩)⟩
        rw [← HN.out]
        exact HK.out.rw (Nat.le_refl _) h63 (fun e => List.eq_nil_of_length_eq_zero (by rw [ncs_length, HV.out, e])) _ ⟨Nat.le_refl _, HK.out.uf⟩
      clear hk'
      go_wp2
      go_ret
      exact ⟨rfl, HR.out, HB.out⟩
theorem load_tree {w : World} {g : Nat} {x : Value} (c0 : w.cell? ⟨g, 0, none⟩ = some x) : (loadVar 30 ⟨g, 0, none⟩).run Tryz.prog w = .ok (.agg #[x]) w := by go_simp
theorem results_tree {fn : Func} {p : Tmp} (h : fn.results = #[.cell p 30]) (tmps : Array Value) (w : World) (g : Nat) {x : Value} (hp : tmps.getD p undef = .pointer (some ⟨g, 0, none⟩))
    (c0 : w.cell? ⟨g, 0, none⟩ = some x) : (results fn tmps).run Tryz.prog w = .ok (.agg #[x]) w := by
  have hp' : tmps[p]?.getD undef = .pointer (some ⟨g, 0, none⟩) := by simpa using hp
  simp [results, h, hp', asAddr, load_tree c0]
set_option maxHeartbeats 2000000 in
theorem toTree_at (S : Nat → Prop) (a : Option Addr) (n c : Nat) (ns : List NB) (w : World) (h : Nr w S (.slice a n c) ns) (hnm : n ≤ 1048576) (hsm : smallN ns) :
    Calls Tryz.prog 8 #[.agg #[.slice a n c]] w fun e w' => ∃ g, e = .returned (.agg #[.slice (some ⟨g, 0, none⟩) n n]) ∧ Nr w' (fun b => w.heap.size ≤ b ∧ Uf w' b) (.slice (some ⟨g, 0, none⟩) n n) ns ∧ Below w.heap.size w w' := by
  have H0 := hid h
  clear h
  have HB0 : Hid (Below w.heap.size w (((w.alloc (.cells #[.slice a n c] 24)).alloc (.cells #[.slice none 0 0] 30)).alloc (.cells #[.slice none 0 0] 30))) := below_new (below_new (below_new (Below.refl _ _)))
  have KR : Hid (Bk (((w.alloc (.cells #[.slice a n c] 24)).alloc (.cells #[.slice none 0 0] 30)).alloc (.cells #[.slice none 0 0] 30)) (w.heap.size + 1) 30 [.slice none 0 0]) := by
    have := (Bk.new (w.alloc (.cells #[.slice a n c] 24)) 30 [.slice none 0 0]).alloc (.cells #[.slice none 0 0] 30)
    show Bk _ _ _ _
    simpa using this
  have KO : Hid (Bk (((w.alloc (.cells #[.slice a n c] 24)).alloc (.cells #[.slice none 0 0] 30)).alloc (.cells #[.slice none 0 0] 30)) (w.heap.size + 1 + 1) 30 [.slice none 0 0]) := by
    have := Bk.new ((w.alloc (.cells #[.slice a n c] 24)).alloc (.cells #[.slice none 0 0] 30)) 30 [.slice none 0 0]
    show Bk _ _ _ _
    simpa using this
  have HZ : Hid ((((w.alloc (.cells #[.slice a n c] 24)).alloc (.cells #[.slice none 0 0] 30)).alloc (.cells #[.slice none 0 0] 30)).heap.size = w.heap.size + 3) := by show _ = _; simp
  go_enter Tryz.func8, Tryz.ntmps8
  go_wp2_with fail
  refine (toNodeS_at S a n c ns _ (H0.out.below HB0.out) hnm hsm).mono ?_
  generalize ((w.alloc (.cells #[.slice a n c] 24)).alloc (.cells #[.slice none 0 0] 30)).alloc (.cells #[.slice none 0 0] 30) = W at *
  rintro e w1 ⟨rfl, K0, hb1⟩
  have HB1 := hid (HB0.out.trans (hb1.mono HB0.out.size))
  have KR1 := hid (KR.out.below hb1)
  have KO1 := hid (KO.out.below hb1)
  have K01 := hid K0
  clear hb1 K0 KR KO HB0
  generalize W.heap.size = g at *
  have c0 := KO1.out.cell (j := 0) rfl
  have f0 := KO1.out.free 0
  have r0 := KR1.out.cell (j := 0) rfl
  have q0 := KR1.out.free 0
  go_wp2
  try simp only [Exit.inBlock, Exit.then]
  refine bodyPost_ret (v := .agg #[.slice (some ⟨g, 0, none⟩) n n]) ?_ rfl ?_
  · refine results_tree rfl _ _ _ rfl ?_
    · go_simp
  · have HZ' := HZ.out
    have O1 : Only (fun b => b < g) w1 ((w1.setCell ⟨w.heap.size + 1 + 1, 0, none⟩ (.slice (some ⟨g, 0, none⟩) n n)).setCell ⟨w.heap.size + 1, 0, none⟩ (.slice (some ⟨g, 0, none⟩) n n)) := (only_set (R := fun b => b < g) (by show w.heap.size + 1 + 1 < g; omega) _).trans (only_set (R := fun b => b < g) (by show w.heap.size + 1 < g; omega) _)
    refine ⟨g, rfl, ?_, (HB1.out.setCell (by show w.heap.size ≤ w.heap.size + 1 + 1; omega) _).setCell (by show w.heap.size ≤ w.heap.size + 1; omega) _⟩
    exact (K01.out.to O1 (fun b hb _ h => by have := hb.1; omega)).mono (fun b hb _ => ⟨by have := hb.1; omega, hb.2.to O1 (by have := hb.1; omega)⟩)
end Go.Proofs.YtgnjknbgahickacGreatDoor
/-
  A limb of the program: a pointer to a struct of two slices, its pairs and its kids; which blocks it has for its own.
-/
namespace Go.Proofs.YtgnjknbgahickacGreatDoor
open Go.RowKit

def tAt (ks : List T) (i : Nat) : T := ks[i]?.getD default
def ptr (b : Nat) : Value := .pointer (some ⟨b, 0, none⟩)
def ptrs (A : Nat → Nat) (n : Nat) : List Value := (List.range n).map fun i => ptr (A i)
theorem ptrs_at (A : Nat → Nat) (n i : Nat) (h : i < n) : (ptrs A n)[i]? = some (ptr (A i)) := by simp [ptrs, h]
/-- Block b is in w the limb t; its blocks are those of S, and its kids' blocks are apart from each other and from its own. -/
inductive Limb (w : World) : (Nat → Prop) → Nat → T → Prop
  | mk (S : Nat → Prop) (b : Nat) (pv kv : Value) (ps : List PB) (ks : List T) (A : Nat → Nat) (SS : Nat → Nat → Prop)
      (hb : S b) (hB : Bk w b 160 [pv, kv])
      (hP : w.ownsRow 0 53 2 pv ps.length (pcs ps)) (hK : w.ownsRow 0 122 1 kv ks.length (ptrs A ks.length))
      (hPS : ∀ x, pv.ownBlock = some x → S x ∧ x ≠ b) (hKS : ∀ x, kv.ownBlock = some x → S x ∧ x ≠ b ∧ pv.ownBlock ≠ some x)
      (hSS : ∀ i, i < ks.length → ∀ x, SS i x → S x ∧ x ≠ b ∧ pv.ownBlock ≠ some x ∧ kv.ownBlock ≠ some x)
      (hD : ∀ i j, i < ks.length → j < ks.length → i ≠ j → ∀ x, SS i x → ¬ SS j x)
      (hk : ∀ i, i < ks.length → Limb w (SS i) (A i) (tAt ks i)) : Limb w S b (.mk ps ks)
theorem Limb.to {w w' : World} {R : Nat → Prop} (ho : Only R w w') {S : Nat → Prop} {b : Nat} {t : T} (h : Limb w S b t) : (∀ x, S x → ¬ R x) → Limb w' S b t := by
  induction h with
  | mk S b pv kv ps ks A SS hb hB hP hK hPS hKS hSS hD hk ih =>
    intro hR
    exact .mk S b pv kv ps ks A SS hb (hB.to ho (hR b hb)) (own_kept hP ho fun k e => hR k (hPS k e).1) (own_kept hK ho fun k e => hR k (hKS k e).1) hPS hKS hSS hD
      (fun i hi => ih i hi (fun x hx => hR x (hSS i hi x hx).1))
theorem Limb.mono {w : World} {S S' : Nat → Prop} {b : Nat} {t : T} (h : Limb w S b t) (hS : ∀ x, S x → S' x) : Limb w S' b t := by
  cases h with
  | mk _ _ pv kv ps ks A SS hb hB hP hK hPS hKS hSS hD hk =>
    exact .mk S' b pv kv ps ks A SS (hS b hb) hB hP hK (fun x hx => ⟨hS x (hPS x hx).1, (hPS x hx).2⟩) (fun x hx => ⟨hS x (hKS x hx).1, (hKS x hx).2⟩) (fun i hi x hx => ⟨hS x (hSS i hi x hx).1, (hSS i hi x hx).2⟩) hD hk
theorem Limb.kept {w w' : World} {S : Nat → Prop} {b : Nat} {t : T} (h : Limb w S b t) (hb : Below w.heap.size w w') : Limb w' S b t := h.to (only_of_below hb (fun _ => False)) (fun _ _ h => h)
theorem own_max {w : World} {base : Nat} {e : TypeId} {size : Nat} {v : Value} {n : Nat} {xs : List Value} (h : w.ownsRow base e size v n xs) : n ≤ maxLen := by
  rcases h.2 with ⟨rfl, rfl⟩ | ⟨g, cap, cur, rfl, _, _, h5, h6, _⟩
  · exact Nat.zero_le _
  · exact Nat.le_trans h5 h6
theorem undrew (w : World) (q : Nat) : Below (w.drewN q).heap.size (w.drewN q) w := ⟨rfl, rfl, rfl, Nat.le_refl _, fun _ _ => rfl⟩
/-- What a walk reads of a limb. -/
theorem Limb.see {w : World} {S : Nat → Prop} {b : Nat} {t : T} (h : Limb w S b t) : ∃ ap cp ak ck A, w.cell? ⟨b, 0, none⟩ = some (.slice ap t.ps.length cp) ∧ w.cell? ⟨b, 1, none⟩ = some (.slice ak t.ks.length ck) ∧
    Pr w S (.slice ap t.ps.length cp) t.ps ∧ Rw w S (.slice ak t.ks.length ck) t.ks.length (ptrs A t.ks.length) ∧ (∀ i, i < t.ks.length → ∃ S', (∀ x, S' x → S x) ∧ Limb w S' (A i) (tAt t.ks i)) ∧ t.ps.length ≤ maxLen ∧ t.ks.length ≤ maxLen := by
  cases h with
  | mk _ _ pv kv ps ks A SS hb hB hP hK hPS hKS hSS hD hk =>
    obtain ⟨ap, cp, rfl⟩ := own_shape hP
    obtain ⟨ak, ck, rfl⟩ := own_shape hK
    exact ⟨ap, cp, ak, ck, A, hB.cell (j := 0) rfl, hB.cell (j := 1) rfl, rw_own hP (fun k e _ _ => (hPS k e).1), rw_own hK (fun k e _ _ => (hKS k e).1), fun i hi => ⟨SS i, fun x hx => (hSS i hi x hx).1, hk i hi⟩, own_max hP, own_max hK⟩
theorem Limb.lt {w : World} {S : Nat → Prop} {b : Nat} {t : T} (h : Limb w S b t) : b < w.heap.size ∧ S b := by
  cases h with
  | mk _ _ pv kv ps ks A SS hb hB _ _ _ _ _ _ _ => exact ⟨hB.lt, hb⟩
theorem isLeaf_any (S : Nat → Prop) (b : Nat) (t : T) (w : World) (h : Limb w S b t) : Calls Tryz.prog 113 #[.pointer (some ⟨b, 0, none⟩)] w fun e w' => e = .returned (.bool (decide (t.ks.length = 0))) ∧ w' = w := by
  obtain ⟨ap, cp, ak, ck, A, c0, c1, _, _, _, _, _⟩ := h.see
  clear h
  generalize t.ks.length = n at *
  by_cases hn : n = 0
  · subst hn
    go_enter Tryz.func113, Tryz.ntmps113
    go_wp2
    go_ret
    exact ⟨rfl, rfl⟩
  · have HE : Hid (decide (n = 0) = false) := decide_eq_false hn
    have hn' : ((n : Int) == 0) = false := by simp; omega
    go_enter Tryz.func113, Tryz.ntmps113
    go_wp2
    go_ret
    exact ⟨by rw [HE.out]; rfl, rfl⟩
def T.bare (t : T) : Bool := decide (t.ps.length + t.ks.length = 0)
theorem isBare_any (S : Nat → Prop) (b : Nat) (t : T) (w : World) (h : Limb w S b t) (hs : t.ps.length + t.ks.length ≤ 1048576) : Calls Tryz.prog 180 #[.pointer (some ⟨b, 0, none⟩)] w fun e w' => e = .returned (.bool t.bare) ∧ ∃ q, w' = w.drewN q := by
  obtain ⟨ap, cp, ak, ck, A, c0, c1, _, _, _, _, _⟩ := h.see
  clear h
  have HE : t.bare = decide (t.ps.length + t.ks.length = 0) := rfl
  generalize t.ks.length = n at *
  generalize t.ps.length = m at *
  generalize t.bare = Z at *
  have hz : ((m : Int) + (n : Int) == 0) = Z := by
    rw [HE]
    by_cases h : m + n = 0
    · rw [decide_eq_true h]; simp; omega
    · rw [decide_eq_false h]; simp; omega
  clear HE
  have hw : IntKind.i64.wrap ((m : Int) + (n : Int)) = (m : Int) + (n : Int) := by rw [IntKind.wrap_i64]; omega
  go_enter Tryz.func180, Tryz.ntmps180
  go_wp2
  go_quiet (fail)
  go_wp2
  go_ret
  exact ⟨rfl, _, rfl⟩
/-- The first leaf below has a pair. -/
def T.ne : T → Prop
  | .mk ps [] => ps ≠ []
  | .mk _ (k :: _) => k.ne
set_option maxHeartbeats 2000000 in
theorem least_any (S : Nat → Prop) (b : Nat) (t : T) (w : World) (h : Limb w S b t) (hne : t.ne) : Calls Tryz.prog 143 #[.pointer (some ⟨b, 0, none⟩)] w fun e w' => e = .returned (.string t.least) ∧ ∃ q, w' = w.drewN q := by
  have H0 := hid h
  have HE := hid hne
  clear h hne
  go_enter Tryz.func143, Tryz.ntmps143
  go_wp2_with fail
  go_loopg [0] t.lv (fun k p wr => ∃ (b' : Nat) (S' : Nat → Prop) (t' : T) (q : Nat), p = .pointer (some ⟨b', 0, none⟩) ∧ wr = w.drewN q ∧ Hid (Limb w S' b' t') ∧ Hid (t'.ne ∧ t'.least = t.least ∧ k = t'.lv))
  case atStart => exact ⟨b, S, t, 0, rfl, rfl, H0.out, HE.out, rfl, rfl⟩
  case round =>
    obtain ⟨b', S', t', q, rfl, rfl, HL, HT⟩ := hrel
    have HL1 := hid (HL.out.kept (Below.drewN' (Below.refl _ _) q))
    go_wp2_with fail
    refine (isLeaf_any S' b' t' _ HL1.out).mono ?_
    rintro e w1 ⟨rfl, rfl⟩
    obtain ⟨ps, ks⟩ := t'
    obtain ⟨ap, cp, ak, ck, A, c0, c1, hp, hk, hkid, _, _⟩ := HL1.out.see
    cases ks with
    | nil =>
      obtain ⟨p, ps', rfl⟩ : ∃ p ps', ps = p :: ps' := List.exists_cons_of_ne_nil HT.out.1
      obtain ⟨x, off, rfl, _, _, hc⟩ := hp.at (by simp [T.ps])
      have d0 := (hc 0 (by simp [T.ps])).1
      simp only [T.ps, T.ks, pAtB, Nat.zero_mul, Nat.add_zero, List.length_cons, List.length_nil, List.getElem?_cons_zero, Option.getD_some, decide_true] at *
      have HR : Hid (p.1 = t.least) := HT.out.2.1
      obtain ⟨p1, p2⟩ := p
      simp only at d0 HR
      clear hc hk hkid hp
      go_wp2
      go_ret
      exact ⟨by rw [← HR.out]; rfl, q, rfl⟩
    | cons k ks =>
      obtain ⟨x, off, rfl, _, _, hc⟩ := Rw.at hk (by simp [T.ks])
      have d0 := hc 0 _ (ptrs_at A _ 0 (by simp [T.ks]))
      obtain ⟨S1, _, hk0⟩ := hkid 0 (by simp [T.ks])
      have HK0 : Hid (Limb w S1 (A 0) k) := by
        have : tAt (T.mk ps (k :: ks)).ks 0 = k := rfl
        rw [this] at hk0
        exact hk0.kept (undrew w q)
      have hz : decide ((T.mk ps (k :: ks)).ks.length = 0) = false := rfl
      rw [hz]
      simp only [T.ps, T.ks, Nat.add_zero, List.length_cons, ptr] at *
      have hpos : (0 : Int) < (ks.length : Int) + 1 := by omega
      clear hc hk hkid hp hk0 hz
      go_wp2
      go_roundg k.lv
      case measure => have := HT.out.2.2; simp [T.lv] at this; omega
      case rel => exact ⟨A 0, S1, k, q, rfl, rfl, HK0.out, HT.out.1, HT.out.2.1, rfl⟩
def T.dpt (t : T) : Nat := if t.bare = true then 0 else t.lv
set_option maxHeartbeats 2000000 in
theorem depth_any (S : Nat → Prop) (b : Nat) (t : T) (w : World) (h : Limb w S b t) (hs : t.ps.length + t.ks.length ≤ 1048576) (hlv : t.lv ≤ 1048576) : Calls Tryz.prog 160 #[.pointer (some ⟨b, 0, none⟩)] w fun e w' => e = .returned (.int .i64 (t.dpt : Int)) ∧ ∃ q, w' = w.drewN q := by
  have H0 := hid h
  clear h
  have HD : Hid (t.dpt = if t.bare = true then 0 else t.lv) := rfl
  go_enter Tryz.func160, Tryz.ntmps160
  go_wp2_with fail
  refine (isBare_any S b t _ H0.out hs).mono ?_
  rintro e w0 ⟨rfl, q0, rfl⟩
  cases hbare : t.bare
  · have HD1 : Hid (t.dpt = t.lv) := by show _ = _; rw [HD.out, hbare]; rfl
    clear HD hbare
    go_wp2_with fail
    go_loopg [0, 3] t.lv (fun k p d wr => ∃ (b' : Nat) (S' : Nat → Prop) (t' : T) (q m : Nat), p = .pointer (some ⟨b', 0, none⟩) ∧ d = .int .i64 (m : Int) ∧ wr = w.drewN q ∧ Hid (Limb w S' b' t') ∧ Hid (t'.lv + m = t.lv + 1 ∧ k = t'.lv))
    case atStart => exact ⟨b, S, t, q0, 1, rfl, rfl, rfl, H0.out, rfl, rfl⟩
    case round =>
      obtain ⟨b', S', t', q, m, rfl, rfl, rfl, HL, HT⟩ := hrel
      have HL1 := hid (HL.out.kept (Below.drewN' (Below.refl _ _) q))
      go_wp2_with fail
      refine (isLeaf_any S' b' t' _ HL1.out).mono ?_
      rintro e w1 ⟨rfl, rfl⟩
      obtain ⟨ps, ks⟩ := t'
      obtain ⟨ap, cp, ak, ck, A, c0, c1, hp, hk, hkid, _, _⟩ := HL1.out.see
      cases ks with
      | nil =>
        have HR : Hid ((m : Int) = (t.dpt : Int)) := by
          show _ = _
          have := HT.out.1
          rw [HD1.out]
          simp [T.lv] at this
          omega
        clear hk hkid hp
        go_wp2
        go_ret
        exact ⟨by rw [← HR.out]; rfl, q, rfl⟩
      | cons k ks =>
        obtain ⟨x, off, rfl, _, _, hc⟩ := Rw.at hk (by simp [T.ks])
        have d0 := hc 0 _ (ptrs_at A _ 0 (by simp [T.ks]))
        obtain ⟨S1, _, hk0⟩ := hkid 0 (by simp [T.ks])
        have HK0 : Hid (Limb w S1 (A 0) k) := by
          have : tAt (T.mk ps (k :: ks)).ks 0 = k := rfl
          rw [this] at hk0
          exact hk0.kept (undrew w q)
        have hz : decide ((T.mk ps (k :: ks)).ks.length = 0) = false := rfl
        rw [hz]
        have hm : m ≤ 1048577 := by have := HT.out.1; simp [T.lv] at this; omega
        simp only [T.ps, T.ks, Nat.add_zero, List.length_cons, ptr] at *
        have hpos : (0 : Int) < (ks.length : Int) + 1 := by omega
        clear hc hk hkid hp hk0 hz
        go_wp2
        go_roundg k.lv
        case measure => have := HT.out.2; simp [T.lv] at this; omega
        case rel => exact ⟨A 0, S1, k, q, m + 1, rfl, by go_num, rfl, HK0.out, by have := HT.out.1; simp [T.lv] at this; omega, rfl⟩
  · have HD1 : Hid (t.dpt = 0) := by show _ = _; rw [HD.out, hbare]; rfl
    clear HD hbare
    go_wp2
    go_ret
    exact ⟨by rw [HD1.out]; rfl, q0, rfl⟩
end Go.Proofs.YtgnjknbgahickacGreatDoor
/-
  Appending pairs to a row of one's own; the method all: it adds the pairs below a limb.
-/
namespace Go.Proofs.YtgnjknbgahickacGreatDoor
open Go.RowKit

/-- The slice value v owns, from block base on, a row of the pairs l. -/
def Ow (w : World) (base : Nat) (v : Value) (l : List PB) : Prop := w.ownsRow base 53 2 v l.length (pcs l)
theorem Ow.to {w w' : World} {R : Nat → Prop} {base : Nat} {v : Value} {l : List PB} (h : Ow w base v l) (ho : Only R w w') (hR : ∀ k, v.ownBlock = some k → ¬ R k) : Ow w' base v l := own_kept h ho hR
theorem Ow.kept {w w' : World} {base : Nat} {v : Value} {l : List PB} (h : Ow w base v l) (hb : Below w.heap.size w w') : Ow w' base v l := h.to (only_of_below hb (fun _ => False)) (fun _ _ h => h)
theorem Ow.pr {w : World} {base : Nat} {v : Value} {l : List PB} (h : Ow w base v l) {S : Nat → Prop} (hS : ∀ k, v.ownBlock = some k → base ≤ k → k < w.heap.size → S k) : Pr w S v l := rw_own h hS
theorem Ow.shape' {w : World} {base : Nat} {v : Value} {l : List PB} (h : Ow w base v l) : ∃ a n c, v = .slice a n c ∧ Hid (n = l.length) := by
  obtain ⟨a, c, rfl⟩ := own_shape h
  exact ⟨a, _, c, rfl, rfl⟩
theorem Ow.shape {w : World} {base : Nat} {v : Value} {l : List PB} (h : Ow w base v l) : ∃ a c, v = .slice a l.length c := own_shape h
theorem ow_nil (w : World) (base : Nat) : Ow w base (.slice none 0 0) [] := World.ownsRow_nil w base _ _
theorem info_of {P : Program} {e : TypeId} {z : Value} {size bytes : Nat} (h : (P.info? e).map (fun i => (i.zero, i.size, i.bytes)) = some (some z, size, bytes)) : ∃ i, P.info? e = some i ∧ i.zero = some z ∧ i.size = size ∧ i.bytes = bytes := by
  obtain ⟨i, hi, hz⟩ := Option.map_eq_some_iff.1 h
  simp only [Prod.mk.injEq] at hz
  exact ⟨i, hi, hz⟩
theorem wpList_append_pairs {w : World} {ops : Array Oper} {rest : List Oper} {o : Oper} {a : Act} {Q : Exit → Act → World → Prop} (hgd : o.guard = none) (s x : Operand)
    (ho : o.op = .call { callee := .builtin .append, args := #[s, x], argTypes := #[50, 50] }) (base : Nat) (v : Value) (l : List PB) (hs : a.eval s = v) (hown : Ow w base v l)
    (S : Nat → Prop) (src : Value) (m : List PB) (hx : a.eval x = src) (hsrc : Pr w S src m) (hb : l.length + m.length ≤ 2097154) (hbase : base ≤ w.heap.size)
    (h : ∀ v' w', Ow w' base v' (l ++ m) → w.grownBy w' v.ownBlock → wpList Tryz.prog ops Q rest (a.put o.dst v') w') : wpList Tryz.prog ops Q (o :: rest) a w := by
  obtain ⟨i, hi, hz, hsz, hby⟩ := info_of infoPairI
  refine wpList_append_row hgd s x 50 ho base 53 i _ 2 32 Tryz.underlying50 hi hz hsz hby rfl (by decide) v l.length (pcs l) hs hown S src m.length (pcs m) hx hsrc (pcs_length m) (pcs_one m) (by unfold maxLen; omega) (by omega) hbase ?_
  intro v' w' h1 h2
  refine h v' w' ?_ h2
  unfold Ow
  rw [List.length_append, pcs_append]
  exact h1
theorem only_of_belowB {B : Nat} {w w' : World} (h : Below B w w') : Only (fun b => B ≤ b) w w' := ⟨h.os, h.tape, h.output, h.size, fun b _ hn => h.block b (by omega)⟩
theorem grown_belowB {w w' : World} {base : Nat} {v : Value} {l : List PB} (h : Ow w base v l) (hg : w.grownBy w' v.ownBlock) (hB : base ≤ w.heap.size) : Below base w w' := (Below.refl _ _).grown hg hB fun k hk => (World.ownsRow.lt h k hk).1
theorem allL_take (ks : List T) (k : Nat) (h : k < ks.length) : allL (ks.take (k + 1)) = allL (ks.take k) ++ (tAt ks k).all := by
  induction ks generalizing k with
  | nil => simp at h
  | cons x ks ih =>
    cases k with
    | zero => simp [allL, tAt]
    | succ k =>
      have := ih k (by simpa using h)
      simp only [List.take_succ_cons, allL, this, List.append_assoc]
      rfl
theorem allL_take_le (ks : List T) (k : Nat) : (allL (ks.take k)).length ≤ (allL ks).length := by
  induction ks generalizing k with
  | nil => simp [allL]
  | cons x ks ih =>
    cases k with
    | zero => simp [allL]
    | succ k =>
      have := ih k
      simp only [List.take_succ_cons, allL, List.length_append]
      omega
set_option maxHeartbeats 4000000 in
theorem all_any (t : T) : ∀ (S : Nat → Prop) (b : Nat) (w : World) (base : Nat) (v : Value) (l : List PB), Limb w S b t → (∀ x, S x → x < base) → base ≤ w.heap.size → Ow w base v l → l.length + t.all.length ≤ 1048576 →
    Calls Tryz.prog 91 #[.pointer (some ⟨b, 0, none⟩), v] w fun e w' => ∃ v', e = .returned v' ∧ Ow w' base v' (l ++ t.all) ∧ Below base w w' := by
  induction t using T.ind
  rename_i ps ks ih
  intro S b w base v l hL hS hbase hO hlen
  have H0 := hid hL
  have HO := hid hO
  have HS := hid hS
  have HIH := hid ih
  have HLE := hid hlen
  obtain ⟨ap, cp, ak, ck, A, c0, c1, hp, hk, hkid, _, _⟩ := hL.see
  have HP := hid hp
  have HK := hid hk
  obtain ⟨av, nv, cv, hv, HNV⟩ := hO.shape'
  have HLP : Hid (l.length + ps.length + (allL ks).length ≤ 1048576) := by
    show _ ≤ _
    have := hlen
    simp [T.all] at this
    omega
  simp only [T.ps, T.ks] at *
  clear hL hO hS ih hlen hp hk hkid
  subst hv
  go_enter Tryz.func91, Tryz.ntmps91
  go_wp2_with (at_builtin; refine wpList_append_pairs rfl _ _ rfl base _ l rfl HO.out S _ ps rfl HP.out ?b1 ?b2 ?_)
  case b1 => have := HLP.out; omega
  case b2 => exact hbase
  intro v1 w1 hO1 hg1
  have HB1 := hid (grown_belowB HO.out hg1 hbase)
  have HO1 := hid hO1
  have HL1 := hid (H0.out.to (only_of_belowB HB1.out) (fun x hx h => by have := HS.out x hx; omega))
  obtain ⟨a1, n1, cc1, hv1, HN1⟩ := hO1.shape'
  clear hO1 hg1
  subst hv1
  clear c0 c1 HP HK
  obtain ⟨ap', cp', ak', ck', A', c0, c1, hp, hk, hkid, m1, m2⟩ := HL1.out.see
  have HK := hid hk
  have HKID := hid hkid
  simp only [T.ps, T.ks] at c0 c1 m2
  have hm2 : ks.length ≤ 9223372036854775807 := m2
  clear hp hk hkid m1 m2
  generalize hn : ks.length = n at *
  have HN := hid hn
  clear hn
  go_wp2_with fail
  go_loopw [1, 18] (fun x i wr => ∃ (k : Nat) (v' : Value), k ≤ n ∧ i = .int .i64 k ∧ x = v' ∧ Hid (Ow wr base v' (l ++ ps ++ allL (ks.take k))) ∧ Hid (Below base w1 wr) ∧ Hid (Below base w wr)) (fun _ i _ => n - (intOf i).toNat)
  case atStart => exact ⟨0, _, Nat.zero_le _, rfl, rfl, by show Ow _ _ _ _; simpa [allL] using HO1.out, Below.refl _ _, HB1.out⟩
  case round =>
    obtain ⟨k, v', hk, rfl, hv', HO2, HB12, HB2⟩ := hrel
    obtain ⟨a2, n2, cc2, hv2, HN2⟩ := HO2.out.shape'
    subst hv2
    subst hv'
    by_cases hlt : k < n
    · have hlt' : (k : Int) < (n : Int) := by omega
      have HL2 := hid (H0.out.to (only_of_belowB HB2.out) (fun x hx h => by have := HS.out x hx; omega))
      have hks : k < ks.length := by rw [HN.out]; exact hlt
      obtain ⟨x, off, rfl, hSx, hxw, hc⟩ := Rw.at (HK.out.to (only_of_belowB HB12.out) (fun x hx _ h => by have := HS.out x hx; omega)) (by simp only [T.ks]; omega)
      have d0 := hc k _ (ptrs_at A' _ k (by simp only [T.ks]; omega))
      obtain ⟨S1, hS1, hk0⟩ := HKID.out k (by simp only [T.ks]; omega)
      have HK0 := hid (hk0.to (only_of_belowB HB12.out) (fun x hx h => by have := HS.out x (hS1 x hx); omega))
      have HS1 : Hid (∀ x, S1 x → x < base) := fun x hx => HS.out x (hS1 x hx)
      have HTK : Hid (allL (ks.take (k + 1)) = allL (ks.take k) ++ (tAt ks k).all) := allL_take ks k hks
      have HLEN : Hid ((l ++ ps ++ allL (ks.take k)).length + (tAt ks k).all.length ≤ 1048576) := by
        show _ ≤ _
        have h1 := allL_take_le ks (k + 1)
        have h2 := HLP.out
        rw [HTK.out] at h1
        simp only [List.length_append] at h1 ⊢
        omega
      have HMEM : Hid (tAt ks k ∈ ks) := by
        show _ ∈ _
        simp only [tAt, List.getElem?_eq_getElem hks, Option.getD_some]
        exact List.getElem_mem hks
      simp only [T.ks, ptr] at d0 HK0
      clear hc hk0 hS1 hxw hSx
      go_wp2_with fail
      refine (HIH.out (tAt ks k) HMEM.out S1 (A' k) wr base (.slice a2 n2 cc2) (l ++ ps ++ allL (ks.take k)) HK0.out HS1.out (Nat.le_trans hbase HB2.out.size) HO2.out HLEN.out).mono ?_
      rintro e w3 ⟨v3, rfl, hO3, hb3⟩
      have HO3 : Hid (Ow w3 base v3 (l ++ ps ++ allL (ks.take (k + 1)))) := by
        show Ow _ _ _ _
        rw [HTK.out, ← List.append_assoc]
        exact hO3
      have HB3 := hid (HB2.out.trans hb3)
      have HB4 := hid (HB12.out.trans hb3)
      obtain ⟨a3, n3, cc3, hv3, HN3⟩ := hO3.shape'
      subst hv3
      clear hO3 hb3
      go_wp2
      go_roundw
      case rel => exact ⟨k + 1, _, by omega, by go_num, rfl, HO3.out, HB4.out, HB3.out⟩
      case measure => simp [intOf]; omega
    · have hk' : k = n := by omega
      have HO3 : Hid (Ow wr base (.slice a2 n2 cc2) (l ++ (T.mk ps ks).all)) := by
        show Ow _ _ _ _
        have e : l ++ (T.mk ps ks).all = l ++ ps ++ allL (ks.take k) := by rw [hk', ← HN.out, List.take_length]; simp [T.all]
        rw [e]
        exact HO2.out
      clear hk'
      go_wp2
      go_ret
      exact ⟨_, rfl, HO3.out, HB2.out⟩
end Go.Proofs.YtgnjknbgahickacGreatDoor
/-
  slices.Clone of pairs; readLeaf.
-/
namespace Go.Proofs.YtgnjknbgahickacGreatDoor
open Go.RowKit

theorem ow_new (w : World) (B : Nat) (hB : B ≤ w.heap.size) : Ow (w.alloc (.cells #[] 53)) B (.slice (some ⟨w.heap.size, 0, none⟩) 0 0) [] :=
  ⟨rfl, .inr ⟨w.heap.size, 0, #[], rfl, hB, heap_alloc_new w _, Nat.le_refl _, by decide, rfl, rfl⟩⟩
theorem own_mono {w : World} {base base' : Nat} {e : TypeId} {size : Nat} {v : Value} {n : Nat} {xs : List Value} (h : w.ownsRow base e size v n xs) (hb : base' ≤ base) : w.ownsRow base' e size v n xs := by
  refine ⟨h.1, ?_⟩
  rcases h.2 with h2 | ⟨g, cap, cur, h3, h4, h5⟩
  · exact .inl h2
  · exact .inr ⟨g, cap, cur, h3, Nat.le_trans hb h4, h5⟩
set_option maxRecDepth 100000 in
set_option maxHeartbeats 2000000 in
theorem cloneP_any (S : Nat → Prop) (v : Value) (l : List PB) (w : World) (h : Pr w S v l) (hl : l.length ≤ 1048576) :
    Calls Tryz.prog 159 #[v] w fun e w' => ∃ v', e = .returned v' ∧ Ow w' w.heap.size v' l ∧ Below w.heap.size w w' := by
  have H0 := hid h
  obtain ⟨a, c, hv, hn, hc⟩ := h.shape
  subst hv
  cases a with
  | none =>
    have hl0 : l.length = 0 := by
      rcases Nat.eq_zero_or_pos l.length with e | e
      · exact e
      · obtain ⟨b, off, e1, _⟩ := h.at e
        cases e1
    obtain rfl := List.eq_nil_of_length_eq_zero hl0
    clear h hl0
    have he : ∀ w : World, (binOp .eql 50 (.slice none 0 c) (.slice none 0 0)).run Tryz.prog w = .ok (.bool true) w := fun _ => rfl
    go_enter Tryz.func159, Tryz.ntmps159
    go_wp2
    go_ret
    exact ⟨_, rfl, ow_nil _ _, Below.refl _ _⟩
  | some x =>
    clear h
    generalize hnn : l.length = n at *
    have HN := hid hnn
    clear hnn
    have he : ∀ w : World, (binOp .eql 50 (.slice (some x) n c) (.slice none 0 0)).run Tryz.prog w = .ok (.bool false) w := fun _ => rfl
    have HO := hid (ow_new w w.heap.size (Nat.le_refl _))
    have HB := hid (below_new (o := .cells #[] 53) (w := w) (Below.refl _ _))
    go_enter Tryz.func159, Tryz.ntmps159
    go_wp2_with (at_builtin; refine wpList_append_pairs rfl _ _ rfl w.heap.size _ [] rfl HO.out S _ l rfl (H0.out.below HB.out) ?b1 ?b2 ?_)
    case b1 => have := HN.out; simp; omega
    case b2 => simp
    intro v1 w1 hO1 hg1
    have HB1 := hid (HB.out.trans (grown_belowB HO.out hg1 (by simp)))
    have HO1 : Hid (Ow w1 w.heap.size v1 l) := hO1
    obtain ⟨a1, n1, cc1, hv1, HN1⟩ := hO1.shape'
    clear hO1 hg1
    subst hv1
    go_wp2
    go_ret
    exact ⟨_, rfl, HO1.out, HB1.out⟩
/-- A leaf of one's own. -/
theorem limb_leaf {w : World} {b : Nat} {pv : Value} {ps : List PB} {lo : Nat} (hB : Bk w b 160 [pv, .slice none 0 0]) (hb : lo ≤ b) (hP : Ow w lo pv ps) (hne : pv.ownBlock ≠ some b) (S : Nat → Prop) (hS : ∀ x, lo ≤ x → x < w.heap.size → S x) : Limb w S b (.mk ps []) := by
  refine .mk S b pv _ ps [] (fun _ => 0) (fun _ _ => False) (hS b hb hB.lt) hB (own_mono hP (Nat.zero_le _)) (World.ownsRow_nil w 0 _ _) (fun x hx => ⟨?_, ?_⟩) (fun x hx => by cases hx) (fun i hi => by simp at hi) (fun i j hi => by simp at hi) (fun i hi => by simp at hi)
  · have := World.ownsRow.lt hP x hx
    exact hS x this.1 this.2
  · rintro rfl
    exact hne hx
/-- What comes of reading: a new limb that is the tree, or nil. -/
def LimbOr (o : Option T) (w : World) (e : Ending) (w' : World) : Prop := match o with
  | none => e = .returned (.pointer none)
  | some t => ∃ b, e = .returned (.pointer (some ⟨b, 0, none⟩)) ∧ Limb w' (fun y => w.heap.size ≤ y ∧ y < w'.heap.size) b t
def leafT (x : NB) (root : Bool) : Option T := if leafOk x root = true then some (.mk x.ps []) else none
set_option maxHeartbeats 4000000 in
theorem readLeaf_any (S : Nat → Prop) (ap ax ai : Option Addr) (np cp nx cx ni ci : Nat) (x : NB) (root : Bool) (w : World) (hP : Pr w S (.slice ap np cp) x.ps) (hS : Sr w S (.slice ax nx cx) x.keys) :
    Calls Tryz.prog 140 #[.agg #[.slice ap np cp, .slice ax nx cx, .slice ai ni ci], .bool root] w fun e w' =>
      LimbOr (leafT x root) w e w' ∧ Below w.heap.size w w' := by
  have HP := hid hP
  have HNP := hid (Rw.len hP).1
  have HNX := hid (Rw.len hS).1
  have h1 := (Rw.len hP).2.1
  have h2 := (Rw.len hP).2.2
  have h3 := (Rw.len hS).2.1
  have h4 := (Rw.len hS).2.2
  clear hP hS
  have HB0 := hid (below_new (o := .cells #[.slice ap np cp, .slice ax nx cx, .slice ai ni ci] 104) (w := w) (Below.refl _ _))
  have KP := hid (Bk.new w 104 [.slice ap np cp, .slice ax nx cx, .slice ai ni ci])
  have LF : ∀ (np nx : Nat) (r : Bool), np = x.ps.length → nx = x.keys.length → leafOk x r = !(decide (np = 0) || decide (4 < np) || (decide (np < 2) && !r) || !decide (nx = 0)) := by
    rintro _ _ r rfl rfl; rfl
  have LF := hid (LF np nx root HNP.out HNX.out)
  by_cases a1 : np = 0
  · have HF : Hid (leafOk x root = false) := by show _ = _; rw [LF.out]; simp [a1]
    clear HP HNP LF
    subst a1
    go_enter Tryz.func140, Tryz.ntmps140
    go_wp2
    go_ret
    exact ⟨by rw [leafT, if_neg (by rw [HF.out]; decide)]; rfl, HB0.out⟩
  · have e0 : ((np : Int) == 0) = false := by simp; omega
    by_cases a2 : 4 < np
    · have e1 : (4 : Int) < (np : Int) := by omega
      have e2 : ¬ (np : Int) < 2 := by omega
      have HF : Hid (leafOk x root = false) := by show _ = _; rw [LF.out]; simp [a2]
      clear LF
      go_enter Tryz.func140, Tryz.ntmps140
      go_wp2
      go_ret
      exact ⟨by rw [leafT, if_neg (by rw [HF.out]; decide)]; rfl, HB0.out⟩
    · have e1 : ¬ (4 : Int) < (np : Int) := by omega
      by_cases a3 : np < 2
      · have e2 : (np : Int) < 2 := by omega
        cases root
        · have HF : Hid (leafOk x false = false) := by show _ = _; rw [LF.out]; simp [a3]
          clear LF
          go_enter Tryz.func140, Tryz.ntmps140
          go_wp2
          go_ret
          exact ⟨by rw [leafT, if_neg (by rw [HF.out]; decide)]; rfl, HB0.out⟩
        · by_cases a4 : nx = 0
          · have HF : Hid (leafOk x true = true) := by show _ = _; rw [LF.out]; simp [a1, a2, a4]
            have e4 : ((nx : Int) != 0) = false := by simp; omega
            clear LF a4
            have c0 := KP.out.cell (j := 0) rfl
            go_enter Tryz.func140, Tryz.ntmps140
            go_wp2_with fail
            refine (cloneP_any S (.slice ap np cp) x.ps _ (HP.out.below HB0.out) (by rw [← HNP.out]; omega)).mono ?_
            rintro e w1 ⟨v1, rfl, hO1, hb1⟩
            obtain ⟨a1, n1, cc1, hv1, HN1⟩ := hO1.shape'
            subst hv1
            have HO1 := hid hO1
            have HB1 := hid (HB0.out.trans (hb1.mono HB0.out.size))
            have HSZ : Hid (w.heap.size < w1.heap.size) := by have := hb1.size; simp at this; exact this
            clear hO1 hb1 c0
            go_wp2
            go_ret
            refine ⟨?_, HB1.out.alloc HB1.out.size _⟩
            rw [leafT, if_pos HF.out]
            refine ⟨_, rfl, ?_⟩
            refine limb_leaf (lo := w.heap.size) (Bk.new w1 160 [.slice a1 n1 cc1, .slice none 0 0]) (Nat.le_of_lt HSZ.out) (own_mono (HO1.out.kept (below_new (Below.refl _ _))) (by simp)) ?_ _ (fun y h1 h2 => ⟨h1, h2⟩)
            intro e
            have := (World.ownsRow.lt HO1.out _ e).2
            omega
          · have HF : Hid (leafOk x true = false) := by show _ = _; rw [LF.out]; simp [a4]
            have e4 : ((nx : Int) != 0) = true := by simp; omega
            clear LF a4
            go_enter Tryz.func140, Tryz.ntmps140
            go_wp2
            go_ret
            exact ⟨by rw [leafT, if_neg (by rw [HF.out]; decide)]; rfl, HB0.out⟩
      · have e2 : ¬ (np : Int) < 2 := by omega
        by_cases a4 : nx = 0
        · have HF : Hid (leafOk x root = true) := by show _ = _; rw [LF.out]; simp [a1, a2, a3, a4]
          have e4 : ((nx : Int) != 0) = false := by simp; omega
          clear LF a4
          have c0 := KP.out.cell (j := 0) rfl
          go_enter Tryz.func140, Tryz.ntmps140
          go_wp2_with fail
          refine (cloneP_any S (.slice ap np cp) x.ps _ (HP.out.below HB0.out) (by rw [← HNP.out]; omega)).mono ?_
          rintro e w1 ⟨v1, rfl, hO1, hb1⟩
          obtain ⟨a1, n1, cc1, hv1, HN1⟩ := hO1.shape'
          subst hv1
          have HO1 := hid hO1
          have HB1 := hid (HB0.out.trans (hb1.mono HB0.out.size))
          have HSZ : Hid (w.heap.size < w1.heap.size) := by have := hb1.size; simp at this; exact this
          clear hO1 hb1 c0
          go_wp2
          go_ret
          refine ⟨?_, HB1.out.alloc HB1.out.size _⟩
          rw [leafT, if_pos HF.out]
          refine ⟨_, rfl, ?_⟩
          refine limb_leaf (lo := w.heap.size) (Bk.new w1 160 [.slice a1 n1 cc1, .slice none 0 0]) (Nat.le_of_lt HSZ.out) (own_mono (HO1.out.kept (below_new (Below.refl _ _))) (by simp)) ?_ _ (fun y h1 h2 => ⟨h1, h2⟩)
          intro e
          have := (World.ownsRow.lt HO1.out _ e).2
          omega
        · have HF : Hid (leafOk x root = false) := by show _ = _; rw [LF.out]; simp [a4]
          have e4 : ((nx : Int) != 0) = true := by simp; omega
          clear LF a4
          go_enter Tryz.func140, Tryz.ntmps140
          go_wp2
          go_ret
          exact ⟨by rw [leafT, if_neg (by rw [HF.out]; decide)]; rfl, HB0.out⟩
end Go.Proofs.YtgnjknbgahickacGreatDoor
/-
  Rows of pointers to limbs that are appended to; what is known of a tree that was read.
-/
namespace Go.Proofs.YtgnjknbgahickacGreatDoor
open Go.RowKit

/-- append(dst, src...), and where the new row lies. -/
theorem run_append_row_at {P : Program} {w : World} (base : Nat) (t ty e : TypeId) (i : TypeInfo) (z : Value) (size bytes : Nat) (ht : P.underlying t = some (.slice e)) (hi : P.info? e = some i) (hz : i.zero = some z)
    (hsize : i.size = size) (hby : i.bytes = bytes) (hzs : z.cells.size = size) (hsz : 0 < size) (v : Value) (n : Nat) (xs : List Value) (hown : w.ownsRow base e size v n xs)
    (S : Nat → Prop) (src : Value) (m : Nat) (news : List Value) (hsrc : Rw w S src m news) (hl : news.length = m * size) (h1 : ∀ u ∈ news, u.oneCell' = true)
    (h63 : n + m ≤ maxLen) (hbytes : (n + m) * bytes ≤ 140737488355328) (hbase : base ≤ w.heap.size) :
    ∃ v' w', (Builtin.append_ #[t, t] ty #[v, src]).run P w = .ok v' w' ∧ w'.ownsRow base e size v' (n + m) (xs ++ news) ∧ w.grownBy w' v.ownBlock ∧ (v'.ownBlock = v.ownBlock ∨ v'.ownBlock = some w.heap.size) := by
  obtain ⟨a, c, rfl, h2, h3, h4, hn, h5⟩ := hsrc
  by_cases hm : 0 < m
  · obtain ⟨b, off, rfl, hb, hS, hc⟩ := h5 hm
    obtain ⟨v', w', hr, ho, hg, _, ha⟩ := run_append_own_at w base t ty e i z size bytes ht hi hz hsize hby hzs hsz v n xs hown ⟨b, off, none⟩ m c news hl (fun j u hu => by rw [Addr.add_lit]; exact hc j u hu) h1 h63 hbytes hbase
    exact ⟨v', w', hr, ho, hg, ha⟩
  · obtain rfl : m = 0 := by omega
    obtain rfl := h4 rfl
    cases a with
    | some ad =>
      obtain ⟨v', w', hr, ho, hg, _, ha⟩ := run_append_own_at w base t ty e i z size bytes ht hi hz hsize hby hzs hsz v n xs hown ad 0 c [] hl (fun j u hu => by simp at hu) h1 h63 hbytes hbase
      exact ⟨v', w', hr, ho, hg, ha⟩
    | none =>
      obtain rfl := hn rfl
      have hrun := run_append_owned_none (P := P) (w := w) base t ty e i size ht hi v n xs hown
      exact ⟨v, w, hrun, by simpa using hown, ⟨rfl, rfl, rfl, Nat.le_refl _, fun _ _ _ => rfl⟩, .inl rfl⟩
theorem wpList_append_row_at {P : Program} {w : World} {ops : Array Oper} {rest : List Oper} {o : Oper} {a : Act} {Q : Exit → Act → World → Prop} (hgd : o.guard = none) (s x : Operand) (t : TypeId)
    (ho : o.op = .call { callee := .builtin .append, args := #[s, x], argTypes := #[t, t] })
    (base : Nat) (e : TypeId) (i : TypeInfo) (z : Value) (size bytes : Nat) (ht : P.underlying t = some (.slice e)) (hi : P.info? e = some i) (hz : i.zero = some z)
    (hsize : i.size = size) (hby : i.bytes = bytes) (hzs : z.cells.size = size) (hsz : 0 < size) (v : Value) (n : Nat) (xs : List Value) (hs : a.eval s = v) (hown : w.ownsRow base e size v n xs)
    (S : Nat → Prop) (src : Value) (m : Nat) (news : List Value) (hx : a.eval x = src) (hsrc : Rw w S src m news) (hl : news.length = m * size) (h1 : ∀ u ∈ news, u.oneCell' = true)
    (h63 : n + m ≤ maxLen) (hbytes : (n + m) * bytes ≤ 140737488355328) (hbase : base ≤ w.heap.size)
    (h : ∀ v' w', w'.ownsRow base e size v' (n + m) (xs ++ news) → w.grownBy w' v.ownBlock → (v'.ownBlock = v.ownBlock ∨ v'.ownBlock = some w.heap.size) → wpList P ops Q rest (a.put o.dst v') w') : wpList P ops Q (o :: rest) a w := by
  refine wpList_plain hgd fun K hK => ?_
  obtain ⟨v', w', hr, h2, h3, h4⟩ := run_append_row_at (P := P) (w := w) base t o.type e i z size bytes ht hi hz hsize hby hzs hsz v n xs hown S src m news hsrc hl h1 h63 hbytes hbase
  unfold Oper.wp execOp
  simp only [ho, resolve, invoke, builtin, Sem.run_bind, Sem.run_pure, Result.andThen_ok, List.map_toArray, List.map_cons, List.map_nil, hs, hx, hr]
  exact hK _ _ (h v' w' h2 h3 h4)
theorem infoPtrL : (Tryz.prog.info? 122).map (fun i => (i.zero, i.size, i.bytes)) = some (some (.pointer none), 1, 8) := by kernel_rfl
/-- The slice value v owns, from block base on, a row of pointers to the blocks A 0 to A (n - 1). -/
def Ok (w : World) (base : Nat) (v : Value) (n : Nat) (A : Nat → Nat) : Prop := w.ownsRow base 122 1 v n (ptrs A n)
theorem Ok.to {w w' : World} {R : Nat → Prop} {base n : Nat} {v : Value} {A : Nat → Nat} (h : Ok w base v n A) (ho : Only R w w') (hR : ∀ k, v.ownBlock = some k → ¬ R k) : Ok w' base v n A := own_kept h ho hR
theorem Ok.kept {w w' : World} {base n : Nat} {v : Value} {A : Nat → Nat} (h : Ok w base v n A) (hb : Below w.heap.size w w') : Ok w' base v n A := h.to (only_of_below hb (fun _ => False)) (fun _ _ h => h)
theorem Ok.shape {w : World} {base n : Nat} {v : Value} {A : Nat → Nat} (h : Ok w base v n A) : ∃ a c, v = .slice a n c := own_shape h
theorem ptrs_snoc (A : Nat → Nat) (n b : Nat) : ptrs A n ++ [ptr b] = ptrs (fun i => if i = n then b else A i) (n + 1) := by
  simp only [ptrs, List.range_succ, List.map_append, List.map_cons, List.map_nil, if_true]
  congr 1
  apply List.map_congr_left
  intro i hi
  rw [if_neg (by have := List.mem_range.1 hi; omega)]
theorem wpList_append_ptr {w : World} {ops : Array Oper} {rest : List Oper} {o : Oper} {a : Act} {Q : Exit → Act → World → Prop} (hgd : o.guard = none) (s x : Operand)
    (ho : o.op = .call { callee := .builtin .append, args := #[s, x], argTypes := #[158, 158] }) (base : Nat) (v : Value) (n : Nat) (A : Nat → Nat) (hs : a.eval s = v) (hown : Ok w base v n A)
    (g b : Nat) (hx : a.eval x = .slice (some ⟨g, 0, none⟩) 1 1) (hc : w.cell? ⟨g, 0, none⟩ = some (.pointer (some ⟨b, 0, none⟩))) (hb : n ≤ 1048576) (hbase : base ≤ w.heap.size)
    (h : ∀ v' w', Ok w' base v' (n + 1) (fun i => if i = n then b else A i) → w.grownBy w' v.ownBlock → (v'.ownBlock = v.ownBlock ∨ v'.ownBlock = some w.heap.size) → wpList Tryz.prog ops Q rest (a.put o.dst v') w') : wpList Tryz.prog ops Q (o :: rest) a w := by
  obtain ⟨i, hi, hz, hsz, hby⟩ := info_of infoPtrL
  refine wpList_append_row_at hgd s x 158 ho base 122 i _ 1 8 Tryz.underlying158 hi hz hsz hby rfl (by decide) v n (ptrs A n) hs hown (fun _ => True) _ 1 [ptr b] hx ?_ rfl (by intro u hu; simp at hu; subst hu; rfl) (by unfold maxLen; omega) (by omega) hbase ?_
  · refine ⟨_, 1, rfl, Nat.le_refl _, by omega, fun h => by omega, fun h => (by cases h), fun _ => ⟨g, 0, rfl, block_lt hc, trivial, fun j u hu => ?_⟩⟩
    cases j with
    | zero => simp at hu; subst hu; simpa [ptr] using hc
    | succ j => simp at hu
  · intro v' w' h1 h2 h3
    refine h v' w' ?_ h2 h3
    unfold Ok
    rw [← ptrs_snoc]
    exact h1
theorem tAt_snoc (ts : List T) (t : T) (i : Nat) (h : i < (ts ++ [t]).length) : tAt (ts ++ [t]) i = if i = ts.length then t else tAt ts i := by
  by_cases e : i = ts.length
  · subst e; simp [tAt]
  · simp at h
    rw [if_neg e]
    simp [tAt, List.getElem?_append_left (show i < ts.length by omega)]
theorem full_ne : ∀ (t : T) (r : Bool), t.full r = true → t.ne
  | .mk ps [], r, h => by
    have := full_lf h
    show ps ≠ []
    rintro rfl
    simp at this
  | .mk ps (k :: ks), r, h => by
    have := full_br h (by simp)
    exact full_ne k false (this.2.2.2 k (by simp))
/-- What the methods ask of a tree. -/
structure Rdy (t : T) : Prop where
  ne : t.ne
  bare : t.bare = false
  few : t.ps.length + t.ks.length ≤ 1048576
  lv : t.lv ≤ 1048576
theorem full_few {t : T} {r : Bool} (h : t.full r = true) : t.ps.length + t.ks.length ≤ 8 ∧ t.bare = false := by
  obtain ⟨ps, ks⟩ := t
  by_cases hk : ks = []
  · subst hk
    have := full_lf h
    simp [T.ps, T.ks, T.bare]
    refine ⟨by omega, ?_⟩
    rintro rfl
    simp at this
  · have := full_br h hk
    simp only [T.ps, T.ks, T.bare, this.2.2.1, List.length_nil, decide_eq_false_iff_not]
    omega
theorem rdy_of {h : Nat} {t : T} {r : Bool} (e : Ev h t) (hu : t.full r = true) (hs : t.size ≤ 1048576) : Rdy t := by
  have h1 := full_few hu
  have h2 := ev_le_size e hu
  have h3 := ev_lv h t e
  exact ⟨full_ne t r hu, h1.2, by omega, by omega⟩
theorem pre_len {ns l : List NB} {a : Nat} (h : Pre ns a l) (hl : 0 < l.length) : a + l.length ≤ ns.length := by
  have := h (l.length - 1) (by omega)
  rw [List.getElem?_eq_getElem (by omega : l.length - 1 < l.length)] at this
  have := (List.getElem?_eq_some_iff.1 this).1
  omega
theorem rdI_rdy {ns : List NB} {f : Nat} {pl : Int} {nx n1 : Nat} {t : T} (h : rdI ns f pl nx = some (t, n1)) (hl : ns.length ≤ 1048576) : Rdy t ∧ n1 ≤ ns.length ∧ nx < n1 := by
  obtain ⟨_, h2, h3, ⟨e, h4⟩, h5, rfl⟩ := rdI_sound ns f pl nx t n1 h
  have h6 := pre_len h5 (by rw [lay_length]; exact T.size_pos t)
  rw [lay_length] at h6
  have := T.size_pos t
  exact ⟨rdy_of h4 h3 (by omega), by omega, by omega⟩
/-- What comes of a reading. -/
def ReadPost (o : Option (T × Nat)) (w : World) (wb : Nat) (nv : Value) (e : Ending) (w' : World) : Prop := match o with
  | none => e = .returned (.pointer none)
  | some (t, n1) => ∃ b, e = .returned (.pointer (some ⟨b, 0, none⟩)) ∧ Limb w' (fun y => w.heap.size ≤ y ∧ y < w'.heap.size) b t ∧ Bk w' wb 162 [nv, .int .i64 n1]
def ReadC (ns : List NB) (f : Nat) : Prop := ∀ (S : Nat → Prop) (wb : Nat) (an : Option Addr) (nn cn : Nat) (pl : Int) (nx : Nat) (w : World), Bk w wb 162 [.slice an nn cn, .int .i64 nx] → Nr w S (.slice an nn cn) ns → ¬ S wb → ns.length < 400 → nx ≤ ns.length → ns.length ≤ nx + f →
  Calls Tryz.prog 111 #[.pointer (some ⟨wb, 0, none⟩), .int .i64 pl] w fun e w' => ReadPost (rdI ns f pl nx) w wb (.slice an nn cn) e w' ∧ Only (fun b => b = wb) w w'
def brT (ns : List NB) (f : Nat) (x : NB) (nx : Nat) : Option (T × Nat) := if brOk x = true then (match rdIL (rdI ns f) x.keys [] x.kids nx with
  | none => none
  | some (ts, n) => some (.mk [] ts, n)) else none
end Go.Proofs.YtgnjknbgahickacGreatDoor
/-
  readBranch, given read.
-/
namespace Go.Proofs.YtgnjknbgahickacGreatDoor
open Go.RowKit
/-- How far readBranch has come: the kids ts have been read. -/
structure BrI (w wr : World) (wb : Nat) (nv q0 q1 q2 : Value) (ts : List T) (nx : Nat) (kv : Value) (A : Nat → Nat) (SS : Nat → Nat → Prop) : Prop where
  wlt : wb < w.heap.size
  walk : Bk wr wb 162 [nv, .int .i64 nx]
  par : Bk wr w.heap.size 104 [q0, q1, q2]
  only : Only (fun b => b = wb) w wr
  br : Bk wr (w.heap.size + 1) 160 [.slice none 0 0, kv]
  row : Ok wr (w.heap.size + 2) kv ts.length A
  sub : ∀ i, i < ts.length → ∀ x, SS i x → w.heap.size + 2 ≤ x ∧ x < wr.heap.size ∧ kv.ownBlock ≠ some x
  dis : ∀ i j, i < ts.length → j < ts.length → i ≠ j → ∀ x, SS i x → ¬ SS j x
  kid : ∀ i, i < ts.length → Limb wr (SS i) (A i) (tAt ts i)
  rdy : ∀ i, i < ts.length → Rdy (tAt ts i)
theorem BrI.read {w wr w1 : World} {wb : Nat} {nv q0 q1 q2 : Value} {ts : List T} {nx n1 : Nat} {kv : Value} {A : Nat → Nat} {SS : Nat → Nat → Prop} (h : BrI w wr wb nv q0 q1 q2 ts nx kv A SS)
    (ho : Only (fun b => b = wb) wr w1) (hb : Bk w1 wb 162 [nv, .int .i64 n1]) : BrI w w1 wb nv q0 q1 q2 ts n1 kv A SS := by
  have hw := h.wlt
  refine ⟨h.wlt, hb, h.par.to ho (by omega), h.only.trans ho, h.br.to ho (by omega), h.row.to ho (fun k e => ?_), fun i hi x hx => ?_, h.dis, fun i hi => (h.kid i hi).to ho (fun x hx => ?_), h.rdy⟩
  · have := (World.ownsRow.lt h.row k e).1; omega
  · have := h.sub i hi x hx; have := ho.size; exact ⟨by omega, by omega, (h.sub i hi x hx).2.2⟩
  · have := h.sub i hi x hx; omega
theorem BrI.keep {w wr w1 : World} {wb : Nat} {nv q0 q1 q2 : Value} {ts : List T} {nx : Nat} {kv : Value} {A : Nat → Nat} {SS : Nat → Nat → Prop} (h : BrI w wr wb nv q0 q1 q2 ts nx kv A SS)
    (hb : Below wr.heap.size wr w1) : BrI w w1 wb nv q0 q1 q2 ts nx kv A SS := h.read (only_of_below hb _) (h.walk.below hb)
theorem BrI.push {w u w2 : World} {wb : Nat} {nv q0 q1 q2 : Value} {ts : List T} {nx : Nat} {kv v' : Value} {A : Nat → Nat} {SS : Nat → Nat → Prop} (h : BrI w u wb nv q0 q1 q2 ts nx kv A SS)
    {P : Nat → Prop} {b : Nat} {t : T} (hl : Limb u P b t) (hP : ∀ x, P x → w.heap.size + 2 ≤ x ∧ x < u.heap.size ∧ kv.ownBlock ≠ some x ∧ ∀ i, i < ts.length → ¬ SS i x) (ht : Rdy t)
    (ho : Ok w2 (w.heap.size + 2) v' (ts.length + 1) (fun i => if i = ts.length then b else A i)) (hg : u.grownBy w2 kv.ownBlock) (ha : v'.ownBlock = kv.ownBlock ∨ v'.ownBlock = some u.heap.size) :
    BrI w (w2.setCell ⟨w.heap.size + 1, 1, none⟩ v') wb nv q0 q1 q2 (ts ++ [t]) nx v' (fun i => if i = ts.length then b else A i) (fun i => if i = ts.length then P else SS i) := by
  have hw := h.wlt
  have hkv := fun k e => (World.ownsRow.lt h.row k e).1
  have hsz : u.heap.size ≤ w2.heap.size := hg.size
  have hbr := h.br.lt
  have hav : ∀ x, v'.ownBlock = some x → w.heap.size + 2 ≤ x := fun x e => (World.ownsRow.lt ho x e).1
  have o1 : Only (fun b => some b = kv.ownBlock) u w2 := only_of_grown hg (fun k e => e.symm)
  have o2 : Only (fun b => b = w.heap.size + 1) w2 (w2.setCell ⟨w.heap.size + 1, 1, none⟩ v') := only_set (R := fun b => b = w.heap.size + 1) rfl _
  have o3 : Only (fun b => some b = kv.ownBlock ∨ b = w.heap.size + 1) u (w2.setCell ⟨w.heap.size + 1, 1, none⟩ v') := (o1.mono (fun _ _ e => .inl e)).then o2 (fun _ _ e => .inr e)
  refine ⟨h.wlt, h.walk.to o3 ?_, h.par.to o3 ?_, ?_, ?_, ?_, ?_, ?_, ?_, ?_⟩
  · rintro (e | e)
    · have := hkv wb e.symm; omega
    · omega
  · rintro (e | e)
    · have := hkv w.heap.size e.symm; omega
    · omega
  · refine h.only.then o3 (fun i hi e => ?_)
    rcases e with e | e
    · have := hkv i e.symm; omega
    · omega
  · have k1 := h.br.to o1 (fun e => by have := hkv _ e.symm; omega)
    exact k1.set 1 v'
  · rw [List.length_append]
    exact ho.to o2 (fun k e => by have := hav k e; omega)
  · intro i hi x hx
    have hz : (w2.setCell ⟨w.heap.size + 1, 1, none⟩ v').heap.size = w2.heap.size := by simp [World.setCell]
    rw [hz]
    by_cases e : i = ts.length
    · subst e
      simp only [if_true] at hx
      obtain ⟨p1, p2, p3, p4⟩ := hP x hx
      refine ⟨p1, by omega, ?_⟩
      rcases ha with ha | ha
      · rw [ha]; exact p3
      · rw [ha]; intro e; cases e; omega
    · simp only [e, if_false] at hx
      simp at hi
      obtain ⟨p1, p2, p3⟩ := h.sub i (by omega) x hx
      refine ⟨p1, by omega, ?_⟩
      rcases ha with ha | ha
      · rw [ha]; exact p3
      · rw [ha]; intro e; cases e; omega
  · intro i j hi hj hij x hx hy
    simp at hi hj
    by_cases e : i = ts.length
    · subst e
      simp only [if_true] at hx
      rw [if_neg (by omega)] at hy
      exact (hP x hx).2.2.2 j (by omega) hy
    · rw [if_neg e] at hx
      by_cases e' : j = ts.length
      · subst e'
        simp only [if_true] at hy
        exact (hP x hy).2.2.2 i (by omega) hx
      · rw [if_neg e'] at hy
        exact h.dis i j (by omega) (by omega) hij x hx hy
  · intro i hi
    rw [tAt_snoc _ _ _ hi]
    by_cases e : i = ts.length
    · subst e
      simp only [if_true]
      exact hl.to o3 (fun x hx => by
        rintro (e | e)
        · exact (hP x hx).2.2.1 e.symm
        · have := (hP x hx).1; omega)
    · simp only [e, if_false]
      simp at hi
      exact (h.kid i (by omega)).to o3 (fun x hx => by
        have := h.sub i (by omega) x hx
        rintro (e | e)
        · exact this.2.2 e.symm
        · omega)
  · intro i hi
    rw [tAt_snoc _ _ _ hi]
    by_cases e : i = ts.length
    · rw [if_pos e]; exact ht
    · rw [if_neg e]; simp at hi; exact h.rdy i (by omega)
theorem BrI.limb {w wr : World} {wb : Nat} {nv q0 q1 q2 : Value} {ts : List T} {nx : Nat} {kv : Value} {A : Nat → Nat} {SS : Nat → Nat → Prop} (h : BrI w wr wb nv q0 q1 q2 ts nx kv A SS) :
    Limb wr (fun y => w.heap.size ≤ y ∧ y < wr.heap.size) (w.heap.size + 1) (.mk [] ts) := by
  have hbr := h.br.lt
  refine .mk _ _ (.slice none 0 0) kv [] ts A SS ⟨by omega, hbr⟩ h.br (World.ownsRow_nil _ _ _ _) (own_mono h.row (Nat.zero_le _)) (fun x hx => by cases hx) (fun x hx => ?_) (fun i hi x hx => ?_) h.dis h.kid
  · have := World.ownsRow.lt h.row x hx
    exact ⟨⟨by omega, this.2⟩, by omega, by simp [Value.ownBlock]⟩
  · have := h.sub i hi x hx
    exact ⟨⟨by omega, this.2.1⟩, by omega, by simp [Value.ownBlock], this.2.2⟩
theorem BrI.first {w : World} {wb : Nat} {nv q0 q1 q2 : Value} {nx : Nat} (hw : Bk w wb 162 [nv, .int .i64 nx]) :
    BrI w ((w.alloc (.cells #[q0, q1, q2] 104)).alloc (.cells #[.slice none 0 0, .slice none 0 0] 160)) wb nv q0 q1 q2 [] nx (.slice none 0 0) (fun _ => 0) (fun _ _ => False) := by
  refine ⟨hw.lt, (hw.alloc _).alloc _, (Bk.new w 104 [q0, q1, q2]).alloc _, only_of_below (below_new (below_new (Below.refl _ _))) _, ?_, World.ownsRow_nil _ _ _ _, fun i hi => by simp at hi, fun i j hi => by simp at hi, fun i hi => by simp at hi, fun i hi => by simp at hi⟩
  have := Bk.new (w.alloc (.cells #[q0, q1, q2] 104)) 160 [.slice none 0 0, .slice none 0 0]
  simpa using this
set_option maxHeartbeats 8000000 in
theorem readBranch_any (ns : List NB) (f : Nat) (ih : ReadC ns f) (S : Nat → Prop) (wb : Nat) (an : Option Addr) (nn cn : Nat) (ap ax ai : Option Addr) (np cp nk cx ni ci : Nat) (x : NB) (nx : Nat) (w : World)
    (hW : Bk w wb 162 [.slice an nn cn, .int .i64 nx]) (hN : Nr w S (.slice an nn cn) ns) (hwb : ¬ S wb) (hlen : ns.length < 400) (hnx : nx ≤ ns.length) (hf : ns.length ≤ nx + f)
    (hP : Pr w S (.slice ap np cp) x.ps) (hS : Sr w S (.slice ax nk cx) x.keys) (hI : Ir w S (.slice ai ni ci) x.kids) :
    Calls Tryz.prog 141 #[.pointer (some ⟨wb, 0, none⟩), .agg #[.slice ap np cp, .slice ax nk cx, .slice ai ni ci]] w fun e w' => ReadPost (brT ns f x nx) w wb (.slice an nn cn) e w' ∧ Only (fun b => b = wb) w w' := by
  have HIH := hid ih
  have HW := hid hW
  have HN := hid hN
  have HWB := hid hwb
  have HLEN := hid hlen
  have HNX := hid hnx
  have HF := hid hf
  have HS := hid hS
  have HI := hid hI
  have lp := hid (Rw.len hP).1
  have lk := hid (Rw.len hS).1
  have li := hid (Rw.len hI).1
  have b1 := (Rw.len hP).2.1
  have b2 := (Rw.len hP).2.2
  have b3 := (Rw.len hS).2.1
  have b4 := (Rw.len hS).2.2
  have b5 := (Rw.len hI).2.1
  have b6 := (Rw.len hI).2.2
  clear ih hW hN hwb hlen hnx hf hP hS hI
  have HB0 := hid (below_new (o := .cells #[.slice ap np cp, .slice ax nk cx, .slice ai ni ci] 104) (w := w) (Below.refl _ _))
  have KP := hid (Bk.new w 104 [.slice ap np cp, .slice ax nk cx, .slice ai ni ci])
  have LB : Hid (brOk x = !(decide (ni < 2) || decide (4 < ni) || !decide ((nk : Int) = (ni : Int) - 1) || !decide (np = 0))) := by
    show _ = _
    rw [lp.out, lk.out, li.out]; rfl
  by_cases a1 : ni < 2
  · have HR : Hid (brT ns f x nx = none) := by show _ = _; rw [brT, if_neg]; rw [LB.out]; simp [a1]
    have e1 : (ni : Int) < 2 := by omega
    clear LB a1
    go_enter Tryz.func141, Tryz.ntmps141
    go_wp2
    go_ret
    exact ⟨by rw [HR.out]; rfl, only_of_below HB0.out _⟩
  · have e1 : ¬ (ni : Int) < 2 := by omega
    by_cases a2 : 4 < ni
    · have HR : Hid (brT ns f x nx = none) := by show _ = _; rw [brT, if_neg]; rw [LB.out]; simp [a2]
      have e2 : (4 : Int) < (ni : Int) := by omega
      clear LB a1 a2
      go_enter Tryz.func141, Tryz.ntmps141
      go_wp2
      go_ret
      exact ⟨by rw [HR.out]; rfl, only_of_below HB0.out _⟩
    · have e2 : ¬ (4 : Int) < (ni : Int) := by omega
      by_cases a3 : (nk : Int) = (ni : Int) - 1
      · have e3 : ((nk : Int) != (ni : Int) - 1) = false := by simp [a3]
        by_cases a4 : np = 0
        · have e4 : ((np : Int) != 0) = false := by simp [a4]
          have HOK : Hid (brOk x = true) := by show _ = _; rw [LB.out]; simp [a1, a2, a3, a4]
          have HNK := hid a3
          have HIN : Hid (ni ≤ 4) := by show _ ≤ _; omega
          clear LB a3 a4
          go_enter Tryz.func141, Tryz.ntmps141
          have HI0 := hid (BrI.first (q0 := .slice ap np cp) (q1 := .slice ax nk cx) (q2 := .slice ai ni ci) HW.out)
          go_wp2_with fail
          go_loopw [38] (fun i wr => ∃ (ts : List T) (nx' : Nat) (kv : Value) (A : Nat → Nat) (SS : Nat → Nat → Prop), i = .int .i64 (ts.length : Int) ∧ Hid (ts.length ≤ ni) ∧ Hid (BrI w wr wb (.slice an nn cn) (.slice ap np cp) (.slice ax nk cx) (.slice ai ni ci) ts nx' kv A SS) ∧ Hid (nx ≤ nx' ∧ nx' ≤ ns.length) ∧ Hid (rdIL (rdI ns f) x.keys ts (x.kids.drop ts.length) nx' = rdIL (rdI ns f) x.keys [] x.kids nx)) (fun i _ => ni - (intOf i).toNat)
          case atStart => exact ⟨[], nx, _, _, _, rfl, Nat.zero_le _, HI0.out, ⟨Nat.le_refl _, HNX.out⟩, rfl⟩
          case round =>
            obtain ⟨ts, nx', kv, A, SS, rfl, HTL, HBI, HNB, HRD⟩ := hrel
            generalize hk : ts.length = k at *
            have HKL := hid hk
            clear hk
            have HNr := hid (HN.out.to HBI.out.only (fun b hb _ e => HWB.out (e ▸ hb)))
            have HIr := hid (HI.out.to HBI.out.only (fun b hb _ e => HWB.out (e ▸ hb)))
            have HSr := hid (HS.out.to HBI.out.only (fun b hb _ e => HWB.out (e ▸ hb)))
            have p1 := HBI.out.par.cell (j := 1) rfl
            by_cases hlt : k < ni
            · have hlt' : (k : Int) < (ni : Int) := by omega
              obtain ⟨bi, offi, rfl, _, _, hci⟩ := HIr.out.at (by omega)
              have hck := hci k hlt
              have HKD : Hid (x.kids.drop k = iAt x.kids k :: x.kids.drop (k + 1)) := by
                show _ = _
                have hl : k < x.kids.length := by rw [← li.out]; exact hlt
                rw [List.drop_eq_getElem_cons hl]
                simp [iAt, hl]
              clear hci
              generalize hpl : iAt x.kids k = pl at hck HKD
              clear hpl
              go_wp2_with fail
              refine (HIH.out S wb an nn cn pl nx' wr HBI.out.walk HNr.out HWB.out HLEN.out HNB.out.2 (by have := HF.out; have := HNB.out.1; omega)).mono ?_
              rintro e w1 ⟨hpost, ho1⟩
              cases hr : rdI ns f pl nx' with
              | none =>
                rw [hr] at hpost
                have he : e = .returned (.pointer none) := hpost
                subst he
                have HR : Hid (brT ns f x nx = none) := by
                  show _ = _
                  have h1 := HRD.out
                  rw [HKD.out, rdIL, hr] at h1
                  rw [brT, if_pos HOK.out, ← h1]
                have HO1 := hid (HBI.out.only.trans ho1)
                clear hpost ho1 hr
                go_wp2
                go_ret
                exact ⟨by rw [HR.out]; rfl, HO1.out⟩
              | some tn =>
                obtain ⟨t, n1⟩ := tn
                rw [hr] at hpost
                obtain ⟨b, he, hL, hB⟩ := hpost
                subst he
                have HRI := hid (rdI_rdy hr (by have := HLEN.out; omega))
                have HB1 := hid (HBI.out.read ho1 hB)
                have HL := hid hL
                have HPP : Hid (∀ y, (wr.heap.size ≤ y ∧ y < w1.heap.size) → w.heap.size + 2 ≤ y ∧ y < w1.heap.size ∧ kv.ownBlock ≠ some y ∧ ∀ i, i < ts.length → ¬ SS i y) := by
                  rintro y ⟨h1, h2⟩
                  have h3 := HBI.out.br.lt
                  refine ⟨by omega, h2, fun e => ?_, fun i hi hs => ?_⟩
                  · have := (World.ownsRow.lt HBI.out.row y e).2; omega
                  · have := (HBI.out.sub i hi y hs).2.1; omega
                have HRD1 : Hid (rdIL (rdI ns f) x.keys [] x.kids nx = if 0 < ts.length ∧ (t.least ≠ sAt x.keys (ts.length - 1) ∨ t.lv ≠ (tAt ts 0).lv) then none else rdIL (rdI ns f) x.keys (ts ++ [t]) (x.kids.drop (k + 1)) n1) := by
                  show _ = _
                  have h1 := HRD.out
                  rw [HKD.out, rdIL, hr] at h1
                  rw [← h1]
                  rfl
                have p1' := HB1.out.par.cell (j := 1) rfl
                have HSr1 := hid (HS.out.to HB1.out.only (fun b hb _ e => HWB.out (e ▸ hb)))
                clear hL hB hr ho1 HBI HRD HKD p1
                obtain ⟨ak, ck, hkv⟩ := HB1.out.row.shape
                rw [HKL.out] at hkv
                subst hkv
                cases k with
                | zero =>
                  have HTS : Hid (ts = []) := List.eq_nil_of_length_eq_zero HKL.out
                  have HRD2 : Hid (rdIL (rdI ns f) x.keys (ts ++ [t]) (x.kids.drop (0 + 1)) n1 = rdIL (rdI ns f) x.keys [] x.kids nx) := by
                    show _ = _
                    rw [HRD1.out, if_neg]
                    rw [HKL.out]; omega
                  clear HRD1
                  have c1 := HB1.out.br.cell (j := 1) rfl
                  have f1 := HB1.out.br.free 1
                  go_wp2_with fail
                  go_quiet (fail)
                  have HB2 := hid (HB1.out.keep (Below.drewN' (Below.refl _ _) nq))
                  have HL2 := hid (HL.out.kept (Below.drewN' (Below.refl _ _) nq))
                  have HOK2 : Hid (Ok (w1.drewN nq) (w.heap.size + 2) (.slice ak (0) ck) (0) A) := by have := HB2.out.row; rw [HKL.out] at this; exact this
                  have HB3 := hid (HB2.out.keep (below_new (o := .cells #[.pointer (some ⟨b, 0, none⟩)] 122) (Below.refl _ _)))
                  have HL3 := hid (HL2.out.kept (below_new (o := .cells #[.pointer (some ⟨b, 0, none⟩)] 122) (Below.refl _ _)))
                  have HSZ : Hid (w.heap.size + 2 ≤ w1.heap.size) := by have := HB1.out.br.lt; show _ ≤ _; omega
                  go_wp2_with (at_builtin; refine wpList_append_ptr rfl _ _ rfl (w.heap.size + 2) _ (0) A rfl (HOK2.out.kept (below_new (o := .cells #[.pointer (some ⟨b, 0, none⟩)] 122) (Below.refl _ _))) w1.heap.size b rfl ?qc ?qb ?qd ?_)
                  case qc => exact (Bk.new (w1.drewN nq) 122 [.pointer (some ⟨b, 0, none⟩)]).cell (j := 0) rfl
                  case qb => have := HIN.out; omega
                  case qd => have := HSZ.out; simp; omega
                  intro v2 w2 hO2 hg2 ha2
                  obtain ⟨a2, cc2, hv2⟩ := hO2.shape
                  subst hv2
                  have HB4 := hid (HB3.out.push (P := fun y => wr.heap.size ≤ y ∧ y < w1.heap.size) HL3.out (fun y hy => ⟨(HPP.out y hy).1, by have := (HPP.out y hy).2.1; simp; omega, (HPP.out y hy).2.2⟩) HRI.out.1 (by rw [HKL.out]; exact hO2) hg2 (by simpa using ha2))
                  have K2 := HB3.out.br.to (only_of_grown (R := fun y => w.heap.size + 2 ≤ y) hg2 (fun y e => (World.ownsRow.lt HB3.out.row y e).1)) (by omega)
                  have c2 := K2.cell (j := 1) rfl
                  have f2 := K2.free 1
                  have HRD3 : Hid (rdIL (rdI ns f) x.keys (ts ++ [t]) (x.kids.drop (ts ++ [t]).length) n1 = rdIL (rdI ns f) x.keys [] x.kids nx) := by
                    show _ = _
                    rw [List.length_append, HKL.out]
                    exact HRD2.out
                  have HTL2 : Hid ((ts ++ [t]).length = 0 + 1) := by show _ = _; rw [List.length_append, HKL.out]; rfl
                  clear K2 hO2 hg2 ha2 HB3 HL3 HOK2 HRD2
                  go_wp2
                  go_roundw
                  case rel => exact ⟨ts ++ [t], n1, _, _, _, by rw [HTL2.out]; go_num, by show _ ≤ _; rw [HTL2.out]; omega, HB4.out, ⟨by have := HNB.out.1; have := HRI.out.2.2; omega, HRI.out.2.1⟩, HRD3.out⟩
                  case measure => simp [intOf]; omega
                | succ k' =>
                  have hk1 : (0 : Int) < (k' : Int) + 1 := by omega
                  obtain ⟨bs, offs, hax, _, _, hcs⟩ := HSr1.out.at (by have := HNK.out; omega)
                  subst hax
                  have hks := hcs k' (by have := HNK.out; omega)
                  have hkk : (k' : Int) < (nk : Int) := by have := HNK.out; omega
                  clear hcs
                  obtain ⟨g0, og, hag, _, _, hcg⟩ := Rw.at (rw_own (S := fun _ => True) (by have := HB1.out.row; rw [HKL.out] at this; exact this) (fun _ _ _ _ => trivial)) (by omega)
                  subst hag
                  have hg0 := hcg 0 _ (ptrs_at A _ 0 (by omega))
                  simp only [ptr, Nat.add_zero] at hg0
                  clear hcg
                  have HT0 := hid (HB1.out.rdy 0 (by rw [HKL.out]; omega))
                  have HL0 := hid (HB1.out.kid 0 (by rw [HKL.out]; omega))
                  have CL : ∀ n, Calls Tryz.prog 143 #[.pointer (some ⟨b, 0, none⟩)] (w1.drewN n) fun e w' => e = .returned (.string t.least) ∧ ∃ m, w' = (w1.drewN n).drewN m := fun n => least_any _ b t _ (HL.out.kept (Below.drewN' (Below.refl _ _) n)) HRI.out.1.ne
                  have CD : ∀ n, Calls Tryz.prog 160 #[.pointer (some ⟨b, 0, none⟩)] (w1.drewN n) fun e w' => e = .returned (.int .i64 (t.dpt : Int)) ∧ ∃ m, w' = (w1.drewN n).drewN m := fun n => depth_any _ b t _ (HL.out.kept (Below.drewN' (Below.refl _ _) n)) HRI.out.1.few HRI.out.1.lv
                  have CD0 : ∀ n, Calls Tryz.prog 160 #[.pointer (some ⟨A 0, 0, none⟩)] (w1.drewN n) fun e w' => e = .returned (.int .i64 ((tAt ts 0).dpt : Int)) ∧ ∃ m, w' = (w1.drewN n).drewN m := fun n => depth_any _ (A 0) (tAt ts 0) _ (HL0.out.kept (Below.drewN' (Below.refl _ _) n)) HT0.out.few HT0.out.lv
                  have HDD : Hid (t.dpt = t.lv ∧ (tAt ts 0).dpt = (tAt ts 0).lv) := ⟨by rw [T.dpt, HRI.out.1.bare]; rfl, by rw [T.dpt, HT0.out.bare]; rfl⟩
                  by_cases hle : t.least = sAt x.keys k'
                  · by_cases hd : t.dpt = (tAt ts 0).dpt
                    · have HRD2 : Hid (rdIL (rdI ns f) x.keys (ts ++ [t]) (x.kids.drop (k' + 1 + 1)) n1 = rdIL (rdI ns f) x.keys [] x.kids nx) := by
                        show _ = _
                        rw [HRD1.out, if_neg]
                        rw [HKL.out]
                        rintro ⟨_, h | h⟩
                        · exact h hle
                        · have := HDD.out; omega
                      rw [hle] at CL
                      rw [hd] at CD
                      have hdd : (((tAt ts 0).dpt : Int) != ((tAt ts 0).dpt : Int)) = false := by simp
                      clear HRD1 hle hd
                      generalize sAt x.keys k' = ky at *
                      generalize (tAt ts 0).dpt = dd at *
                      have c1 := HB1.out.br.cell (j := 1) rfl
                      have f1 := HB1.out.br.free 1
                      go_wp2_with fail
                      go_quiet (first | (go_at_call 143; exact Calls.quiet_of (CL _)) | (go_at_call_of 160 (Value.pointer (some ⟨A 0, 0, none⟩)); exact Calls.quiet_of (CD0 _)) | (go_at_call_of 160 (Value.pointer (some ⟨b, 0, none⟩)); exact Calls.quiet_of (CD _)) | fail)
                      have HB2 := hid (HB1.out.keep (Below.drewN' (Below.refl _ _) nq))
                      have HL2 := hid (HL.out.kept (Below.drewN' (Below.refl _ _) nq))
                      have HOK2 : Hid (Ok (w1.drewN nq) (w.heap.size + 2) (.slice (some ⟨g0, og, none⟩) (k' + 1) ck) (k' + 1) A) := by have := HB2.out.row; rw [HKL.out] at this; exact this
                      have HB3 := hid (HB2.out.keep (below_new (o := .cells #[.pointer (some ⟨b, 0, none⟩)] 122) (Below.refl _ _)))
                      have HL3 := hid (HL2.out.kept (below_new (o := .cells #[.pointer (some ⟨b, 0, none⟩)] 122) (Below.refl _ _)))
                      have HSZ : Hid (w.heap.size + 2 ≤ w1.heap.size) := by have := HB1.out.br.lt; show _ ≤ _; omega
                      go_wp2_with (at_builtin; refine wpList_append_ptr rfl _ _ rfl (w.heap.size + 2) _ (k' + 1) A rfl (HOK2.out.kept (below_new (o := .cells #[.pointer (some ⟨b, 0, none⟩)] 122) (Below.refl _ _))) w1.heap.size b rfl ?qc ?qb ?qd ?_)
                      case qc => exact (Bk.new (w1.drewN nq) 122 [.pointer (some ⟨b, 0, none⟩)]).cell (j := 0) rfl
                      case qb => have := HIN.out; omega
                      case qd => have := HSZ.out; simp; omega
                      intro v2 w2 hO2 hg2 ha2
                      obtain ⟨a2, cc2, hv2⟩ := hO2.shape
                      subst hv2
                      have HB4 := hid (HB3.out.push (P := fun y => wr.heap.size ≤ y ∧ y < w1.heap.size) HL3.out (fun y hy => ⟨(HPP.out y hy).1, by have := (HPP.out y hy).2.1; simp; omega, (HPP.out y hy).2.2⟩) HRI.out.1 (by rw [HKL.out]; exact hO2) hg2 (by simpa using ha2))
                      have K2 := HB3.out.br.to (only_of_grown (R := fun y => w.heap.size + 2 ≤ y) hg2 (fun y e => (World.ownsRow.lt HB3.out.row y e).1)) (by omega)
                      have c2 := K2.cell (j := 1) rfl
                      have f2 := K2.free 1
                      have HRD3 : Hid (rdIL (rdI ns f) x.keys (ts ++ [t]) (x.kids.drop (ts ++ [t]).length) n1 = rdIL (rdI ns f) x.keys [] x.kids nx) := by
                        show _ = _
                        rw [List.length_append, HKL.out]
                        exact HRD2.out
                      have HTL2 : Hid ((ts ++ [t]).length = k' + 1 + 1) := by show _ = _; rw [List.length_append, HKL.out]; rfl
                      clear K2 hO2 hg2 ha2 HB3 HL3 HOK2 HRD2
                      go_wp2
                      go_roundw
                      case rel => exact ⟨ts ++ [t], n1, _, _, _, by rw [HTL2.out]; go_num, by show _ ≤ _; rw [HTL2.out]; omega, HB4.out, ⟨by have := HNB.out.1; have := HRI.out.2.2; omega, HRI.out.2.1⟩, HRD3.out⟩
                      case measure => simp [intOf]; omega
                    · have HR : Hid (brT ns f x nx = none) := by
                        show _ = _
                        rw [brT, if_pos HOK.out, HRD1.out, if_pos]
                        exact ⟨by rw [HKL.out]; omega, .inr (by have := HDD.out; omega)⟩
                      rw [hle] at CL
                      have hdd : ((t.dpt : Int) != ((tAt ts 0).dpt : Int)) = true := by simp; omega
                      clear HRD1 hle hd HDD
                      generalize sAt x.keys k' = ky at *
                      generalize (tAt ts 0).dpt = dd at *
                      generalize t.dpt = dt at *
                      have c1 := HB1.out.br.cell (j := 1) rfl
                      have HO1 := hid HB1.out.only
                      go_wp2_with fail
                      go_quiet (first | (go_at_call 143; exact Calls.quiet_of (CL _)) | (go_at_call_of 160 (Value.pointer (some ⟨A 0, 0, none⟩)); exact Calls.quiet_of (CD0 _)) | (go_at_call_of 160 (Value.pointer (some ⟨b, 0, none⟩)); exact Calls.quiet_of (CD _)) | fail)
                      go_wp2
                      go_ret
                      exact ⟨by rw [HR.out]; rfl, HO1.out.trans (only_drew _ _ _)⟩
                  · have HR : Hid (brT ns f x nx = none) := by
                      show _ = _
                      rw [brT, if_pos HOK.out, HRD1.out, if_pos]
                      exact ⟨by rw [HKL.out]; omega, .inl (by rw [HKL.out]; exact hle)⟩
                    have hbe := str_beq hle
                    clear HRD1 hle HDD CD CD0
                    generalize sAt x.keys k' = ky at *
                    generalize t.least = tl at *
                    have c1 := HB1.out.br.cell (j := 1) rfl
                    have HO1 := hid HB1.out.only
                    go_wp2_with fail
                    go_quiet (first | (go_at_call 143; exact Calls.quiet_of (CL _)) | fail)
                    go_wp2
                    go_ret
                    exact ⟨by rw [HR.out]; rfl, HO1.out.trans (only_drew _ _ _)⟩
            · have hk' : k = ni := by have := HTL.out; omega
              have HR : Hid (brT ns f x nx = some (.mk [] ts, nx')) := by
                show _ = _
                have h1 := HRD.out
                rw [hk', li.out, List.drop_length, rdIL] at h1
                rw [brT, if_pos HOK.out, ← h1]
              have HFIN := hid HBI.out.limb
              have HO1 := hid HBI.out.only
              have HWK := hid HBI.out.walk
              clear hk' HBI
              go_wp2
              go_ret
              exact ⟨by rw [HR.out]; exact ⟨_, rfl, HFIN.out, HWK.out⟩, HO1.out⟩
        · have HR : Hid (brT ns f x nx = none) := by show _ = _; rw [brT, if_neg]; rw [LB.out]; simp [a4]
          have e4 : ((np : Int) != 0) = true := by simp; omega
          clear LB a3 a4
          go_enter Tryz.func141, Tryz.ntmps141
          go_wp2
          go_ret
          exact ⟨by rw [HR.out]; rfl, only_of_below HB0.out _⟩
      · have HR : Hid (brT ns f x nx = none) := by show _ = _; rw [brT, if_neg]; rw [LB.out]; simp [a3]
        have e3 : ((nk : Int) != (ni : Int) - 1) = true := by simp [a3]
        clear LB a3
        go_enter Tryz.func141, Tryz.ntmps141
        go_wp2
        go_ret
        exact ⟨by rw [HR.out]; rfl, only_of_below HB0.out _⟩
end Go.Proofs.YtgnjknbgahickacGreatDoor
/-
  read: it reads what the plain function reads. rootOf.
-/
namespace Go.Proofs.YtgnjknbgahickacGreatDoor
open Go.RowKit
theorem ReadPost.mono {o : Option (T × Nat)} {w u : World} {wb : Nat} {nv : Value} {e : Ending} {w' : World} (h : ReadPost o u wb nv e w') (hs : w.heap.size ≤ u.heap.size) : ReadPost o w wb nv e w' := by
  cases o with
  | none => exact h
  | some tn =>
    obtain ⟨t, n⟩ := tn
    obtain ⟨b, h1, h2, h3⟩ := h
    exact ⟨b, h1, h2.mono (fun y hy => ⟨Nat.le_trans hs hy.1, hy.2⟩), h3⟩
theorem LimbOr.ret {o : Option T} {w : World} {e : Ending} {w' : World} (h : LimbOr o w e w') : ∃ p, e = .returned (.pointer p) := by
  cases o with
  | none => exact ⟨none, h⟩
  | some t => obtain ⟨b, h1, _⟩ := h; exact ⟨_, h1⟩
theorem ReadPost.ret {o : Option (T × Nat)} {w : World} {wb : Nat} {nv : Value} {e : Ending} {w' : World} (h : ReadPost o w wb nv e w') : ∃ p, e = .returned (.pointer p) := by
  cases o with
  | none => exact ⟨none, h⟩
  | some tn => obtain ⟨t, n⟩ := tn; obtain ⟨b, h1, _⟩ := h; exact ⟨_, h1⟩
theorem rdI_no {ns : List NB} {f : Nat} {pl : Int} {nx : Nat} (h : pl ≠ (nx : Int) ∨ (ns.length : Int) ≤ pl) : rdI ns f pl nx = none := by
  cases f with
  | zero => rfl
  | succ f => rw [rdI, if_pos h]
theorem rdI_leaf {ns : List NB} {f nx : Nat} (h : nx < ns.length) (hk : (nAt ns nx).kids.length = 0) : rdI ns (f + 1) nx nx = (leafT (nAt ns nx) (decide ((nx : Int) = 0))).map (fun t => (t, nx + 1)) := by
  rw [rdI, if_neg (by omega), if_pos hk, leafT]
  split <;> rfl
theorem rdI_br {ns : List NB} {f nx : Nat} (h : nx < ns.length) (hk : (nAt ns nx).kids.length ≠ 0) : rdI ns (f + 1) nx nx = brT ns f (nAt ns nx) (nx + 1) := by
  rw [rdI, if_neg (by omega), if_neg hk]
  rfl
theorem read_post_leaf {w u w' : World} {x : NB} {r : Bool} {wb nx : Nat} {nv : Value} {e : Ending} (h : LimbOr (leafT x r) u e w') (hs : w.heap.size ≤ u.heap.size) (hb : Bk w' wb 162 [nv, .int .i64 (nx + 1 : Nat)]) :
    ReadPost ((leafT x r).map (fun t => (t, nx + 1))) w wb nv e w' := by
  cases ho : leafT x r with
  | none => rw [ho] at h; exact h
  | some t =>
    rw [ho] at h
    obtain ⟨b, h1, h2⟩ := h
    exact ⟨b, h1, h2.mono (fun y hy => ⟨Nat.le_trans hs hy.1, hy.2⟩), hb⟩
set_option maxHeartbeats 8000000 in
theorem read_any (ns : List NB) : ∀ f, ReadC ns f := by
  intro f
  induction f with
  | zero =>
    intro S wb an nn cn pl nx w hW hN hwb hlen hnx hf
    have HR : Hid (rdI ns 0 pl nx = none) := rfl
    have hnn := hN.len.1
    have c0 := hW.cell (j := 0) rfl
    have c1 := hW.cell (j := 1) rfl
    by_cases hp : pl = (nx : Int)
    · have e1 : (pl != (nx : Int)) = false := by simp [hp]
      have e2 : (nn : Int) ≤ pl := by omega
      clear hW hN hnn hp
      go_enter Tryz.func111, Tryz.ntmps111
      go_wp2
      go_ret
      exact ⟨by rw [HR.out]; rfl, Only.refl _ _⟩
    · have e1 : (pl != (nx : Int)) = true := by simp [hp]
      clear hW hN hnn hp
      go_enter Tryz.func111, Tryz.ntmps111
      go_wp2
      go_ret
      exact ⟨by rw [HR.out]; rfl, Only.refl _ _⟩
  | succ f ih =>
    intro S wb an nn cn pl nx w hW hN hwb hlen hnx hf
    have hnn := hid hN.len.1
    have c0 := hW.cell (j := 0) rfl
    have c1 := hW.cell (j := 1) rfl
    by_cases hp : pl = (nx : Int)
    · subst hp
      have e1 : ((nx : Int) != (nx : Int)) = false := by simp
      by_cases hl : nn ≤ nx
      · have HR : Hid (rdI ns (f + 1) nx nx = none) := rdI_no (.inr (by rw [← hnn.out]; omega))
        have e2 : (nn : Int) ≤ (nx : Int) := by omega
        clear hW hN hl
        go_enter Tryz.func111, Tryz.ntmps111
        go_wp2
        go_ret
        exact ⟨by rw [HR.out]; rfl, Only.refl _ _⟩
      · have e2 : ¬ (nn : Int) ≤ (nx : Int) := by omega
        have HL : Hid (nx < ns.length) := by show _ < _; rw [← hnn.out]; omega
        have HIH := hid ih
        have HW := hid hW
        have HN := hid hN
        have HWB := hid hwb
        have HLEN := hid hlen
        have HF := hid hf
        have hlt' : (nx : Int) < (nn : Int) := by omega
        have hnx3 : nx < 400 := by have := HL.out; omega
        clear ih hN hwb hf hlen hnx
        obtain ⟨b, off, han, hSb, hbw, hcell⟩ := HN.out.at (by omega)
        subst han
        obtain ⟨ap, np, cp, ax, nk, cx, ai, ni, ci, d0, d1, d2, hp, hx, hi⟩ := hcell nx (by omega)
        have li := hid (Rw.len hi).1
        have HP := hid hp
        have HX := hid hx
        have HI := hid hi
        have hbne : b ≠ wb := by rintro rfl; exact HWB.out hSb
        have f1 := hW.free 1
        have b5 := (Rw.len hi).2.1
        have b6 := (Rw.len hi).2.2
        clear hcell hp hx hi hSb
        have HO1 : Hid (Only (fun b => b = wb) w ((w.setCell ⟨wb, 1, none⟩ (.int .i64 ((nx : Int) + 1))).alloc (.cells #[.slice ap np cp, .slice ax nk cx, .slice ai ni ci] 104))) := (only_set (R := fun b => b = wb) rfl _).trans (only_alloc _ _ _)
        have HWK : Hid (Bk ((w.setCell ⟨wb, 1, none⟩ (.int .i64 ((nx : Int) + 1))).alloc (.cells #[.slice ap np cp, .slice ax nk cx, .slice ai ni ci] 104)) wb 162 [.slice (some ⟨b, off, none⟩) nn cn, .int .i64 ((nx + 1 : Nat) : Int)]) := by
          show Bk _ _ _ _
          exact (HW.out.set 1 (.int .i64 ((nx : Int) + 1))).alloc _
        have HN1 := hid (HN.out.to HO1.out (fun y hy _ e => HWB.out (e ▸ hy)))
        have HP1 := hid (HP.out.to HO1.out (fun y hy _ e => HWB.out (e ▸ hy)))
        have HX1 := hid (HX.out.to HO1.out (fun y hy _ e => HWB.out (e ▸ hy)))
        have HI1 := hid (HI.out.to HO1.out (fun y hy _ e => HWB.out (e ▸ hy)))
        go_enter Tryz.func111, Tryz.ntmps111
        by_cases hk : ni = 0
        · have HR : Hid (rdI ns (f + 1) nx nx = (leafT (nAt ns nx) (decide ((nx : Int) = 0))).map (fun t => (t, nx + 1))) := rdI_leaf HL.out (by rw [← li.out]; exact hk)
          have HD : Hid (∀ r : Bool, r = decide ((nx : Int) = 0) → leafT (nAt ns nx) r = leafT (nAt ns nx) (decide ((nx : Int) = 0))) := by rintro _ rfl; rfl
          clear li
          subst hk
          go_wp2_with fail
          refine (readLeaf_any S ap ax ai np cp nk cx 0 ci (nAt ns nx) _ _ HP1.out HX1.out).mono ?_
          rintro e w2 ⟨hpost, hb2⟩
          obtain ⟨p, he⟩ := hpost.ret
          subst he
          have HPOST : Hid (ReadPost ((leafT (nAt ns nx) (decide ((nx : Int) = 0))).map (fun t => (t, nx + 1))) w wb (.slice (some ⟨b, off, none⟩) nn cn) (.returned (.pointer p)) w2) := by
            refine read_post_leaf (w := w) ?_ HO1.out.size (HWK.out.below hb2)
            rw [HD.out _ ?_] at hpost
            · exact hpost
            · by_cases h0 : nx = 0
              · subst h0; rfl
              · simp [h0]
          have HO2 := hid (HO1.out.trans (only_of_below hb2 _))
          clear hpost hb2 HD
          go_wp2
          go_ret
          exact ⟨by rw [HR.out]; exact HPOST.out, HO2.out⟩
        · have HR : Hid (rdI ns (f + 1) nx nx = brT ns f (nAt ns nx) (nx + 1)) := rdI_br HL.out (by rw [← li.out]; exact hk)
          have hk' : ((ni : Int) == 0) = false := by simp; omega
          clear hk
          go_wp2_with fail
          refine (readBranch_any ns f HIH.out S wb (some ⟨b, off, none⟩) nn cn ap ax ai np cp nk cx ni ci (nAt ns nx) (nx + 1) _ HWK.out HN1.out HWB.out HLEN.out HL.out (by have := HF.out; omega) HP1.out HX1.out HI1.out).mono ?_
          rintro e w2 ⟨hpost, ho2⟩
          obtain ⟨p, he⟩ := hpost.ret
          subst he
          have HPOST := hid (hpost.mono (w := w) HO1.out.size)
          have HO2 := hid (HO1.out.trans ho2)
          clear hpost ho2
          go_wp2
          go_ret
          exact ⟨by rw [HR.out]; exact HPOST.out, HO2.out⟩
    · have e1 : (pl != (nx : Int)) = true := by simp [hp]
      have HR : Hid (rdI ns (f + 1) pl nx = none) := rdI_no (.inl hp)
      clear hW hN hp
      go_enter Tryz.func111, Tryz.ntmps111
      go_wp2
      go_ret
      exact ⟨by rw [HR.out]; rfl, Only.refl _ _⟩
end Go.Proofs.YtgnjknbgahickacGreatDoor
/-
  rootOf: the right tree, or nil.
-/
namespace Go.Proofs.YtgnjknbgahickacGreatDoor
open Go.RowKit
mutual
theorem full_all_le : ∀ (t : T) (r : Bool), t.full r = true → t.all.length ≤ 4 * t.size
  | .mk ps ks, r, h => by
    by_cases hk : ks = []
    · subst hk
      have := full_lf h
      simp [T.size, szL, T.all, allL]
      omega
    · obtain ⟨h1, h2, rfl, h3⟩ := full_br h hk
      have := fullL_all_le ks h3
      simp [T.size, T.all]
      omega
theorem fullL_all_le : ∀ (ks : List T), (∀ k ∈ ks, k.full false = true) → (allL ks).length ≤ 4 * szL ks
  | [], _ => by simp [szL, allL]
  | k :: ks, h => by
    have h1 := full_all_le k false (h k (by simp))
    have h2 := fullL_all_le ks (fun x hx => h x (by simp [hx]))
    simp [szL, allL]
    omega
end
set_option maxHeartbeats 8000000 in
theorem rootOf_any (S : Nat → Prop) (an : Option Addr) (nn cn : Nat) (ns : List NB) (w : World) (hN : Nr w S (.slice an nn cn) ns) :
    Calls Tryz.prog 70 #[.agg #[.slice an nn cn]] w fun e w' => LimbOr (okT ns) w e w' ∧ Below w.heap.size w w' := by
  have hnn := hid hN.len.1
  have h1 := hN.len.2.1
  have h2 := hN.len.2.2
  have HN : Hid (Nr w (fun y => y < w.heap.size) (.slice an nn cn) ns) := hN.mono (fun b _ h => h)
  clear hN
  have HB0 := hid (below_new (o := .cells #[.slice an nn cn] 30) (w := w) (Below.refl _ _))
  by_cases a1 : nn = 0
  · have HR : Hid (okT ns = some (.mk [] [])) := by show _ = _; rw [okT, if_pos]; rw [← hnn.out]; exact a1
    have HL : Hid (Limb ((w.alloc (.cells #[.slice an nn cn] 30)).alloc (.cells #[.slice none 0 0, .slice none 0 0] 160)) (fun y => w.heap.size ≤ y ∧ y < ((w.alloc (.cells #[.slice an nn cn] 30)).alloc (.cells #[.slice none 0 0, .slice none 0 0] 160)).heap.size) (w.heap.size + 1) (.mk [] [])) := by
      have hk := Bk.new (w.alloc (.cells #[.slice an nn cn] 30)) 160 [.slice none 0 0, .slice none 0 0]
      refine limb_leaf (lo := w.heap.size) (by simpa using hk) (by omega) (ow_nil _ _) (by simp [Value.ownBlock]) _ (fun y h1 h2 => ⟨h1, h2⟩)
    clear hnn HN
    subst a1
    go_enter Tryz.func70, Tryz.ntmps70
    go_wp2
    go_ret
    refine ⟨?_, below_new (below_new (Below.refl _ _))⟩
    rw [HR.out]
    exact ⟨_, rfl, HL.out⟩
  · have e1 : ((nn : Int) == 0) = false := by simp; omega
    by_cases a2 : 400 ≤ nn
    · have e2 : (400 : Int) ≤ (nn : Int) := by omega
      have HR : Hid (okT ns = none) := by show _ = _; rw [okT, if_neg, if_pos] <;> rw [← hnn.out] <;> omega
      clear a1 a2
      go_enter Tryz.func70, Tryz.ntmps70
      go_wp2
      go_ret
      refine ⟨?_, HB0.out⟩
      rw [HR.out]
      rfl
    · have e2 : ¬ (400 : Int) ≤ (nn : Int) := by omega
      have HLEN : Hid (ns.length < 400) := by show _ < _; rw [← hnn.out]; omega
      have HB1 : Hid (Below w.heap.size w ((w.alloc (.cells #[.slice an nn cn] 30)).alloc (.cells #[.slice an nn cn, .int .i64 0] 162))) := below_new (below_new (Below.refl _ _))
      have KW : Hid (Bk ((w.alloc (.cells #[.slice an nn cn] 30)).alloc (.cells #[.slice an nn cn, .int .i64 0] 162)) (w.heap.size + 1) 162 [.slice an nn cn, .int .i64 (0 : Nat)]) := by
        have hk := Bk.new (w.alloc (.cells #[.slice an nn cn] 30)) 162 [.slice an nn cn, .int .i64 0]
        show Bk _ _ _ _
        simpa using hk
      have KT : Hid (Bk ((w.alloc (.cells #[.slice an nn cn] 30)).alloc (.cells #[.slice an nn cn, .int .i64 0] 162)) w.heap.size 30 [.slice an nn cn]) := (Bk.new w 30 [.slice an nn cn]).alloc _
      have HZ : Hid (((w.alloc (.cells #[.slice an nn cn] 30)).alloc (.cells #[.slice an nn cn, .int .i64 0] 162)).heap.size = w.heap.size + 2) := by show _ = _; simp
      clear a2
      go_enter Tryz.func70, Tryz.ntmps70
      go_wp2_with fail
      refine (read_any ns ns.length (fun y => y < w.heap.size) (w.heap.size + 1) an nn cn 0 0 _ KW.out (HN.out.below HB1.out) (by omega) HLEN.out (Nat.zero_le _) (by omega)).mono ?_
      generalize (w.alloc (.cells #[.slice an nn cn] 30)).alloc (.cells #[.slice an nn cn, .int .i64 0] 162) = W at *
      rintro e w1 ⟨hpost, ho1⟩
      cases hr : rdI ns ns.length 0 0 with
      | none =>
        rw [hr] at hpost
        have he : e = .returned (.pointer none) := hpost
        subst he
        have HR : Hid (okT ns = none) := by
          show _ = _
          rw [okT, if_neg (by rw [← hnn.out]; exact a1), if_neg (by have := HLEN.out; omega), hr]
        have KT1 := hid (KT.out.to ho1 (by omega))
        have HB2 : Hid (Below w.heap.size w w1) := HB1.out.trans (ho1.below (by have := HZ.out; omega) (fun b hb e => by omega))
        clear hpost ho1
        go_wp2
        go_ret
        exact ⟨by rw [HR.out]; rfl, HB2.out⟩
      | some tn =>
        obtain ⟨t, n1⟩ := tn
        rw [hr] at hpost
        obtain ⟨b, he, hL, hW⟩ := hpost
        subst he
        have KT1 := hid (KT.out.to ho1 (by omega))
        have HB2 : Hid (Below w.heap.size w w1) := HB1.out.trans (ho1.below (by have := HZ.out; omega) (fun b hb e => by omega))
        have HL := hid hL
        have KW1 := hid hW
        have HRI := hid (rdI_rdy hr (by have := HLEN.out; omega))
        have HAL : Hid (t.all.length ≤ 1048576) := by
          show _ ≤ _
          obtain ⟨_, _, g3, _, g5, rfl⟩ := rdI_sound ns _ _ _ _ _ hr
          have g6 := full_all_le t _ g3
          have g7 := HRI.out.2.1
          have := HLEN.out
          omega
        have HOT : Hid (okT ns = if n1 = ns.length ∧ pOk t.all = true then some t else none) := by
          show _ = _
          rw [okT, if_neg (by rw [← hnn.out]; exact a1), if_neg (by have := HLEN.out; omega), hr]
        have c0 := KT1.out.cell (j := 0) rfl
        have c1 := KW1.out.cell (j := 1) rfl
        clear hL hW ho1 hr
        by_cases hn1 : n1 = nn
        · have e3 : ((n1 : Int) != (nn : Int)) = false := by simp [hn1]
          have HN1 := hid hn1
          clear hn1
          go_wp2_with fail
          refine (all_any t (fun y => W.heap.size ≤ y ∧ y < w1.heap.size) b w1 w1.heap.size (.slice none 0 0) [] HL.out (fun y hy => hy.2) (Nat.le_refl _) (ow_nil _ _) (by have := HAL.out; simp; omega)).mono ?_
          rintro e w2 ⟨v2, rfl, hO2, hb2⟩
          rw [List.nil_append] at hO2
          have HO2 := hid hO2
          have HB3 : Hid (Below w.heap.size w w2) := HB2.out.trans (hb2.mono HB2.out.size)
          have HL2 := hid (HL.out.kept hb2)
          have HSZ2 := hid hb2.size
          obtain ⟨a2, n2, cc2, hv2, HN2⟩ := hO2.shape'
          subst hv2
          clear hO2 hb2
          go_wp2_with fail
          refine (implPairsOk_any (fun _ => True) _ t.all w2 (HO2.out.pr (fun _ _ _ _ => trivial))).mono ?_
          rintro e w3 ⟨rfl, hb3⟩
          have HB4 : Hid (Below w.heap.size w w3) := HB3.out.trans (hb3.mono HB3.out.size)
          have HL3 : Hid (Limb w3 (fun y => w.heap.size ≤ y ∧ y < w3.heap.size) b t) := by
            refine (HL2.out.kept hb3).mono (fun y hy => ⟨?_, ?_⟩)
            · have := HZ.out; have := hy.1; omega
            · have := HSZ2.out; have := hb3.size; have := hy.2; omega
          clear hb3
          cases hpk : pOk t.all
          · have HR : Hid (okT ns = none) := by show _ = _; rw [HOT.out, if_neg]; rw [hpk]; simp
            clear HOT hpk
            go_wp2
            go_ret
            exact ⟨by rw [HR.out]; rfl, HB4.out⟩
          · have HR : Hid (okT ns = some t) := by show _ = _; rw [HOT.out, if_pos]; exact ⟨by rw [HN1.out, hnn.out], hpk⟩
            clear HOT hpk
            go_wp2
            go_ret
            exact ⟨by rw [HR.out]; exact ⟨_, rfl, HL3.out⟩, HB4.out⟩
        · have e3 : ((n1 : Int) != (nn : Int)) = true := by simp; omega
          have HR : Hid (okT ns = none) := by show _ = _; rw [HOT.out, if_neg]; rintro ⟨h, _⟩; exact hn1 (by rw [h, hnn.out])
          clear hn1 HOT
          go_wp2
          go_ret
          exact ⟨by rw [HR.out]; rfl, HB2.out⟩
end Go.Proofs.YtgnjknbgahickacGreatDoor
