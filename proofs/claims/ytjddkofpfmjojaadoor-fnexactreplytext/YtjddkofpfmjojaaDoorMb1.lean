/-
  What the law's helpers do, for every slice of bytes: toByteS makes a new row with the same bytes; eqByteS tells whether two slices have the same bytes.
-/
import Derived.Test.YtjddkofpfmjojaaDoorRows
import Derived.WalkKit
import Derived.WalkSpells
import Derived.Deep.QuietTactic
import Derived.BigQuiet
import Derived.Deep.OwnRows
import Derived.Laws.IdiomStrings
import Derived.Laws.Cover1
import Derived.Deep.RegionHeld3
import Derived.Laws.AppendOwnNone
import Derived.Laws.MakeOwn
import Derived.Laws.StructEq
import Derived.Deep.MidRow
import Derived.Deep.RegionWith
import Derived.Lib.ItoaNum
import Derived.Test.YtjddkofpfmjojaaDoorShelf
import Derived.WalkSmall
import Derived.Deep.AppendSrc
namespace Go.Proofs.YtjddkofpfmjojaaDoor
open Go.RowKit

theorem hid {p : Prop} (h : p) : Hid p := h
theorem infoU8 : (Tryd.prog.info? 5).map (fun i => (i.zero, i.size, i.bytes)) = some (some (.int .u8 0), 1, 1) := by kernel_rfl

/-- The slice value '.slice a n c' has in the world w the bytes zs. -/
def Rd (w : World) (a : Option Addr) (n c : Nat) (zs : List Int) : Prop :=
  n = zs.length ∧ n ≤ c ∧ c ≤ 9223372036854775807 ∧ n ≤ 140737488355328 ∧ (∀ i : Nat, 0 ≤ zs[i]?.getD 0 ∧ zs[i]?.getD 0 ≤ 255) ∧
    (0 < n → ∃ b off, a = some ⟨b, off, none⟩ ∧ b < w.heap.size ∧ ∀ i, i < n → w.cell? ⟨b, off + i, none⟩ = some (.int .u8 (zs[i]?.getD 0)))

def byteVals (zs : List Int) : Array Value := (zs.map (Value.int .u8)).toArray

/-- The row that toByteS fills, k of its bytes being there. -/
def part (zs : List Int) (k : Nat) : Array Value := ((zs.take k).map (Value.int .u8) ++ List.replicate (zs.length - k) (Value.int .u8 0)).toArray
theorem part_zero (zs : List Int) : part zs 0 = madeCells #[.int .u8 0] zs.length := by
  apply Array.ext
  · simp [part, madeCells]
  · intro i h1 h2; simp [part, madeCells, Nat.mod_one]
theorem part_all (zs : List Int) : part zs zs.length = byteVals zs := by simp [part, byteVals]
theorem part_at (zs : List Int) (k : Nat) (h : k < zs.length) : (part zs k)[k]? = some (.int .u8 0) := by
  simp only [part, List.getElem?_toArray]
  have hl : ((zs.take k).map (Value.int .u8)).length = k := by simp; omega
  rw [List.getElem?_append_right (by omega), hl, List.getElem?_replicate]
  rw [if_pos (by omega)]
theorem part_set (zs : List Int) (k : Nat) (h : k < zs.length) : (part zs k).setIfInBounds k (.int .u8 (zs[k]?.getD 0)) = part zs (k + 1) := by
  have e : zs[k]?.getD 0 = zs[k] := by simp [h]
  rw [e]
  simp only [part, List.setIfInBounds_toArray]
  congr 1
  have hl : ((zs.take k).map (Value.int .u8)).length = k := by simp; omega
  rw [List.set_append_right _ _ (by omega), hl]
  have h2 : zs.length - k = (zs.length - (k + 1)) + 1 := by omega
  rw [List.take_succ_eq_append_getElem h, h2, List.replicate_succ, List.map_append, Nat.sub_self, List.set_cons_zero, List.append_assoc]
  rfl


theorem Rd.len {w : World} {a : Option Addr} {n c : Nat} {zs : List Int} (h : Rd w a n c zs) : n = zs.length := h.1

/-- A slice reads as before in a world that has kept what lay below. -/
theorem Rd.below {w w' : World} {B : Nat} {a : Option Addr} {n c : Nat} {zs : List Int} (h : Rd w a n c zs) (hB : Below B w w') (hlt : ∀ x, a = some x → 0 < n → x.block < B) : Rd w' a n c zs := by
  obtain ⟨h1, h2, h3, h30, h4, h5⟩ := h
  refine ⟨h1, h2, h3, h30, h4, fun hp => ?_⟩
  obtain ⟨b, off, rfl, hb, hc⟩ := h5 hp
  refine ⟨b, off, rfl, Nat.lt_of_lt_of_le hb hB.size, fun i hi => ?_⟩
  rw [hB.cell (p := ⟨b, off + i, none⟩) (hlt ⟨b, off, none⟩ rfl hp)]
  exact hc i hi
theorem Rd.lt {w : World} {a : Option Addr} {n c : Nat} {zs : List Int} (h : Rd w a n c zs) : ∀ x, a = some x → 0 < n → x.block < w.heap.size := by
  intro x hx hp
  obtain ⟨b, off, ha, hb, _⟩ := h.2.2.2.2.2 hp
  rw [ha] at hx; cases hx; exact hb
theorem Rd.kept {w w' : World} {a : Option Addr} {n c : Nat} {zs : List Int} (h : Rd w a n c zs) (hB : Below w.heap.size w w') : Rd w' a n c zs := h.below hB h.lt
/-- The row that toByteS leaves. -/
theorem rd_new (w : World) (zs : List Int) (hl : zs.length ≤ 140737488355328) (hb : ∀ i : Nat, 0 ≤ zs[i]?.getD 0 ∧ zs[i]?.getD 0 ≤ 255) :
    Rd (w.alloc (.cells (byteVals zs) 5)) (some ⟨w.heap.size, 0, none⟩) zs.length zs.length zs := by
  refine ⟨rfl, Nat.le_refl _, by omega, hl, hb, fun _ => ⟨w.heap.size, 0, rfl, by simp, fun i hi => ?_⟩⟩
  rw [World.cell?_alloc_at (hn := rfl)]
  simp [byteVals, hi]

theorem take_succ_eq {xs ys : List Int} {k : Nat} (hx : k < xs.length) (hy : k < ys.length) (h : xs.take k = ys.take k) (e : xs[k]?.getD 0 = ys[k]?.getD 0) : xs.take (k + 1) = ys.take (k + 1) := by
  rw [List.take_succ_eq_append_getElem hx, List.take_succ_eq_append_getElem hy, h]
  simp [hx, hy] at e
  rw [e]

/-- What is known of a slice of integers that came in: it is nil; or it leads to a row of 'cap' cells, the first 'len' of which are its elements. -/
def IsRow (k : IntKind) (w : World) (a : Option Addr) (len cap : Nat) (zs : List Int) : Prop :=
  (a = none ∧ len = 0 ∧ cap = 0 ∧ zs = []) ∨
  ∃ x, a = some x ∧ len ≤ cap ∧ cap ≤ maxLen ∧ zs.length = cap ∧ (∀ i, i < zs.length → w.cell? (x.add i) = some (.int k (zs.getD i 0))) ∧ ∀ n ∈ zs, (Lit.int k n).wf = true
theorem block_lt {w : World} {x : Addr} {v : Value} (h : w.cell? x = some v) : x.block < w.heap.size := by
  rcases Nat.lt_or_ge x.block w.heap.size with h' | h'
  · exact h'
  · simp [World.cell?, Array.getElem?_eq_none h'] at h
theorem rd_of_row {w : World} {a : Option Addr} {len cap : Nat} {zs : List Int} (h : IsRow .u8 w a len cap zs) (hl : len ≤ 140737488355328) : Rd w a len cap (zs.take len) := by
  rcases h with ⟨rfl, rfl, rfl, rfl⟩ | ⟨x, rfl, h1, h2, h3, h4, h5⟩
  · exact ⟨rfl, Nat.le_refl _, by omega, by omega, by simp, fun h => by omega⟩
  · refine ⟨by simp; omega, h1, by unfold maxLen at h2; omega, hl, fun i => ?_, fun hp => ?_⟩
    · by_cases hi : i < (zs.take len).length
      · have hm : (zs.take len)[i] ∈ zs := List.mem_of_mem_take (List.getElem_mem hi)
        have := h5 _ hm
        rw [List.getElem?_eq_getElem hi]
        simpa [Lit.wf, IntKind.min, IntKind.max, IntKind.signed, IntKind.bits] using this
      · rw [List.getElem?_eq_none (by omega)]; simp
    · obtain ⟨b, off, spot⟩ := x
      have hc := h4 0 (by omega)
      have hspot : spot = none := by simpa [Addr.add] using World.cell?_spot hc
      subst hspot
      refine ⟨b, off, rfl, by simpa [Addr.add] using block_lt hc, fun i hi => ?_⟩
      have hci := h4 i (by omega)
      rw [Addr.add_lit] at hci
      rw [hci, List.getElem?_take_of_lt hi]
      rfl
theorem i64_bounds {n : Int} (h : (Lit.int .i64 n).wf = true) : -9223372036854775808 ≤ n ∧ n ≤ 9223372036854775807 := by
  simpa [Lit.wf, IntKind.min, IntKind.max, IntKind.signed, IntKind.bits] using h
theorem Below.drewN' {B : Nat} {a w : World} (h : Below B a w) (q : Nat) : Below B a (w.drewN q) := ⟨h.os, h.tape, h.output, h.size, h.block⟩

end Go.Proofs.YtjddkofpfmjojaaDoor
/-
  Clients' keys and values: UserOk and UvalOk of the program and of the specification, and the laws over them.
-/
namespace Go.Proofs.YtjddkofpfmjojaaDoor
open Go.RowKit
set_option linter.unusedVariables false
def uOk (k : ByteArray) : Bool := decide (1 ≤ k.size) && decide (k.size ≤ 8)
def uvOk (v : ByteArray) : Bool := decide (v.size ≤ 20)
theorem implUserOk_any (k : ByteArray) (w : World) : Calls Tryd.prog 86 #[.string k] w fun e w' => e = .returned (.bool (uOk k)) ∧ w = w' := by
  by_cases h : 1 ≤ k.size
  · have h1 : (1 : Int) ≤ (k.size : Int) := by omega
    have h1' : decide ((1 : Int) ≤ (k.size : Int)) = true := decide_eq_true h1
    have HE : Hid (uOk k = decide ((k.size : Int) ≤ 8)) := by
      show uOk k = _
      simp [uOk, h]
      omega
    go_enter Tryd.func86, Tryd.ntmps86
    go_wp2
    go_ret
    exact ⟨by rw [HE.out]; rfl, rfl⟩
  · have h1 : ¬ (1 : Int) ≤ (k.size : Int) := by omega
    have h1' : decide ((1 : Int) ≤ (k.size : Int)) = false := decide_eq_false h1
    have HE : Hid (uOk k = false) := by show uOk k = false; simp [uOk, h]
    go_enter Tryd.func86, Tryd.ntmps86
    go_wp2
    go_ret
    exact ⟨by rw [HE.out]; rfl, rfl⟩
theorem implUvalOk_any (k : ByteArray) (w : World) : Calls Tryd.prog 87 #[.string k] w fun e w' => e = .returned (.bool (uvOk k)) ∧ w = w' := by
  have HE : Hid (uvOk k = decide ((k.size : Int) ≤ 20)) := by
    show uvOk k = _
    simp [uvOk]
    omega
  go_enter Tryd.func87, Tryd.ntmps87
  go_wp2
  go_ret
  exact ⟨by rw [HE.out]; rfl, rfl⟩
theorem specUserOk_any (k : ByteArray) (w : World) : Calls Tryd.prog 76 #[.string k] w fun e w' => e = .returned (.bool (uOk k)) ∧ w = w' := by
  by_cases h : 1 ≤ k.size
  · have h1 : (1 : Int) ≤ (k.size : Int) := by omega
    have h1' : decide ((1 : Int) ≤ (k.size : Int)) = true := decide_eq_true h1
    have HE : Hid (uOk k = decide ((k.size : Int) ≤ 8)) := by
      show uOk k = _
      simp [uOk, h]
      omega
    go_enter Tryd.func76, Tryd.ntmps76
    go_wp2
    go_ret
    exact ⟨by rw [HE.out]; rfl, rfl⟩
  · have h1 : ¬ (1 : Int) ≤ (k.size : Int) := by omega
    have h1' : decide ((1 : Int) ≤ (k.size : Int)) = false := decide_eq_false h1
    have HE : Hid (uOk k = false) := by show uOk k = false; simp [uOk, h]
    go_enter Tryd.func76, Tryd.ntmps76
    go_wp2
    go_ret
    exact ⟨by rw [HE.out]; rfl, rfl⟩
theorem specUvalOk_any (k : ByteArray) (w : World) : Calls Tryd.prog 77 #[.string k] w fun e w' => e = .returned (.bool (uvOk k)) ∧ w = w' := by
  have HE : Hid (uvOk k = decide ((k.size : Int) ≤ 20)) := by
    show uvOk k = _
    simp [uvOk]
    omega
  go_enter Tryd.func77, Tryd.ntmps77
  go_wp2
  go_ret
  exact ⟨by rw [HE.out]; rfl, rfl⟩
end Go.Proofs.YtjddkofpfmjojaaDoor
/-
  The order of byte strings: strict, total; the empty string is the least; a byte 0 behind makes the next one.
-/
namespace Go.Proofs.YtjddkofpfmjojaaDoor

theorem less_irrefl (a : List UInt8) : Op.bytesLess a a = false := by
  induction a with
  | nil => rfl
  | cons x a ih => simp [Op.bytesLess, ih]
theorem less_asymm (a : List UInt8) : ∀ b, Op.bytesLess a b = true → Op.bytesLess b a = false := by
  induction a with
  | nil => intro b h; cases b <;> rfl
  | cons x a ih =>
    intro b h
    cases b with
    | nil => simp [Op.bytesLess] at h
    | cons y b =>
      simp only [Op.bytesLess, Bool.or_eq_true, decide_eq_true_eq, Bool.and_eq_true, beq_iff_eq, Bool.or_eq_false_iff, decide_eq_false_iff_not, Bool.and_eq_false_iff] at h ⊢
      rcases h with h | ⟨rfl, h⟩
      · exact ⟨fun h' => absurd (UInt8.lt_trans h h') (UInt8.lt_irrefl _), .inl (by
          simp only [beq_eq_false_iff_ne]; intro e; subst e; exact UInt8.lt_irrefl _ h)⟩
      · exact ⟨UInt8.lt_irrefl _, .inr (ih b h)⟩
theorem less_total (a : List UInt8) : ∀ b, Op.bytesLess a b = false → a ≠ b → Op.bytesLess b a = true := by
  induction a with
  | nil => intro b h hne; cases b with | nil => exact absurd rfl hne | cons y b => simp [Op.bytesLess] at h
  | cons x a ih =>
    intro b h hne
    cases b with
    | nil => rfl
    | cons y b =>
      simp only [Op.bytesLess, Bool.or_eq_true, decide_eq_true_eq, Bool.and_eq_true, beq_iff_eq, Bool.or_eq_false_iff, decide_eq_false_iff_not, Bool.and_eq_false_iff] at h ⊢
      by_cases e : x = y
      · subst e
        refine .inr ⟨rfl, ih b ?_ (fun e => hne (by rw [e]))⟩
        rcases h.2 with h' | h'
        · simp at h'
        · exact h'
      · refine .inl ?_
        rcases Nat.lt_or_ge y.toNat x.toNat with h' | h'
        · exact UInt8.lt_iff_toNat_lt.2 h'
        · refine absurd (UInt8.lt_iff_toNat_lt.2 (Nat.lt_of_le_of_ne h' fun e' => e (UInt8.toNat_inj.1 e'))) h.1
theorem less_trans (a : List UInt8) : ∀ b c, Op.bytesLess a b = true → Op.bytesLess b c = true → Op.bytesLess a c = true := by
  induction a with
  | nil => intro b c h1 h2; cases c with | nil => cases b <;> simp [Op.bytesLess] at h2 | cons z c => rfl
  | cons x a ih =>
    intro b c h1 h2
    cases b with
    | nil => simp [Op.bytesLess] at h1
    | cons y b =>
      cases c with
      | nil => simp [Op.bytesLess] at h2
      | cons z c =>
        simp only [Op.bytesLess, Bool.or_eq_true, decide_eq_true_eq, Bool.and_eq_true, beq_iff_eq] at h1 h2 ⊢
        rcases h1 with h1 | ⟨rfl, h1⟩
        · rcases h2 with h2 | ⟨rfl, h2⟩
          · exact .inl (UInt8.lt_trans h1 h2)
          · exact .inl h1
        · rcases h2 with h2 | ⟨rfl, h2⟩
          · exact .inl h2
          · exact .inr ⟨rfl, ih _ _ h1 h2⟩
/-- a is not above b, b is below c. -/
theorem nless_less (a b c : List UInt8) (h1 : Op.bytesLess b a = false) (h2 : Op.bytesLess b c = true) : Op.bytesLess a c = true := by
  by_cases e : a = b
  · subst e; exact h2
  · exact less_trans _ _ _ (less_total _ _ h1 (Ne.symm e)) h2
theorem less_nless (a b c : List UInt8) (h1 : Op.bytesLess a b = true) (h2 : Op.bytesLess c b = false) : Op.bytesLess a c = true := by
  by_cases e : b = c
  · subst e; exact h1
  · exact less_trans _ _ _ h1 (less_total _ _ h2 (Ne.symm e))
theorem nless_trans (a b c : List UInt8) (h1 : Op.bytesLess b a = false) (h2 : Op.bytesLess c b = false) : Op.bytesLess c a = false := by
  cases h : Op.bytesLess c a with
  | false => rfl
  | true => rw [less_nless c a b h h1] at h2; cases h2
theorem less_nil (a : List UInt8) : Op.bytesLess a [] = false := by cases a <;> rfl
theorem less_zero (a : List UInt8) : Op.bytesLess a (a ++ [0]) = true := by
  induction a with
  | nil => rfl
  | cons x a ih => simp [Op.bytesLess, ih]
theorem nil_less (a : List UInt8) (h : ¬ a = []) : Op.bytesLess [] a = true := by cases a with | nil => exact absurd rfl h | cons _ _ => rfl

theorem str_ext {a b : ByteArray} (h : a.toList = b.toList) : a = b := by
  rw [ByteArray.toList_eq, ByteArray.toList_eq] at h
  cases a; cases b
  simp at h
  rw [h]
theorem str_beq {a b : ByteArray} (h : a ≠ b) : (a.toList == b.toList) = false := by
  simp only [beq_eq_false_iff_ne, ne_eq]
  exact fun e => h (str_ext e)
theorem tri (a b : ByteArray) : (Op.bytesLess a.toList b.toList = true ∧ Op.bytesLess b.toList a.toList = false ∧ (a.toList == b.toList) = false ∧ (b.toList == a.toList) = false) ∨ a = b ∨
    (Op.bytesLess a.toList b.toList = false ∧ Op.bytesLess b.toList a.toList = true ∧ (a.toList == b.toList) = false ∧ (b.toList == a.toList) = false) := by
  by_cases e : a = b
  · exact .inr (.inl e)
  · cases h : Op.bytesLess a.toList b.toList with
    | true => exact .inl ⟨rfl, less_asymm _ _ h, str_beq e, str_beq (Ne.symm e)⟩
    | false => exact .inr (.inr ⟨rfl, less_total _ _ h (fun e' => e (str_ext e')), str_beq e, str_beq (Ne.symm e)⟩)
end Go.Proofs.YtjddkofpfmjojaaDoor
/-
  Keys and values: what the program's functions and the specification's answer, for all strings.
-/
namespace Go.Proofs.YtjddkofpfmjojaaDoor
open Go.RowKit

theorem str_empty {s : ByteArray} (h : s.toList = []) : s.size = 0 := by
  rw [ByteArray.toList_eq] at h
  show s.data.size = 0
  rw [← Array.length_toList, h]; rfl
theorem str_full {s : ByteArray} (h : ¬ s.toList = []) : 1 ≤ s.size := by
  rcases Nat.eq_zero_or_pos s.size with e | e
  · refine absurd ?_ h
    rw [ByteArray.toList_eq]
    exact List.eq_nil_of_length_eq_zero (by rw [Array.length_toList]; exact e)
  · exact e
theorem below_drew (w : World) : Below w.heap.size w w.drew := ⟨rfl, rfl, rfl, Nat.le_refl _, fun _ _ => rfl⟩
theorem Below.then' {B : Nat} {w w1 w2 : World} (h : Below B w w1) (h2 : Below w1.heap.size w1 w2) (hB : B ≤ w.heap.size) : Below B w w2 := h.trans (h2.mono (Nat.le_trans hB h.size))
theorem below_new {w w1 : World} {o : Obj} (h : Below (w.alloc o).heap.size (w.alloc o) w1) : Below w.heap.size w w1 := ((Below.refl _ _).alloc (Nat.le_refl _) o).trans (h.mono (by simp))

def kOk (k : ByteArray) : Bool := decide (1 ≤ k.size) && decide (k.size ≤ 16)
def vOk (v : ByteArray) : Bool := decide (v.size ≤ 60)
end Go.Proofs.YtjddkofpfmjojaaDoor
/-
  Keys and ranges: what the program's functions and the specification's answer, for all strings.
-/
namespace Go.Proofs.YtjddkofpfmjojaaDoor
open Go.RowKit

def rng (lo hi : ByteArray) : Value := .agg #[.string lo, .string hi]
/-- Whether s lies ahead of the end hi. -/
def ahd (s hi : ByteArray) : Bool := decide (hi.toList = []) || Op.bytesLess s.toList hi.toList
def endV (hi : ByteArray) : Value := if hi.toList = [] then .iface 149 (.agg #[]) else .iface 147 (.string hi)

theorem as_key (v : Value) (w : World) : (Instr.typeAssert (.iface 147 v) 144 147 true).run Tryd.prog w = .ok (.tuple #[v, .bool true]) w := by
  simp [Instr.typeAssert, run_underlying Tryd.underlying147]
theorem as_key_no (v : Value) (w : World) : (Instr.typeAssert (.iface 149 v) 144 147 true).run Tryd.prog w = .ok (.tuple #[.string ByteArray.empty, .bool false]) w := by
  have hz : (zeroValue 147).run Tryd.prog w = .ok (.string ByteArray.empty) w := by kernel_rfl
  simp [Instr.typeAssert, run_underlying Tryd.underlying147, hz]
theorem as_no (v : Value) (w : World) : (Instr.typeAssert (.iface 149 v) 144 149 true).run Tryd.prog w = .ok (.tuple #[v, .bool true]) w := by
  simp [Instr.typeAssert, run_underlying Tryd.underlying149]

theorem endOf_any (lo hi : ByteArray) (w : World) :
    Calls Tryd.prog 103 #[rng lo hi] w fun e w' => e = .returned (endV hi) ∧ Below w.heap.size w w' := by
  unfold rng
  have hb : Below w.heap.size w (w.alloc (Obj.cells #[Value.string lo, Value.string hi] 33)) := (Below.refl _ _).alloc (Nat.le_refl _) _
  by_cases h : hi.toList = []
  · have HE : Hid (endV hi = .iface 149 (.agg #[])) := if_pos h
    go_enter Tryd.func103, Tryd.ntmps103
    go_wp2
    go_ret
    exact ⟨by rw [HE.out]; rfl, hb⟩
  · have HE : Hid (endV hi = .iface 147 (.string hi)) := if_neg h
    have h2 : hi.toList.isEmpty = false := by simpa using h
    go_enter Tryd.func103, Tryd.ntmps103
    go_wp2
    go_ret
    exact ⟨by rw [HE.out]; rfl, hb⟩
theorem isAhead_any (s hi : ByteArray) (w : World) :
    Calls Tryd.prog 102 #[.string s, endV hi] w fun e w' => e = .returned (.bool (ahd s hi)) ∧ Below w.heap.size w w' := by
  by_cases h : hi.toList = []
  · have HE : Hid (ahd s hi = true) := by show ahd s hi = true; simp [ahd, h]
    rw [show endV hi = .iface 149 (.agg #[]) from if_pos h]
    clear h
    have h1 := as_key_no (.agg #[])
    have h2 := as_no (.agg #[])
    go_enter Tryd.func102, Tryd.ntmps102
    go_wp2
    go_ret
    exact ⟨by rw [HE.out]; rfl, (Below.refl _ _).alloc (Nat.le_refl _) _⟩
  · have HE : Hid (ahd s hi = Op.bytesLess s.toList hi.toList) := by show ahd s hi = Op.bytesLess s.toList hi.toList; simp [ahd, h]
    rw [show endV hi = .iface 147 (.string hi) from if_neg h]
    clear h
    have h1 := as_key (.string hi)
    go_enter Tryd.func102, Tryd.ntmps102
    go_wp2
    go_ret
    exact ⟨by rw [HE.out]; rfl, Below.refl _ _⟩

/-- A range that lies in a new block, kept. -/
theorem s2 {w w1 : World} {lo hi : ByteArray} {T : TypeId} (h : Below (w.alloc (.cells #[.string lo, .string hi] T)).heap.size (w.alloc (.cells #[.string lo, .string hi] T)) w1) :
    w1.cell? ⟨w.heap.size, 0, none⟩ = some (.string lo) ∧ w1.cell? ⟨w.heap.size, 1, none⟩ = some (.string hi) ∧ Below (w.alloc (.cells #[.string lo, .string hi] T)).heap.size (w.alloc (.cells #[.string lo, .string hi] T)) w1 := by
  refine ⟨?_, ?_, h⟩
  · rw [h.cell (p := ⟨w.heap.size, 0, none⟩) (by simp), World.cell?_alloc_at (hn := rfl)]; rfl
  · rw [h.cell (p := ⟨w.heap.size, 1, none⟩) (by simp), World.cell?_alloc_at (hn := rfl)]; rfl
theorem s2k {w w1 w2 : World} {lo hi : ByteArray} {T : TypeId} (h2 : Below w1.heap.size w1 w2)
    (h : w1.cell? ⟨w.heap.size, 0, none⟩ = some (.string lo) ∧ w1.cell? ⟨w.heap.size, 1, none⟩ = some (.string hi) ∧ Below (w.alloc (.cells #[.string lo, .string hi] T)).heap.size (w.alloc (.cells #[.string lo, .string hi] T)) w1) :
    w2.cell? ⟨w.heap.size, 0, none⟩ = some (.string lo) ∧ w2.cell? ⟨w.heap.size, 1, none⟩ = some (.string hi) ∧ Below (w.alloc (.cells #[.string lo, .string hi] T)).heap.size (w.alloc (.cells #[.string lo, .string hi] T)) w2 :=
  s2 (h.2.2.trans (h2.mono h.2.2.size))
def rOk (lo hi : ByteArray) : Bool := decide (lo.size ≤ 17) && decide (hi.size ≤ 17) && ahd lo hi
def rHas (lo hi k : ByteArray) : Bool := rOk lo hi && kOk k && !Op.bytesLess k.toList lo.toList && ahd k hi

theorem implRangeOk_any (lo hi : ByteArray) (w : World) : Calls Tryd.prog 96 #[rng lo hi] w fun e w' => e = .returned (.bool (rOk lo hi)) ∧ Below w.heap.size w w' := by
  show Calls Tryd.prog 96 #[.agg #[.string lo, .string hi]] w _
  by_cases h : lo.size ≤ 17
  · have h' : (lo.size : Int) ≤ 17 := by omega
    by_cases h2 : hi.size ≤ 17
    · have h2' : (hi.size : Int) ≤ 17 := by omega
      have HE : Hid (rOk lo hi = ahd lo hi) := by show rOk lo hi = ahd lo hi; simp [rOk, h, h2]
      go_enter Tryd.func96, Tryd.ntmps96
      go_wp2_with fail
      go_region_held3 (fun w' => w'.cell? ⟨w.heap.size, 0, none⟩ = some (.string lo) ∧ w'.cell? ⟨w.heap.size, 1, none⟩ = some (.string hi) ∧ Below (w.alloc (.cells #[.string lo, .string hi] 33)).heap.size (w.alloc (.cells #[.string lo, .string hi] 33)) w') (first | exact s2 (below_drew _) | exact s2k hbC (by assumption))
        (first
          | (go_at_call 103; refine (endOf_any lo hi _).mono ?_; rintro e w' ⟨rfl, hbC⟩)
          | (go_at_call 102; refine (isAhead_any lo hi _).mono ?_; rintro e w' ⟨rfl, hbC⟩))
      rename_i hS
      have hB := hS.2.2
      clear hS
      go_wp2
      go_ret
      exact ⟨by rw [HE.out]; rfl, below_new hB⟩
    · have h2' : decide ((hi.size : Int) ≤ 17) = false := decide_eq_false (by omega)
      have HE : Hid (rOk lo hi = false) := by show rOk lo hi = false; simp [rOk, h2]
      go_enter Tryd.func96, Tryd.ntmps96
      go_wp2_with fail
      go_quiet (fail)
      go_wp2
      go_ret
      exact ⟨by rw [HE.out]; rfl, below_new (Below.drewN' (Below.refl _ _) _)⟩
  · have h' : decide ((lo.size : Int) ≤ 17) = false := decide_eq_false (by omega)
    have HE : Hid (rOk lo hi = false) := by show rOk lo hi = false; simp [rOk, h]
    go_enter Tryd.func96, Tryd.ntmps96
    go_wp2_with fail
    go_quiet (fail)
    go_wp2
    go_ret
    exact ⟨by rw [HE.out]; rfl, below_new (Below.drewN' (Below.refl _ _) _)⟩
end Go.Proofs.YtjddkofpfmjojaaDoor
/-
  Keys and ranges, the specification's side, and the law's helpers over ranges.
-/
namespace Go.Proofs.YtjddkofpfmjojaaDoor
open Go.RowKit

/-- A range is read whole out of its two cells. -/
theorem load_rng {w : World} {g : Nat} {lo hi : ByteArray} (c0 : w.cell? ⟨g, 0, none⟩ = some (.string lo)) (c1 : w.cell? ⟨g, 1, none⟩ = some (.string hi)) :
    (loadVar 33 ⟨g, 0, none⟩).run Tryd.prog w = .ok (rng lo hi) w := by
  show (loadVar 33 ⟨g, 0, none⟩).run Tryd.prog w = Result.ok (.agg #[.string lo, .string hi]) w
  go_simp
theorem results_rng {fn : Func} {p : Tmp} (h : fn.results = #[.cell p 33]) (tmps : Array Value) (w : World) (g : Nat) {lo hi : ByteArray} (hp : tmps.getD p undef = .pointer (some ⟨g, 0, none⟩))
    (c0 : w.cell? ⟨g, 0, none⟩ = some (.string lo)) (c1 : w.cell? ⟨g, 1, none⟩ = some (.string hi)) : (results fn tmps).run Tryd.prog w = .ok (rng lo hi) w := by
  have hp' : tmps[p]?.getD undef = .pointer (some ⟨g, 0, none⟩) := by simpa using hp
  simp [results, h, hp', asAddr, load_rng c0 c1]
theorem results_rng_bool {fn : Func} {p u : Tmp} (h : fn.results = #[.cell p 33, .tmp u]) (tmps : Array Value) (w : World) (g : Nat) {lo hi : ByteArray} {b : Value} (hp : tmps.getD p undef = .pointer (some ⟨g, 0, none⟩)) (hb : tmps.getD u undef = b)
    (c0 : w.cell? ⟨g, 0, none⟩ = some (.string lo)) (c1 : w.cell? ⟨g, 1, none⟩ = some (.string hi)) : (results fn tmps).run Tryd.prog w = .ok (.tuple #[rng lo hi, b]) w := by
  have hp' : tmps[p]?.getD undef = .pointer (some ⟨g, 0, none⟩) := by simpa using hp
  have hb' : tmps[u]?.getD undef = b := by simpa using hb
  simp [results, h, hp', hb', asAddr, load_rng c0 c1]

/-- Block g holds the range from lo to hi. -/
def Blk (w : World) (g : Nat) (lo hi : ByteArray) : Prop := w.heap[g]? = some (.cells #[.string lo, .string hi] 33 (0, 0))
theorem Blk.lt {w : World} {g : Nat} {lo hi : ByteArray} (h : Blk w g lo hi) : g < w.heap.size := by
  rcases Nat.lt_or_ge g w.heap.size with h' | h'
  · exact h'
  · rw [Blk, Array.getElem?_eq_none h'] at h; cases h
theorem Blk.kept {w w' : World} {g : Nat} {lo hi : ByteArray} (h : Blk w g lo hi) (hb : Below w.heap.size w w') : Blk w' g lo hi := (hb.block g h.lt).trans h
theorem Blk.facts {w : World} {g : Nat} {lo hi : ByteArray} (h : Blk w g lo hi) : w.cell? ⟨g, 0, none⟩ = some (.string lo) ∧ w.cell? ⟨g, 1, none⟩ = some (.string hi) ∧ w.frozen? ⟨g, 0, none⟩ = false ∧ w.frozen? ⟨g, 1, none⟩ = false := by
  unfold Blk at h
  exact ⟨by simp [World.cell?, h], by simp [World.cell?, h], by simp [World.frozen?, h], by simp [World.frozen?, h]⟩
theorem Blk.new (w : World) (lo hi : ByteArray) : Blk (w.alloc (.cells #[.string lo, .string hi] 33)) w.heap.size lo hi := heap_alloc_new _ _
theorem Blk.alloc {w : World} {g : Nat} {lo hi : ByteArray} (h : Blk w g lo hi) (o : Obj) : Blk (w.alloc o) g lo hi := (heap_alloc_old w o h.lt).trans h
/-- Three blocks: two ranges, and the one that is answered. -/
structure Trio (w v : World) (la ha lb hb : ByteArray) : Prop where
  bel : Below w.heap.size w v
  a : Blk v w.heap.size la ha
  b : Blk v (w.heap.size + 1) lb hb
  r : Blk v (w.heap.size + 1 + 1) ⟨#[]⟩ ⟨#[]⟩
theorem Trio.new (w : World) (la ha lb hb : ByteArray) : Trio w (((w.alloc (.cells #[.string la, .string ha] 33)).alloc (.cells #[.string lb, .string hb] 33)).alloc (.cells #[.string ⟨#[]⟩, .string ⟨#[]⟩] 33)) la ha lb hb :=
  ⟨below_new (below_new (below_new (Below.refl _ _))), ((Blk.new w la ha).alloc _).alloc _, by have := (Blk.new (w.alloc (.cells #[.string la, .string ha] 33)) lb hb).alloc (.cells #[.string ⟨#[]⟩, .string ⟨#[]⟩] 33); simpa using this, by have := Blk.new ((w.alloc (.cells #[.string la, .string ha] 33)).alloc (.cells #[.string lb, .string hb] 33)) ⟨#[]⟩ ⟨#[]⟩; simpa using this⟩
theorem Trio.step {w v v' : World} {la ha lb hb : ByteArray} (h : Trio w v la ha lb hb) (k : Below v.heap.size v v') : Trio w v' la ha lb hb := ⟨h.bel.trans (k.mono h.bel.size), h.a.kept k, h.b.kept k, h.r.kept k⟩

theorem specRangeOk_any (lo hi : ByteArray) (w : World) : Calls Tryd.prog 85 #[rng lo hi] w fun e w' => e = .returned (.bool (rOk lo hi)) ∧ Below w.heap.size w w' := by
  show Calls Tryd.prog 85 #[.agg #[.string lo, .string hi]] w _
  by_cases h : lo.size ≤ 17
  · have h' : decide ((17 : Int) < (lo.size : Int)) = false := decide_eq_false (by omega)
    by_cases h2 : hi.size ≤ 17
    · have h2' : decide ((17 : Int) < (hi.size : Int)) = false := decide_eq_false (by omega)
      by_cases h3 : hi.toList = []
      · have HE : Hid (rOk lo hi = true) := by show rOk lo hi = true; simp [rOk, h, h2, ahd, h3]
        go_enter Tryd.func85, Tryd.ntmps85
        go_wp2
        go_ret
        exact ⟨by rw [HE.out]; rfl, below_new (Below.refl _ _)⟩
      · have HE : Hid (rOk lo hi = Op.bytesLess lo.toList hi.toList) := by show rOk lo hi = Op.bytesLess lo.toList hi.toList; simp [rOk, h, h2, ahd, h3]
        have h4 : hi.toList.isEmpty = false := by simpa using h3
        go_enter Tryd.func85, Tryd.ntmps85
        go_wp2
        go_ret
        exact ⟨by rw [HE.out]; rfl, below_new (Below.refl _ _)⟩
    · have h2' : decide ((17 : Int) < (hi.size : Int)) = true := decide_eq_true (by omega)
      have HE : Hid (rOk lo hi = false) := by show rOk lo hi = false; simp [rOk, h2]
      go_enter Tryd.func85, Tryd.ntmps85
      go_wp2
      go_ret
      exact ⟨by rw [HE.out]; rfl, below_new (Below.refl _ _)⟩
  · have h' : decide ((17 : Int) < (lo.size : Int)) = true := decide_eq_true (by omega)
    have HE : Hid (rOk lo hi = false) := by show rOk lo hi = false; simp [rOk, h]
    go_enter Tryd.func85, Tryd.ntmps85
    go_wp2
    go_ret
    exact ⟨by rw [HE.out]; rfl, below_new (Below.refl _ _)⟩
theorem toRange_any (lo hi : ByteArray) (w : World) : Calls Tryd.prog 55 #[rng lo hi] w fun e w' => e = .returned (rng lo hi) ∧ Below w.heap.size w w' := by
  show Calls Tryd.prog 55 #[.agg #[.string lo, .string hi]] w _
  go_enter Tryd.func55, Tryd.ntmps55
  go_wp2
  try simp only [Exit.inBlock, Exit.then]
  refine bodyPost_ret (v := rng lo hi) ?_ rfl ?_
  · refine results_rng rfl _ _ _ rfl ?_ ?_
    · go_simp
    · go_simp
  · exact ⟨rfl, below_new (below_new (below_new (Below.refl _ _)))⟩
theorem szRange_any (lo hi : ByteArray) (left : Int) (w : World) (h0 : 0 ≤ left) (h1 : left ≤ 1048576) (hlo : lo.size ≤ 9223372036854775807) (hhi : hi.size ≤ 9223372036854775807) :
    Calls Tryd.prog 51 #[rng lo hi, .int .i64 left] w fun e w' => (∃ x : Int, e = .returned (.int .i64 x) ∧ x ≤ left ∧ -1 ≤ x) ∧ Below w.heap.size w w' := by
  show Calls Tryd.prog 51 #[.agg #[.string lo, .string hi], .int .i64 left] w _
  go_enter Tryd.func51, Tryd.ntmps51
  go_wp2
  all_goals (go_ret; exact ⟨⟨_, rfl, by omega, by omega⟩, below_new (Below.refl _ _)⟩)
end Go.Proofs.YtjddkofpfmjojaaDoor
/-
  Trees as plain data: pairs at leaves, kids of branches; their least key, all pairs, depth, fullness, their nodes in the walk's order; and what reading a list of nodes gives, in the program's way and in the specification's.
-/
namespace Go.Proofs.YtjddkofpfmjojaaDoor
open Go.RowKit

abbrev PB := ByteArray × ByteArray
structure NB where
  ps : List PB
  keys : List ByteArray
  kids : List Int
inductive T where
  | mk (ps : List PB) (ks : List T)
instance : Inhabited T := ⟨.mk [] []⟩
instance : Inhabited NB := ⟨⟨[], [], []⟩⟩
def T.ps : T → List PB | .mk ps _ => ps
def T.ks : T → List T | .mk _ ks => ks
theorem T.ind {P : T → Prop} (h : ∀ ps ks, (∀ k ∈ ks, P k) → P (.mk ps ks)) : ∀ t, P t := by
  intro t
  refine T.rec (motive_1 := P) (motive_2 := fun ks => ∀ k ∈ ks, P k) (fun ps ks ih => h ps ks ih) (by simp) ?_ t
  intro k ks h1 h2 x hx
  rcases List.mem_cons.1 hx with rfl | hx
  · exact h1
  · exact h2 x hx
mutual
def T.size : T → Nat | .mk _ ks => 1 + szL ks
def szL : List T → Nat | [] => 0 | k :: ks => k.size + szL ks
end
mutual
def T.all : T → List PB | .mk ps ks => ps ++ allL ks
def allL : List T → List PB | [] => [] | k :: ks => k.all ++ allL ks
end
def T.least : T → ByteArray
  | .mk ps [] => (ps.head?.map (·.1)).getD ⟨#[]⟩
  | .mk _ (k :: _) => k.least
/-- How far the first leaf is down. -/
def T.lv : T → Nat
  | .mk _ [] => 1
  | .mk _ (k :: _) => k.lv + 1
mutual
def T.dp : T → Int | .mk _ ks => if ks = [] then 1 else dpL true 0 ks
def dpL : Bool → Int → List T → Int
  | _, d, [] => d
  | f, d, k :: ks => if k.dp < 0 ∨ (f = false ∧ k.dp + 1 ≠ d) then -1 else dpL false (k.dp + 1) ks
end
mutual
def T.full : Bool → T → Bool | root, .mk ps ks => if ks = [] then decide (ps.length ≤ 4) && (decide (2 ≤ ps.length) || root && decide (ps.length = 1)) else decide (2 ≤ ks.length) && decide (ks.length ≤ 4) && decide (ps.length = 0) && fullL ks
def fullL : List T → Bool | [] => true | k :: ks => k.full false && fullL ks
end
def places : Nat → List T → List Int
  | _, [] => []
  | a, k :: ks => (a : Int) :: places (a + k.size) ks
mutual
def lay : Nat → T → List NB | a, .mk ps ks => if ks = [] then [⟨ps, [], []⟩] else ⟨[], ks.tail.map T.least, places (a + 1) ks⟩ :: layL (a + 1) ks
def layL : Nat → List T → List NB | _, [] => [] | a, k :: ks => lay a k ++ layL (a + k.size) ks
end
/-- All leaves are h down. -/
def Ev : Nat → T → Prop
  | 0, _ => False
  | h + 1, .mk _ ks => (ks = [] ∧ h = 0) ∨ (ks ≠ [] ∧ ∀ k ∈ ks, Ev h k)
def nAt (ns : List NB) (i : Nat) : NB := ns[i]?.getD ⟨[], [], []⟩
/-- At place a of ns lie the nodes l. -/
def Pre (ns : List NB) (a : Nat) (l : List NB) : Prop := ∀ i, i < l.length → ns[a + i]? = l[i]?
theorem pre_append {ns : List NB} {a : Nat} {l m : List NB} : Pre ns a (l ++ m) ↔ Pre ns a l ∧ Pre ns (a + l.length) m := by
  constructor
  · intro h
    refine ⟨fun i hi => ?_, fun i hi => ?_⟩
    · rw [h i (by simp; omega), List.getElem?_append_left hi]
    · have := h (l.length + i) (by simp; omega)
      rw [List.getElem?_append_right (by omega)] at this
      rw [Nat.add_assoc, this]
      congr 1
      omega
  · rintro ⟨h1, h2⟩ i hi
    by_cases hl : i < l.length
    · rw [h1 i hl, List.getElem?_append_left hl]
    · have := h2 (i - l.length) (by simp at hi; omega)
      rw [List.getElem?_append_right (by omega), ← this]
      congr 1
      omega
mutual
theorem lay_length : ∀ (t : T) (a : Nat), (lay a t).length = t.size
  | .mk ps ks, a => by
    by_cases h : ks = []
    · subst h; simp [lay, T.size, szL]
    · simp [lay, h, T.size, layL_length ks (a + 1)]; omega
theorem layL_length : ∀ (ks : List T) (a : Nat), (layL a ks).length = szL ks
  | [], a => by simp [layL, szL]
  | k :: ks, a => by simp [layL, szL, lay_length k a, layL_length ks (a + k.size)]
end

/-- What the specification's reading of the kids gives. -/
def rdSL (rd : Int → Option (T × Nat)) : List Int → Nat → Option (List T × Nat)
  | [], nx => some ([], nx)
  | k :: kids, nx => if k ≠ (nx : Int) then none else match rd k with
    | none => none
    | some (t, n1) => match rdSL rd kids n1 with
      | none => none
      | some (ts, n2) => some (t :: ts, n2)
def rdS (ns : List NB) : Nat → Int → Option (T × Nat)
  | 0, _ => none
  | f + 1, a => if a < 0 ∨ (ns.length : Int) ≤ a then none else match rdSL (rdS ns f) (nAt ns a.toNat).kids (a.toNat + 1) with
    | none => none
    | some (ts, n) => some (.mk (nAt ns a.toNat).ps ts, n)
/-- What the program's reading of the kids gives: ts0 have been read. -/
def rdIL (rd : Int → Nat → Option (T × Nat)) (keys : List ByteArray) : List T → List Int → Nat → Option (List T × Nat)
  | ts0, [], nx => some (ts0, nx)
  | ts0, k :: kids, nx => match rd k nx with
    | none => none
    | some (t, n1) => if 0 < ts0.length ∧ (t.least ≠ keys[ts0.length - 1]?.getD ⟨#[]⟩ ∨ t.lv ≠ (ts0[0]?.getD default).lv) then none else rdIL rd keys (ts0 ++ [t]) kids n1
def leafOk (n : NB) (root : Bool) : Bool := !(decide (n.ps.length = 0) || decide (4 < n.ps.length) || (decide (n.ps.length < 2) && !root) || !decide (n.keys.length = 0))
def brOk (n : NB) : Bool := !(decide (n.kids.length < 2) || decide (4 < n.kids.length) || !decide ((n.keys.length : Int) = (n.kids.length : Int) - 1) || !decide (n.ps.length = 0))
def rdI (ns : List NB) : Nat → Int → Nat → Option (T × Nat)
  | 0, _, _ => none
  | f + 1, pl, nx => if pl ≠ (nx : Int) ∨ (ns.length : Int) ≤ pl then none else
    if (nAt ns nx).kids.length = 0 then (if leafOk (nAt ns nx) (decide (pl = 0)) = true then some (.mk (nAt ns nx).ps [], nx + 1) else none)
    else if brOk (nAt ns nx) = true then (match rdIL (rdI ns f) (nAt ns nx).keys [] (nAt ns nx).kids (nx + 1) with
      | none => none
      | some (ts, n) => some (.mk [] ts, n)) else none
end Go.Proofs.YtjddkofpfmjojaaDoor
/-
  Reading: the program reads just the trees that are full, evenly deep and laid in the walk's order; the specification reads these too.
-/
namespace Go.Proofs.YtjddkofpfmjojaaDoor
open Go.RowKit

theorem ev_lv : ∀ (h : Nat) (t : T), Ev h t → t.lv = h
  | 0, _, e => e.elim
  | h + 1, .mk ps [], e => by
    rcases e with ⟨_, rfl⟩ | ⟨e, _⟩
    · rfl
    · exact absurd rfl e
  | h + 1, .mk ps (k :: ks), e => by
    rcases e with ⟨e, _⟩ | ⟨_, e⟩
    · cases e
    · simp [T.lv, ev_lv h k (e k (by simp))]
theorem ev_dpL (h : Nat) (ih : ∀ t, Ev h t → t.dp = h) : ∀ (ks : List T), (∀ k ∈ ks, Ev h k) → ∀ f, ks ≠ [] ∨ f = false → dpL f (if f then 0 else (h : Int) + 1) ks = h + 1
  | [], _, f, hf => by
    rcases hf with hf | rfl
    · exact absurd rfl hf
    · simp [dpL]
  | k :: ks, hk, f, _ => by
    have e := ih k (hk k (by simp))
    have := ev_dpL h ih ks (fun x hx => hk x (by simp [hx])) false (.inr rfl)
    simp only [dpL, e]
    rw [if_neg]
    · simpa using this
    · rintro (h1 | ⟨rfl, h1⟩)
      · omega
      · simp at h1
theorem ev_dp : ∀ (h : Nat) (t : T), Ev h t → t.dp = h
  | 0, _, e => e.elim
  | h + 1, .mk ps ks, e => by
    rcases e with ⟨rfl, rfl⟩ | ⟨e1, e2⟩
    · simp [T.dp]
    · have := ev_dpL h (ev_dp h) ks e2 true (.inl e1)
      simpa [T.dp, e1] using this
theorem dpL_neg_or (ks : List T) : ∀ (f : Bool) (d : Int), (dpL f d ks = -1) ∨ (∀ k ∈ ks, 0 ≤ k.dp ∧ k.dp + 1 = dpL f d ks) ∧ (f = false → ks ≠ [] → dpL f d ks = d) ∧ (ks = [] → dpL f d ks = d) := by
  induction ks with
  | nil => intro f d; right; simp [dpL]
  | cons k ks ih =>
    intro f d
    simp only [dpL]
    split
    · exact .inl rfl
    · rename_i h
      rcases ih false (k.dp + 1) with h1 | ⟨h1, h2, h3⟩
      · exact .inl h1
      · have hv : dpL false (k.dp + 1) ks = k.dp + 1 := by
          by_cases hk : ks = []
          · exact h3 hk
          · exact h2 rfl hk
        refine .inr ⟨fun x hx => ?_, fun hf _ => ?_, fun h => by cases h⟩
        · rcases List.mem_cons.1 hx with rfl | hx
          · exact ⟨by omega, hv.symm⟩
          · exact h1 x hx
        · rw [hv]
          by_cases e : k.dp + 1 = d
          · exact e
          · exact absurd (.inr ⟨hf, e⟩) h
theorem dp_ev : ∀ (t : T), 0 ≤ t.dp → Ev t.dp.toNat t := by
  refine T.ind ?_
  intro ps ks ih h0
  by_cases hk : ks = []
  · subst hk
    simp [T.dp, Ev]
  · have e : (T.mk ps ks).dp = dpL true 0 ks := by simp [T.dp, hk]
    rw [e] at h0 ⊢
    rcases dpL_neg_or ks true 0 with h1 | ⟨h1, _, _⟩
    · omega
    · obtain ⟨k, hk'⟩ := List.exists_mem_of_ne_nil ks hk
      have := h1 k hk'
      obtain ⟨m, hm⟩ : ∃ m : Nat, dpL true 0 ks = m + 1 := ⟨(dpL true 0 ks).toNat - 1, by omega⟩
      rw [hm]
      show Ev (m + 1) _
      refine .inr ⟨hk, fun x hx => ?_⟩
      have hx' := h1 x hx
      have := ih x hx hx'.1
      rwa [show x.dp.toNat = m by omega] at this
theorem pre_cons {ns : List NB} {a : Nat} {n : NB} {l : List NB} : Pre ns a (n :: l) ↔ ns[a]? = some n ∧ Pre ns (a + 1) l := by
  rw [show n :: l = [n] ++ l from rfl, pre_append]
  constructor
  · rintro ⟨h1, h2⟩; exact ⟨by simpa using h1 0 (by simp), h2⟩
  · rintro ⟨h1, h2⟩; refine ⟨fun i hi => ?_, h2⟩; simp at hi; subst hi; simpa using h1
theorem pre_lt {ns : List NB} {a : Nat} {n : NB} (h : ns[a]? = some n) : a < ns.length ∧ nAt ns a = n := by
  obtain ⟨h1, h2⟩ := List.getElem?_eq_some_iff.1 h
  exact ⟨h1, by simp [nAt, h]⟩
theorem nAt_some {ns : List NB} {a : Nat} (h : a < ns.length) : ns[a]? = some (nAt ns a) := by simp [nAt, h]
theorem T.size_pos (t : T) : 0 < t.size := by cases t; simp [T.size]; omega

theorem fullL_iff (ks : List T) : fullL ks = true ↔ ∀ k ∈ ks, k.full false = true := by
  induction ks with
  | nil => simp [fullL]
  | cons k ks ih => simp [fullL, ih]
theorem full_br {r : Bool} {ps : List PB} {ks : List T} (h : (T.mk ps ks).full r = true) (hk : ks ≠ []) : 2 ≤ ks.length ∧ ks.length ≤ 4 ∧ ps = [] ∧ ∀ k ∈ ks, k.full false = true := by
  simp only [T.full, hk, if_false, Bool.and_eq_true, decide_eq_true_eq] at h
  exact ⟨h.1.1.1, h.1.1.2, List.eq_nil_of_length_eq_zero h.1.2, (fullL_iff ks).1 h.2⟩
theorem full_lf {r : Bool} {ps : List PB} (h : (T.mk ps []).full r = true) : ps.length ≤ 4 ∧ (2 ≤ ps.length ∨ r = true ∧ ps.length = 1) := by
  simpa [T.full] using h

/-- The specification reads what lies there. -/
theorem rdSL_some (ns : List NB) (f : Nat) (ih : ∀ (t : T) (h a : Nat) (r : Bool), Ev h t → t.full r = true → h ≤ f → Pre ns a (lay a t) → rdS ns f a = some (t, a + t.size)) (h : Nat) (hf : h ≤ f) :
    ∀ (ks : List T) (a : Nat), (∀ k ∈ ks, Ev h k) → (∀ k ∈ ks, k.full false = true) → Pre ns a (layL a ks) → rdSL (rdS ns f) (places a ks) a = some (ks, a + szL ks)
  | [], a, _, _, _ => by simp [places, rdSL, szL]
  | k :: ks, a, he, hu, hp => by
    rw [layL, pre_append, lay_length] at hp
    have h1 := ih k h a false (he k (by simp)) (hu k (by simp)) hf hp.1
    have h2 := rdSL_some ns f ih h hf ks (a + k.size) (fun x hx => he x (by simp [hx])) (fun x hx => hu x (by simp [hx])) hp.2
    simp [places, rdSL, h1, h2, szL, Nat.add_assoc]
theorem rdS_some (ns : List NB) : ∀ (f : Nat) (t : T) (h a : Nat) (r : Bool), Ev h t → t.full r = true → h ≤ f → Pre ns a (lay a t) → rdS ns f a = some (t, a + t.size)
  | 0, t, h, a, r, he, hu, hf, hp => by obtain rfl : h = 0 := by omega
                                        exact he.elim
  | f + 1, .mk ps ks, 0, a, r, he, hu, hf, hp => he.elim
  | f + 1, .mk ps ks, h + 1, a, r, he, hu, hf, hp => by
    by_cases hk : ks = []
    · subst hk
      simp only [lay, if_true] at hp
      obtain ⟨h1, h2⟩ := pre_lt (pre_cons.1 hp).1
      simp [rdS, h2, rdSL, T.size, szL]
      omega
    · simp only [lay, hk, if_false] at hp
      obtain ⟨h0, h3⟩ := pre_cons.1 hp
      obtain ⟨h1, h2⟩ := pre_lt h0
      obtain ⟨_, _, rfl, hu'⟩ := full_br hu hk
      rcases he with ⟨e, _⟩ | ⟨_, e⟩
      · exact absurd e hk
      · have := rdSL_some ns f (rdS_some ns f) h (by omega) ks (a + 1) e hu' h3
        simp [rdS, h2, this, T.size]
        omega
/-- The program reads what lies there. -/
theorem rdIL_some (ns : List NB) (f : Nat) (ih : ∀ (t : T) (h a : Nat), Ev h t → t.full (decide (a = 0)) = true → h ≤ f → Pre ns a (lay a t) → rdI ns f a a = some (t, a + t.size)) (h : Nat) (hf : h ≤ f) (keys : List ByteArray) :
    ∀ (ks ts0 : List T) (a : Nat), 0 < a → (∀ k ∈ ts0, Ev h k) → (∀ k ∈ ks, Ev h k) → (∀ k ∈ ks, k.full false = true) → (∀ i, 0 < i → i < (ts0 ++ ks).length → keys[i - 1]?.getD ⟨#[]⟩ = ((ts0 ++ ks)[i]?.getD default).least) →
      Pre ns a (layL a ks) → rdIL (rdI ns f) keys ts0 (places a ks) a = some (ts0 ++ ks, a + szL ks)
  | [], ts0, a, _, _, _, _, _, _ => by simp [places, rdIL, szL]
  | k :: ks, ts0, a, ha, hz, he, hu, hkey, hp => by
    rw [layL, pre_append, lay_length] at hp
    have h1 := ih k h a (he k (by simp)) (by rw [decide_eq_false (by omega)]; exact hu k (by simp)) hf hp.1
    have h2 := rdIL_some ns f ih h hf keys ks (ts0 ++ [k]) (a + k.size) (by omega) (by
        intro x hx
        rcases List.mem_append.1 hx with hx | hx
        · exact hz x hx
        · simp at hx; subst hx; exact he x (by simp)) (fun x hx => he x (by simp [hx])) (fun x hx => hu x (by simp [hx])) (by simpa using hkey) hp.2
    simp only [places, rdIL, h1]
    rw [if_neg]
    · rw [h2]; simp [szL, Nat.add_assoc]
    · rintro ⟨h0, h3 | h3⟩
      · have := hkey ts0.length h0 (by simp)
        simp at this
        exact h3 (by rw [this])
      · apply h3
        rw [ev_lv h k (he k (by simp))]
        obtain ⟨x, hx⟩ : ∃ x, ts0[0]? = some x := ⟨ts0[0], by simp⟩
        rw [hx]
        exact (ev_lv h x (hz x (List.mem_of_getElem? hx))).symm
theorem rdI_some (ns : List NB) : ∀ (f : Nat) (t : T) (h a : Nat), Ev h t → t.full (decide (a = 0)) = true → h ≤ f → Pre ns a (lay a t) → rdI ns f a a = some (t, a + t.size)
  | 0, t, h, a, he, hu, hf, hp => by obtain rfl : h = 0 := by omega
                                     exact he.elim
  | f + 1, .mk ps ks, 0, a, he, hu, hf, hp => he.elim
  | f + 1, .mk ps ks, h + 1, a, he, hu, hf, hp => by
    by_cases hk : ks = []
    · subst hk
      simp only [lay, if_true] at hp
      obtain ⟨h1, h2⟩ := pre_lt (pre_cons.1 hp).1
      obtain ⟨u1, u2⟩ := full_lf hu
      have hl : leafOk ⟨ps, [], []⟩ (decide ((a : Int) = 0)) = true := by
        have e1 : ps.length ≠ 0 := by rcases u2 with u2 | ⟨_, u2⟩ <;> omega
        have e2 : ps.length < 2 → a = 0 := by
          intro h; rcases u2 with u2 | ⟨u2, _⟩
          · omega
          · exact of_decide_eq_true u2
        simp only [leafOk, Bool.not_eq_true', Bool.or_eq_false_iff, decide_eq_false_iff_not, Bool.and_eq_false_iff, List.length_nil, decide_true, Bool.not_true]
        refine ⟨⟨⟨e1, by omega⟩, ?_⟩, trivial⟩
        by_cases h2 : ps.length < 2
        · right; simp [e2 h2]
        · left; exact h2
      rw [rdI, if_neg (by omega), h2, if_pos (by rfl), if_pos hl]
      simp [T.size, szL]
    · simp only [lay, hk, if_false] at hp
      obtain ⟨h0, h3⟩ := pre_cons.1 hp
      obtain ⟨h1, h2⟩ := pre_lt h0
      obtain ⟨u1, u2, rfl, hu'⟩ := full_br hu hk
      rcases he with ⟨e, _⟩ | ⟨_, e⟩
      · exact absurd e hk
      · have := rdIL_some ns f (rdI_some ns f) h (by omega) (ks.tail.map T.least) ks [] (a + 1) (by omega) (by simp) e hu' (by
          intro i hi hlt
          obtain ⟨j, rfl⟩ : ∃ j, i = j + 1 := ⟨i - 1, by omega⟩
          simp at hlt ⊢
          simp [hlt]) h3
        have hpl : ∀ (ks : List T) (a : Nat), (places a ks).length = ks.length := by
          intro ks; induction ks with
          | nil => intro a; rfl
          | cons k ks ih => intro a; simp [places, ih]
        have hb : brOk ⟨[], ks.tail.map T.least, places (a + 1) ks⟩ = true := by
          simp only [brOk, hpl, Bool.not_eq_true', Bool.or_eq_false_iff, decide_eq_false_iff_not, Bool.not_eq_false', decide_eq_true_eq, List.length_nil, List.length_map, List.length_tail]
          refine ⟨⟨⟨by omega, by omega⟩, by omega⟩, trivial⟩
        rw [rdI, if_neg (by omega), h2, if_neg (by simp only [hpl]; omega), if_pos hb]
        simp only [this]
        simp [T.size]
        omega
theorem rdIL_sound (ns : List NB) (f : Nat) (ih : ∀ (pl : Int) (nx : Nat) (t : T) (n1 : Nat), rdI ns f pl nx = some (t, n1) → pl = nx ∧ nx < ns.length ∧ t.full (decide (nx = 0)) = true ∧ (∃ h, Ev h t) ∧ Pre ns nx (lay nx t) ∧ n1 = nx + t.size)
    (keys : List ByteArray) (h : Nat) : ∀ (kids : List Int) (ts0 : List T) (nx : Nat) (ts : List T) (n : Nat), 0 < nx → 0 < ts0.length → (∀ k ∈ ts0, Ev h k) → rdIL (rdI ns f) keys ts0 kids nx = some (ts, n) →
      ∃ ks, ts = ts0 ++ ks ∧ kids = places nx ks ∧ (∀ k ∈ ks, Ev h k) ∧ (∀ k ∈ ks, k.full false = true) ∧ (∀ i, ts0.length ≤ i → i < ts.length → keys[i - 1]?.getD ⟨#[]⟩ = (ts[i]?.getD default).least) ∧ Pre ns nx (layL nx ks) ∧ n = nx + szL ks
  | [], ts0, nx, ts, n, hnx, hl, hz, hr => by
    simp only [rdIL, Option.some.injEq, Prod.mk.injEq] at hr
    obtain ⟨rfl, rfl⟩ := hr
    exact ⟨[], by simp, rfl, by simp, by simp, fun i h1 h2 => by omega, fun i hi => by simp [layL] at hi, rfl⟩
  | k :: kids, ts0, nx, ts, n, hnx, hl, hz, hr => by
    simp only [rdIL] at hr
    cases e : rdI ns f k nx with
    | none => simp [e] at hr
    | some x =>
      obtain ⟨t, n1⟩ := x
      obtain ⟨rfl, i2, i3, ⟨h', i4⟩, i5, rfl⟩ := ih _ _ _ _ e
      simp only [e] at hr
      split at hr
      · cases hr
      · rename_i hc
        have hl0 : t.least = keys[ts0.length - 1]?.getD ⟨#[]⟩ := by
          by_cases q : t.least = keys[ts0.length - 1]?.getD ⟨#[]⟩
          · exact q
          · exact absurd ⟨hl, .inl q⟩ hc
        have hl1 : t.lv = (ts0[0]?.getD default).lv := by
          by_cases q : t.lv = (ts0[0]?.getD default).lv
          · exact q
          · exact absurd ⟨hl, .inr q⟩ hc
        obtain ⟨x, hx⟩ : ∃ x, ts0[0]? = some x := ⟨ts0[0], by simp⟩
        have hh : h' = h := by
          rw [← ev_lv h' t i4, hl1, hx]
          exact ev_lv h x (hz x (List.mem_of_getElem? hx))
        subst hh
        obtain ⟨ks, rfl, rfl, k3, k4, k5, k6, rfl⟩ := rdIL_sound ns f ih keys h' kids (ts0 ++ [t]) (nx + t.size) ts n (by omega) (by simp) (by
          intro y hy
          rcases List.mem_append.1 hy with hy | hy
          · exact hz y hy
          · simp at hy; subst hy; exact i4) hr
        refine ⟨t :: ks, by simp, rfl, ?_, ?_, ?_, ?_, by simp [szL, Nat.add_assoc]⟩
        · intro y hy
          rcases List.mem_cons.1 hy with rfl | hy
          · exact i4
          · exact k3 y hy
        · intro y hy
          rcases List.mem_cons.1 hy with rfl | hy
          · rwa [decide_eq_false (by omega)] at i3
          · exact k4 y hy
        · intro i h1 h2
          by_cases hi : i = ts0.length
          · subst hi
            rw [← hl0]
            simp
          · exact k5 i (by simp; omega) h2
        · rw [layL, pre_append, lay_length]
          exact ⟨i5, k6⟩
theorem rdI_sound (ns : List NB) : ∀ (f : Nat) (pl : Int) (nx : Nat) (t : T) (n1 : Nat), rdI ns f pl nx = some (t, n1) → pl = nx ∧ nx < ns.length ∧ t.full (decide (nx = 0)) = true ∧ (∃ h, Ev h t) ∧ Pre ns nx (lay nx t) ∧ n1 = nx + t.size
  | 0, pl, nx, t, n1, h => by simp [rdI] at h
  | f + 1, pl, nx, t, n1, h => by
    rw [rdI] at h
    split at h
    · cases h
    · rename_i h0
      have hpl : pl = nx := by omega
      subst hpl
      have hlt : nx < ns.length := by omega
      have hn := nAt_some hlt
      generalize nAt ns nx = N at h hn
      obtain ⟨nps, nkeys, nkids⟩ := N
      refine ⟨rfl, hlt, ?_⟩
      split at h
      · rename_i hk
        have hk := List.eq_nil_of_length_eq_zero hk
        simp only at hk
        subst hk
        split at h
        · rename_i hl
          simp only [Option.some.injEq, Prod.mk.injEq] at h
          obtain ⟨rfl, rfl⟩ := h
          simp only [leafOk, Bool.not_eq_true', Bool.or_eq_false_iff, decide_eq_false_iff_not, Bool.and_eq_false_iff, Bool.not_eq_false', decide_eq_true_eq] at hl
          obtain ⟨⟨⟨l1, l2⟩, l3⟩, l4⟩ := hl
          have l4 := List.eq_nil_of_length_eq_zero l4
          subst l4
          refine ⟨?_, ⟨1, by simp [Ev]⟩, ?_, by simp [T.size, szL]⟩
          · simp only [T.full, if_true, Bool.and_eq_true, decide_eq_true_eq, Bool.or_eq_true]
            refine ⟨by omega, ?_⟩
            rcases l3 with l3 | l3
            · left; omega
            · by_cases h2 : 2 ≤ nps.length
              · exact .inl h2
              · right; exact ⟨by omega, by omega⟩
          · simp only [lay, if_true]
            exact pre_cons.2 ⟨hn, fun i hi => by simp at hi⟩
        · cases h
      · rename_i hk
        split at h
        · rename_i hb
          simp only [brOk, Bool.not_eq_true', Bool.or_eq_false_iff, decide_eq_false_iff_not, Bool.not_eq_false', decide_eq_true_eq] at hb
          obtain ⟨⟨⟨b1, b2⟩, b3⟩, b4⟩ := hb
          have b4 := List.eq_nil_of_length_eq_zero b4
          subst b4
          cases nkids with
          | nil => simp at b1
          | cons k kids =>
            cases e : rdIL (rdI ns f) nkeys [] (k :: kids) (nx + 1) with
            | none => simp [e] at h
            | some x =>
              obtain ⟨ts, n⟩ := x
              simp only [e, Option.some.injEq, Prod.mk.injEq] at h
              obtain ⟨rfl, rfl⟩ := h
              simp only [rdIL] at e
              cases e1 : rdI ns f k (nx + 1) with
              | none => simp [e1] at e
              | some y =>
                obtain ⟨t0, n1⟩ := y
                simp only [e1, List.length_nil, Nat.lt_irrefl, false_and, if_false, List.nil_append] at e
                obtain ⟨rfl, i2, i3, ⟨h', i4⟩, i5, rfl⟩ := rdI_sound ns f _ _ _ _ e1
                rw [decide_eq_false (by omega)] at i3
                obtain ⟨ks, rfl, rfl, k3, k4, k5, k6, rfl⟩ := rdIL_sound ns f (rdI_sound ns f) nkeys h' kids [t0] (nx + 1 + t0.size) ts n (by omega) (by simp) (by simp; exact i4) e
                have hpl : ∀ (ks : List T) (a : Nat), (places a ks).length = ks.length := by
                  intro ks; induction ks with
                  | nil => intro a; rfl
                  | cons k ks ih => intro a; simp [places, ih]
                simp only [List.length_cons, hpl] at b1 b2 b3
                have hkeys : nkeys = ks.map T.least := by
                  apply List.ext_getElem
                  · simp; omega
                  · intro i h1 h2
                    have := k5 (i + 1) (by simp) (by simp at h2 ⊢; omega)
                    simp at h2
                    simp [h1, h2] at this
                    simpa using this
                refine ⟨?_, ⟨h' + 1, .inr ⟨by simp, ?_⟩⟩, ?_, by simp [T.size, szL]; omega⟩
                · simp only [T.full, List.singleton_append, reduceCtorEq, if_false, Bool.and_eq_true, decide_eq_true_eq, List.length_cons, List.length_nil]
                  refine ⟨⟨⟨by omega, by omega⟩, trivial⟩, ?_⟩
                  simp only [fullL, i3, Bool.true_and]
                  exact (fullL_iff ks).2 k4
                · intro y hy
                  rcases List.mem_cons.1 hy with rfl | hy
                  · exact i4
                  · exact k3 y hy
                · simp only [lay, List.singleton_append, reduceCtorEq, if_false, List.tail_cons]
                  refine pre_cons.2 ⟨by rw [hn, hkeys]; rfl, ?_⟩
                  rw [layL, pre_append, lay_length]
                  exact ⟨i5, k6⟩
        · cases h
end Go.Proofs.YtjddkofpfmjojaaDoor
/-
  Which lists of nodes are right trees, said once for the program's way of reading and the specification's.
-/
namespace Go.Proofs.YtjddkofpfmjojaaDoor
open Go.RowKit

def pAtB (l : List PB) (i : Nat) : PB := l[i]?.getD (⟨#[]⟩, ⟨#[]⟩)
/-- The pairs are right from place k on. -/
def pOkF (l : List PB) : Nat → Nat → Bool
  | 0, _ => true
  | f + 1, k => kOk (pAtB l k).1 && vOk (pAtB l k).2 && (decide (k = 0) || Op.bytesLess (pAtB l (k - 1)).1.toList (pAtB l k).1.toList) && pOkF l f (k + 1)
def pOk (l : List PB) : Bool := decide (l.length ≤ 200) && pOkF l l.length 0
theorem pOk_len {l : List PB} (h : pOk l = true) : l.length ≤ 200 := by simp [pOk] at h; exact h.1
mutual
theorem full_all : ∀ (t : T), t.full false = true → t.size + 1 ≤ t.all.length
  | .mk ps ks, h => by
    by_cases hk : ks = []
    · subst hk
      have := full_lf h
      simp at this
      simp [T.size, szL, T.all, allL]
      omega
    · obtain ⟨h1, h2, rfl, h3⟩ := full_br h hk
      have := fullL_all ks h3
      simp [T.size, T.all]
      omega
theorem fullL_all : ∀ (ks : List T), (∀ k ∈ ks, k.full false = true) → szL ks + ks.length ≤ (allL ks).length
  | [], _ => by simp [szL]
  | k :: ks, h => by
    have h1 := full_all k (h k (by simp))
    have h2 := fullL_all ks (fun x hx => h x (by simp [hx]))
    simp [szL, allL]
    omega
end
theorem full_root {t : T} (h : t.full true = true) : t.size ≤ t.all.length := by
  obtain ⟨ps, ks⟩ := t
  by_cases hk : ks = []
  · subst hk
    have := full_lf h
    simp [T.size, szL, T.all, allL]
    omega
  · obtain ⟨h1, h2, rfl, h3⟩ := full_br h hk
    have := fullL_all ks h3
    simp [T.size, T.all]
    omega
theorem ev_size : ∀ (h : Nat) (t : T) (r : Bool), Ev h t → t.full r = true → 2 ^ h ≤ t.size + 1
  | 0, t, r, e, _ => e.elim
  | h + 1, .mk ps ks, r, e, hu => by
    rcases e with ⟨rfl, rfl⟩ | ⟨hk, e⟩
    · simp [T.size, szL]
    · obtain ⟨h1, h2, rfl, h3⟩ := full_br hu hk
      have : ∀ (l : List T), (∀ k ∈ l, k ∈ ks) → l.length * (2 ^ h - 1) ≤ szL l := by
        intro l
        induction l with
        | nil => simp [szL]
        | cons k l ih =>
          intro hl
          have a1 := ev_size h k false (e k (hl k (by simp))) (h3 k (hl k (by simp)))
          have a2 := ih (fun x hx => hl x (by simp [hx]))
          simp only [szL, List.length_cons, Nat.add_mul, Nat.one_mul]
          omega
      have a1 := this ks (fun _ h => h)
      have a2 : 2 * (2 ^ h - 1) ≤ ks.length * (2 ^ h - 1) := Nat.mul_le_mul_right _ h1
      have a3 : 0 < 2 ^ h := Nat.pos_of_ne_zero (by simp)
      simp only [T.size]
      rw [Nat.pow_succ]
      omega
theorem ev_le_size {h : Nat} {t : T} {r : Bool} (e : Ev h t) (hu : t.full r = true) : h ≤ t.size := by
  have h1 := ev_size h t r e hu
  have h2 : h < 2 ^ h := Nat.lt_two_pow_self
  omega
/-- The nodes ns are the right tree t. -/
structure Good (ns : List NB) (t : T) : Prop where
  full : t.full true = true
  even : ∃ h, Ev h t
  ok : pOk t.all = true
  laid : lay 0 t = ns
def okT (ns : List NB) : Option T :=
  if ns.length = 0 then some (.mk [] []) else if 400 ≤ ns.length then none else match rdI ns ns.length 0 0 with
    | none => none
    | some (t, n) => if n = ns.length ∧ pOk t.all = true then some t else none
theorem pre_self (ns : List NB) : Pre ns 0 ns := fun i _ => by simp
theorem pre_all {ns l : List NB} (h : Pre ns 0 l) (hl : l.length = ns.length) : l = ns := by
  apply List.ext_getElem?
  intro i
  by_cases hi : i < l.length
  · have := h i hi; simpa using this.symm
  · rw [List.getElem?_eq_none (by omega), List.getElem?_eq_none (by omega)]
theorem Good.len {ns : List NB} {t : T} (g : Good ns t) : ns.length = t.size ∧ ns.length ≤ 200 := by
  have h1 := full_root g.full
  have h2 := pOk_len g.ok
  have h3 := lay_length t 0
  rw [g.laid] at h3
  omega
theorem okT_good {ns : List NB} {t : T} (hne : ns.length ≠ 0) : okT ns = some t ↔ Good ns t := by
  constructor
  · intro h
    rw [okT, if_neg hne] at h
    split at h
    · cases h
    · split at h
      · cases h
      · rename_i x t' n hr
        split at h
        · rename_i hc
          cases h
          obtain ⟨_, _, h3, h4, h5, rfl⟩ := rdI_sound ns _ _ _ _ _ hr
          exact ⟨h3, h4, hc.2, pre_all h5 (by rw [lay_length]; omega)⟩
        · cases h
  · intro g
    obtain ⟨h, hh⟩ := g.even
    have hl := g.len
    have := rdI_some ns ns.length t h 0 hh g.full (by have := ev_le_size hh g.full; omega) (by rw [g.laid]; exact pre_self ns)
    rw [okT, if_neg hne, if_neg (by omega)]
    rw [show rdI ns ns.length 0 0 = some (t, 0 + t.size) from this]
    simp only
    rw [if_pos ⟨by omega, g.ok⟩]
instance : DecidableEq NB := fun a b => decidable_of_iff (a.ps = b.ps ∧ a.keys = b.keys ∧ a.kids = b.kids) (by cases a; cases b; simp)
/-- What the specification asks of the nodes. -/
def spOk (ns : List NB) : Bool :=
  if ns.length = 0 then true else if 400 < ns.length then false else match rdS ns 13 0 with
    | none => false
    | some (t, n) => decide (n = ns.length) && t.full true && decide (0 ≤ t.dp) && pOk t.all && decide (lay 0 t = ns)
theorem Good.read {ns : List NB} {t : T} (g : Good ns t) : rdS ns 13 0 = some (t, ns.length) := by
  obtain ⟨h, hh⟩ := g.even
  have hl := g.len
  have h1 := ev_size h t true hh g.full
  have h2 : h ≤ 13 := by
    rcases Nat.lt_or_ge 13 h with h3 | h3
    · have : 2 ^ 13 ≤ 2 ^ h := Nat.pow_le_pow_right (by omega) (by omega)
      have e : 2 ^ 13 = 8192 := by decide
      omega
    · exact h3
  have := rdS_some ns 13 t h 0 true hh g.full h2 (by rw [g.laid]; exact pre_self ns)
  rw [show rdS ns 13 0 = some (t, 0 + t.size) from this]
  simp; omega
theorem Good.dp {ns : List NB} {t : T} (g : Good ns t) : t.dp = t.lv := by
  obtain ⟨h, hh⟩ := g.even
  rw [ev_dp h t hh, ev_lv h t hh]
theorem spOk_eq (ns : List NB) : spOk ns = (okT ns).isSome := by
  by_cases hne : ns.length = 0
  · simp [spOk, okT, hne]
  · cases e : okT ns with
    | some t =>
      have g := (okT_good hne).1 e
      have hl := g.len
      have hd := g.dp
      simp only [spOk, hne, if_false, g.read, g.full, g.ok, g.laid]
      rw [if_neg (by omega)]
      simp
      omega
    | none =>
      rw [Option.isSome_none, Bool.eq_false_iff]
      intro h
      simp only [spOk, hne, if_false] at h
      split at h
      · cases h
      · split at h
        · cases h
        · rename_i x t n hr
          simp only [Bool.and_eq_true, decide_eq_true_eq] at h
          obtain ⟨⟨⟨⟨h1, h2⟩, h3⟩, h4⟩, h5⟩ := h
          have := (okT_good hne).2 ⟨h2, ⟨_, dp_ev t h3⟩, h4, h5⟩
          rw [e] at this
          cases this
end Go.Proofs.YtjddkofpfmjojaaDoor
/-
  What is read through a slice value, and in which blocks it lies; which blocks a stretch of the program may have turned.
-/
namespace Go.Proofs.YtjddkofpfmjojaaDoor
open Go.RowKit

/-- Of the blocks of w only those of R have turned in w'. -/
structure Only (R : Nat → Prop) (w w' : World) : Prop where
  os : w'.os = w.os
  tape : w'.tape = w.tape
  output : w'.output = w.output
  size : w.heap.size ≤ w'.heap.size
  block : ∀ b, b < w.heap.size → ¬ R b → w'.heap[b]? = w.heap[b]?
theorem Only.refl (R : Nat → Prop) (w : World) : Only R w w := ⟨rfl, rfl, rfl, Nat.le_refl _, fun _ _ _ => rfl⟩
theorem Only.trans {R : Nat → Prop} {a b c : World} (h : Only R a b) (k : Only R b c) : Only R a c :=
  ⟨k.os.trans h.os, k.tape.trans h.tape, k.output.trans h.output, Nat.le_trans h.size k.size, fun i hi hr => (k.block i (Nat.lt_of_lt_of_le hi h.size) hr).trans (h.block i hi hr)⟩
/-- What was made since a may turn. -/
theorem Only.then {R R' : Nat → Prop} {a b c : World} (h : Only R a b) (k : Only R' b c) (hr : ∀ i, i < a.heap.size → R' i → R i) : Only R a c :=
  ⟨k.os.trans h.os, k.tape.trans h.tape, k.output.trans h.output, Nat.le_trans h.size k.size, fun i hi hn => (k.block i (Nat.lt_of_lt_of_le hi h.size) (fun h' => hn (hr i hi h'))).trans (h.block i hi hn)⟩
theorem Only.mono {R R' : Nat → Prop} {a b : World} (h : Only R a b) (hr : ∀ i, i < a.heap.size → R i → R' i) : Only R' a b :=
  ⟨h.os, h.tape, h.output, h.size, fun i hi hn => h.block i hi (fun h' => hn (hr i hi h'))⟩
theorem only_of_below {w w' : World} (h : Below w.heap.size w w') (R : Nat → Prop) : Only R w w' := ⟨h.os, h.tape, h.output, h.size, fun b hb _ => h.block b hb⟩
theorem only_of_grown {w w' : World} {row : Option Nat} (h : w.grownBy w' row) {R : Nat → Prop} (hr : ∀ k, row = some k → R k) : Only R w w' :=
  ⟨h.os, h.tape, h.output, h.size, fun b hb hn => h.block b hb (fun e => hn (hr b e.symm))⟩
theorem Only.below {R : Nat → Prop} {w w' : World} {B : Nat} (h : Only R w w') (hB : B ≤ w.heap.size) (hr : ∀ b, b < B → ¬ R b) : Below B w w' := ⟨h.os, h.tape, h.output, h.size, fun b hb => h.block b (by omega) (hr b hb)⟩
theorem only_alloc (R : Nat → Prop) (w : World) (o : Obj) : Only R w (w.alloc o) := ⟨rfl, rfl, rfl, by simp, fun b hb _ => Below.heap_alloc _ _ _ hb⟩
theorem only_set {R : Nat → Prop} {w : World} {p : Addr} (h : R p.block) (u : Value) : Only R w (w.setCell p u) := ⟨rfl, rfl, rfl, by simp [World.setCell], fun b _ hn => Below.heap_setCell _ _ _ _ (fun e => hn (e ▸ h))⟩
theorem only_drew (R : Nat → Prop) (w : World) (q : Nat) : Only R w (w.drewN q) := ⟨rfl, rfl, rfl, Nat.le_refl _, fun _ _ _ => rfl⟩

/-- The slice value v leads in w to n elements whose cells are xs, in a block of S. -/
def Rw (w : World) (S : Nat → Prop) (v : Value) (n : Nat) (xs : List Value) : Prop :=
  ∃ a c, v = .slice a n c ∧ n ≤ c ∧ c ≤ 9223372036854775807 ∧ (n = 0 → xs = []) ∧ (a = none → c = 0) ∧ (0 < n → ∃ b off, a = some ⟨b, off, none⟩ ∧ b < w.heap.size ∧ S b ∧ ∀ j u, xs[j]? = some u → w.cell? ⟨b, off + j, none⟩ = some u)
theorem Rw.to {w w' : World} {S R : Nat → Prop} {v : Value} {n : Nat} {xs : List Value} (h : Rw w S v n xs) (ho : Only R w w') (hd : ∀ b, S b → b < w.heap.size → ¬ R b) : Rw w' S v n xs := by
  obtain ⟨a, c, h1, h2, h3, h4, hn, h5⟩ := h
  refine ⟨a, c, h1, h2, h3, h4, hn, fun hp => ?_⟩
  obtain ⟨b, off, h6, h7, h8, h9⟩ := h5 hp
  refine ⟨b, off, h6, Nat.lt_of_lt_of_le h7 ho.size, h8, fun j u hu => ?_⟩
  rw [← h9 j u hu]
  exact World.cell?_of_block (w := w) (ho.block b h7 (hd b h8 h7))
theorem Rw.mono {w : World} {S R : Nat → Prop} {v : Value} {n : Nat} {xs : List Value} (h : Rw w S v n xs) (hd : ∀ b, S b → b < w.heap.size → R b) : Rw w R v n xs := by
  obtain ⟨a, c, h1, h2, h3, h4, hn, h5⟩ := h
  refine ⟨a, c, h1, h2, h3, h4, hn, fun hp => ?_⟩
  obtain ⟨b, off, h6, h7, h8, h9⟩ := h5 hp
  exact ⟨b, off, h6, h7, hd b h8 h7, h9⟩
theorem rw_nil (w : World) (S : Nat → Prop) : Rw w S (.slice none 0 0) 0 [] := ⟨none, 0, rfl, Nat.le_refl _, by omega, fun _ => rfl, fun _ => rfl, fun h => by omega⟩
/-- What one owns is read. -/
theorem rw_own {w : World} {base : Nat} {e : TypeId} {size : Nat} {v : Value} {n : Nat} {xs : List Value} (h : w.ownsRow base e size v n xs) {S : Nat → Prop} (hS : ∀ k, v.ownBlock = some k → base ≤ k → k < w.heap.size → S k) : Rw w S v n xs := by
  have hlt := World.ownsRow.lt h
  have hc := fun g hg => World.ownsRow.cells h (g := g) hg
  obtain ⟨h1, h2⟩ := h
  rcases h2 with ⟨rfl, rfl⟩ | ⟨g, cap, cur, rfl, h3, h4, h5, h6, h7, h8⟩
  · have : xs = [] := List.eq_nil_of_length_eq_zero (by omega)
    subst this
    exact rw_nil w S
  · refine ⟨_, cap, rfl, h5, by unfold maxLen at h6; omega, fun h0 => List.eq_nil_of_length_eq_zero (by rw [h1, h0]; omega), fun h => by (cases h), fun _ => ⟨g, 0, rfl, (hlt g rfl).2, hS g rfl h3 (hlt g rfl).2, fun j u hu => ?_⟩⟩
    have := hc g rfl j u hu
    rwa [Addr.add_lit] at this
theorem own_kept {w w' : World} {R : Nat → Prop} {base : Nat} {e : TypeId} {size : Nat} {v : Value} {n : Nat} {xs : List Value} (h : w.ownsRow base e size v n xs) (ho : Only R w w') (hR : ∀ k, v.ownBlock = some k → ¬ R k) : w'.ownsRow base e size v n xs := by
  have hlt := World.ownsRow.lt h
  obtain ⟨h1, h2⟩ := h
  refine ⟨h1, ?_⟩
  rcases h2 with h2 | ⟨g, cap, cur, rfl, h3, h4, h5⟩
  · exact .inl h2
  · exact .inr ⟨g, cap, cur, rfl, h3, (ho.block g (hlt g rfl).2 (hR g rfl)).trans h4, h5⟩
theorem own_shape {w : World} {base : Nat} {e : TypeId} {size : Nat} {v : Value} {n : Nat} {xs : List Value} (h : w.ownsRow base e size v n xs) : ∃ a c, v = .slice a n c := by
  rcases h.2 with ⟨rfl, rfl⟩ | ⟨g, cap, cur, rfl, _⟩
  · exact ⟨none, 0, rfl⟩
  · exact ⟨_, cap, rfl⟩

/-- append(dst, src...): dst a row of one's own, src any row. -/
theorem run_append_row {P : Program} {w : World} (base : Nat) (t ty e : TypeId) (i : TypeInfo) (z : Value) (size bytes : Nat) (ht : P.underlying t = some (.slice e)) (hi : P.info? e = some i) (hz : i.zero = some z)
    (hsize : i.size = size) (hby : i.bytes = bytes) (hzs : z.cells.size = size) (hsz : 0 < size) (v : Value) (n : Nat) (xs : List Value) (hown : w.ownsRow base e size v n xs)
    (S : Nat → Prop) (src : Value) (m : Nat) (news : List Value) (hsrc : Rw w S src m news) (hl : news.length = m * size) (h1 : ∀ u ∈ news, u.oneCell' = true)
    (h63 : n + m ≤ maxLen) (hbytes : (n + m) * bytes ≤ 140737488355328) (hbase : base ≤ w.heap.size) :
    ∃ v' w', (Builtin.append_ #[t, t] ty #[v, src]).run P w = .ok v' w' ∧ w'.ownsRow base e size v' (n + m) (xs ++ news) ∧ w.grownBy w' v.ownBlock := by
  obtain ⟨a, c, rfl, h2, h3, h4, hn, h5⟩ := hsrc
  by_cases hm : 0 < m
  · obtain ⟨b, off, rfl, hb, hS, hc⟩ := h5 hm
    obtain ⟨v', w', hr, ho, hg, _⟩ := run_append_own w base t ty e i z size bytes ht hi hz hsize hby hzs hsz v n xs hown ⟨b, off, none⟩ m c news hl (fun j u hu => by rw [Addr.add_lit]; exact hc j u hu) h1 h63 hbytes hbase
    exact ⟨v', w', hr, ho, hg⟩
  · obtain rfl : m = 0 := by omega
    obtain rfl := h4 rfl
    cases a with
    | some ad =>
      obtain ⟨v', w', hr, ho, hg, _⟩ := run_append_own w base t ty e i z size bytes ht hi hz hsize hby hzs hsz v n xs hown ad 0 c [] hl (fun j u hu => by simp at hu) h1 h63 hbytes hbase
      exact ⟨v', w', hr, ho, hg⟩
    | none =>
      obtain rfl := hn rfl
      have hrun := run_append_owned_none (P := P) (w := w) base t ty e i size ht hi v n xs hown
      exact ⟨v, w, hrun, by simpa using hown, ⟨rfl, rfl, rfl, Nat.le_refl _, fun _ _ _ => rfl⟩⟩
theorem wpList_append_row {P : Program} {w : World} {ops : Array Oper} {rest : List Oper} {o : Oper} {a : Act} {Q : Exit → Act → World → Prop} (hgd : o.guard = none) (s x : Operand) (t : TypeId)
    (ho : o.op = .call { callee := .builtin .append, args := #[s, x], argTypes := #[t, t] })
    (base : Nat) (e : TypeId) (i : TypeInfo) (z : Value) (size bytes : Nat) (ht : P.underlying t = some (.slice e)) (hi : P.info? e = some i) (hz : i.zero = some z)
    (hsize : i.size = size) (hby : i.bytes = bytes) (hzs : z.cells.size = size) (hsz : 0 < size) (v : Value) (n : Nat) (xs : List Value) (hs : a.eval s = v) (hown : w.ownsRow base e size v n xs)
    (S : Nat → Prop) (src : Value) (m : Nat) (news : List Value) (hx : a.eval x = src) (hsrc : Rw w S src m news) (hl : news.length = m * size) (h1 : ∀ u ∈ news, u.oneCell' = true)
    (h63 : n + m ≤ maxLen) (hbytes : (n + m) * bytes ≤ 140737488355328) (hbase : base ≤ w.heap.size)
    (h : ∀ v' w', w'.ownsRow base e size v' (n + m) (xs ++ news) → w.grownBy w' v.ownBlock → wpList P ops Q rest (a.put o.dst v') w') : wpList P ops Q (o :: rest) a w := by
  refine wpList_plain hgd fun K hK => ?_
  obtain ⟨v', w', hr, h2, h3⟩ := run_append_row (P := P) (w := w) base t o.type e i z size bytes ht hi hz hsize hby hzs hsz v n xs hown S src m news hsrc hl h1 h63 hbytes hbase
  unfold Oper.wp execOp
  simp only [ho, resolve, invoke, builtin, Sem.run_bind, Sem.run_pure, Result.andThen_ok, List.map_toArray, List.map_cons, List.map_nil, hs, hx, hr]
  exact hK _ _ (h v' w' h2 h3)

/-- The cells of a list of pairs. -/
def pcs : List PB → List Value
  | [] => []
  | p :: ps => .string p.1 :: .string p.2 :: pcs ps
theorem pcs_length (ps : List PB) : (pcs ps).length = ps.length * 2 := by
  induction ps with
  | nil => rfl
  | cons p ps ih => simp only [pcs, List.length_cons, ih]; omega
theorem pcs_append (ps qs : List PB) : pcs (ps ++ qs) = pcs ps ++ pcs qs := by
  induction ps with
  | nil => rfl
  | cons p ps ih => simp only [pcs, List.cons_append, ih]
theorem pcs_one (ps : List PB) : ∀ u ∈ pcs ps, u.oneCell' = true := by
  induction ps with
  | nil => intro u hu; cases hu
  | cons p ps ih =>
    intro u hu
    simp only [pcs, List.mem_cons] at hu
    rcases hu with rfl | rfl | hu
    · rfl
    · rfl
    · exact ih u hu
theorem pcs_at (ps : List PB) : ∀ i, i < ps.length → (pcs ps)[i * 2]? = some (.string (pAtB ps i).1) ∧ (pcs ps)[i * 2 + 1]? = some (.string (pAtB ps i).2) := by
  induction ps with
  | nil => intro i h; exact absurd h (Nat.not_lt_zero _)
  | cons p ps ih =>
    intro i h
    cases i with
    | zero => exact ⟨rfl, rfl⟩
    | succ i =>
      have := ih i (by simpa using h)
      have e : (i + 1) * 2 = i * 2 + 2 := by omega
      rw [e]
      exact this
/-- The slice value v leads to the pairs ps. -/
def Pr (w : World) (S : Nat → Prop) (v : Value) (ps : List PB) : Prop := Rw w S v ps.length (pcs ps)
theorem Pr.cell {w : World} {S : Nat → Prop} {v : Value} {ps : List PB} (h : Pr w S v ps) (hp : 0 < ps.length) : ∃ b off c, v = .slice (some ⟨b, off, none⟩) ps.length c ∧ S b ∧ b < w.heap.size ∧
    ∀ i, i < ps.length → w.cell? ⟨b, off + i * 2, none⟩ = some (.string (pAtB ps i).1) ∧ w.cell? ⟨b, off + i * 2 + 1, none⟩ = some (.string (pAtB ps i).2) := by
  obtain ⟨a, c, rfl, h2, h3, h4, hn, h5⟩ := h
  obtain ⟨b, off, rfl, h7, h8, h9⟩ := h5 hp
  refine ⟨b, off, c, rfl, h8, h7, fun i hi => ?_⟩
  obtain ⟨e1, e2⟩ := pcs_at ps i hi
  exact ⟨h9 _ _ e1, h9 _ _ e2⟩
theorem Rw.shape {w : World} {S : Nat → Prop} {v : Value} {n : Nat} {xs : List Value} (h : Rw w S v n xs) : ∃ a c, v = .slice a n c ∧ n ≤ c ∧ c ≤ 9223372036854775807 := by
  obtain ⟨a, c, h1, h2, h3, _⟩ := h
  exact ⟨a, c, h1, h2, h3⟩
theorem Rw.len {w : World} {S : Nat → Prop} {a : Option Addr} {n m c : Nat} {xs : List Value} (h : Rw w S (.slice a n c) m xs) : n = m ∧ n ≤ c ∧ c ≤ 9223372036854775807 := by
  obtain ⟨a', c', h1, h2, h3, _⟩ := h
  cases h1
  exact ⟨rfl, h2, h3⟩
theorem Pr.shape {w : World} {S : Nat → Prop} {v : Value} {ps : List PB} (h : Pr w S v ps) : ∃ a c, v = .slice a ps.length c ∧ ps.length ≤ c ∧ c ≤ 9223372036854775807 := Rw.shape h
theorem Pr.at {w : World} {S : Nat → Prop} {a : Option Addr} {n c : Nat} {ps : List PB} (h : Pr w S (.slice a n c) ps) (hp : 0 < n) : ∃ b off, a = some ⟨b, off, none⟩ ∧ S b ∧ b < w.heap.size ∧
    ∀ i, i < n → w.cell? ⟨b, off + i * 2, none⟩ = some (.string (pAtB ps i).1) ∧ w.cell? ⟨b, off + i * 2 + 1, none⟩ = some (.string (pAtB ps i).2) := by
  have hn := (Rw.len h).1
  obtain ⟨b, off, c', hv, h1, h2, h3⟩ := h.cell (by omega)
  cases hv
  exact ⟨b, off, rfl, h1, h2, h3⟩
end Go.Proofs.YtjddkofpfmjojaaDoor
/-
  PairsOk of the program and of the specification: both answer pOk.
-/
namespace Go.Proofs.YtjddkofpfmjojaaDoor
open Go.RowKit

theorem pOkF_k (l : List PB) (f k : Nat) (h : kOk (pAtB l k).1 = false) : pOkF l (f + 1) k = false := by simp [pOkF, h]
theorem pOkF_v (l : List PB) (f k : Nat) (h : vOk (pAtB l k).2 = false) : pOkF l (f + 1) k = false := by simp [pOkF, h]
theorem pOkF_0 (l : List PB) (f : Nat) (h : kOk (pAtB l 0).1 = true) (h2 : vOk (pAtB l 0).2 = true) : pOkF l (f + 1) 0 = pOkF l f 1 := by simp [pOkF, h, h2]
theorem pOkF_s (l : List PB) (f j : Nat) (h : kOk (pAtB l (j + 1)).1 = true) (h2 : vOk (pAtB l (j + 1)).2 = true) (b : Bool) (h3 : Op.bytesLess (pAtB l j).1.toList (pAtB l (j + 1)).1.toList = b) : pOkF l (f + 1) (j + 1) = (b && pOkF l f (j + 1 + 1)) := by
  simp only [pOkF, h, h2, Nat.add_sub_cancel, h3]; simp
theorem Pr.below {w w' : World} {S : Nat → Prop} {v : Value} {ps : List PB} (h : Pr w S v ps) (hb : Below w.heap.size w w') : Pr w' S v ps := Rw.to h (only_of_below hb (fun _ => False)) (fun _ _ _ h => h)
end Go.Proofs.YtjddkofpfmjojaaDoor
/-
  Cells that are kept, with all else that was there, while a stretch of the program reads and calls in an order that is not known.
-/
namespace Go.Proofs.YtjddkofpfmjojaaDoor
open Go.RowKit
structure KC (u v : World) (cs : List (Addr × Value)) : Prop where
  cells : ∀ p ∈ cs, u.cell? p.1 = some p.2
  bel : Below u.heap.size u v
theorem KC.at {u v : World} {cs : List (Addr × Value)} (h : KC u v cs) {a : Addr} {x : Value} (hp : (a, x) ∈ cs) : v.cell? a = some x := by
  have hc := h.cells (a, x) hp
  rw [h.bel.cell (p := a) (block_lt hc)]
  exact hc
theorem KC.call {u v v' : World} {cs : List (Addr × Value)} (h : KC u v cs) (k : Below v.heap.size v v') : KC u v' cs := ⟨h.cells, h.bel.trans (k.mono h.bel.size)⟩
theorem kc2 {u v : World} {a0 a1 : Addr} {x0 x1 : Value} (h : KC u v [(a0, x0), (a1, x1)]) : v.cell? a0 = some x0 ∧ v.cell? a1 = some x1 ∧ KC u v [(a0, x0), (a1, x1)] := ⟨h.at (by simp), h.at (by simp), h⟩
theorem kc3 {u v : World} {a0 a1 a2 : Addr} {x0 x1 x2 : Value} (h : KC u v [(a0, x0), (a1, x1), (a2, x2)]) : v.cell? a0 = some x0 ∧ v.cell? a1 = some x1 ∧ v.cell? a2 = some x2 ∧ KC u v [(a0, x0), (a1, x1), (a2, x2)] := ⟨h.at (by simp), h.at (by simp), h.at (by simp), h⟩
theorem kc4 {u v : World} {a0 a1 a2 a3 : Addr} {x0 x1 x2 x3 : Value} (h : KC u v [(a0, x0), (a1, x1), (a2, x2), (a3, x3)]) : v.cell? a0 = some x0 ∧ v.cell? a1 = some x1 ∧ v.cell? a2 = some x2 ∧ v.cell? a3 = some x3 ∧ KC u v [(a0, x0), (a1, x1), (a2, x2), (a3, x3)] := ⟨h.at (by simp), h.at (by simp), h.at (by simp), h.at (by simp), h⟩
theorem kc5 {u v : World} {a0 a1 a2 a3 a4 : Addr} {x0 x1 x2 x3 x4 : Value} (h : KC u v [(a0, x0), (a1, x1), (a2, x2), (a3, x3), (a4, x4)]) : v.cell? a0 = some x0 ∧ v.cell? a1 = some x1 ∧ v.cell? a2 = some x2 ∧ v.cell? a3 = some x3 ∧ v.cell? a4 = some x4 ∧ KC u v [(a0, x0), (a1, x1), (a2, x2), (a3, x3), (a4, x4)] := ⟨h.at (by simp), h.at (by simp), h.at (by simp), h.at (by simp), h.at (by simp), h⟩
theorem kc6 {u v : World} {a0 a1 a2 a3 a4 a5 : Addr} {x0 x1 x2 x3 x4 x5 : Value} (h : KC u v [(a0, x0), (a1, x1), (a2, x2), (a3, x3), (a4, x4), (a5, x5)]) : v.cell? a0 = some x0 ∧ v.cell? a1 = some x1 ∧ v.cell? a2 = some x2 ∧ v.cell? a3 = some x3 ∧ v.cell? a4 = some x4 ∧ v.cell? a5 = some x5 ∧ KC u v [(a0, x0), (a1, x1), (a2, x2), (a3, x3), (a4, x4), (a5, x5)] := ⟨h.at (by simp), h.at (by simp), h.at (by simp), h.at (by simp), h.at (by simp), h.at (by simp), h⟩
theorem kc0_2 {u : World} {a0 a1 : Addr} {x0 x1 : Value} (h0 : u.cell? a0 = some x0) (h1 : u.cell? a1 = some x1) : KC u u [(a0, x0), (a1, x1)] :=
  ⟨fun p hp => by simp at hp; rcases hp with rfl | rfl <;> assumption, Below.refl _ _⟩
theorem kc0_3 {u : World} {a0 a1 a2 : Addr} {x0 x1 x2 : Value} (h0 : u.cell? a0 = some x0) (h1 : u.cell? a1 = some x1) (h2 : u.cell? a2 = some x2) : KC u u [(a0, x0), (a1, x1), (a2, x2)] :=
  ⟨fun p hp => by simp at hp; rcases hp with rfl | rfl | rfl <;> assumption, Below.refl _ _⟩
theorem kc0_4 {u : World} {a0 a1 a2 a3 : Addr} {x0 x1 x2 x3 : Value} (h0 : u.cell? a0 = some x0) (h1 : u.cell? a1 = some x1) (h2 : u.cell? a2 = some x2) (h3 : u.cell? a3 = some x3) : KC u u [(a0, x0), (a1, x1), (a2, x2), (a3, x3)] :=
  ⟨fun p hp => by simp at hp; rcases hp with rfl | rfl | rfl | rfl <;> assumption, Below.refl _ _⟩
theorem kc0_6 {u : World} {a0 a1 a2 a3 a4 a5 : Addr} {x0 x1 x2 x3 x4 x5 : Value} (h0 : u.cell? a0 = some x0) (h1 : u.cell? a1 = some x1) (h2 : u.cell? a2 = some x2) (h3 : u.cell? a3 = some x3) (h4 : u.cell? a4 = some x4) (h5 : u.cell? a5 = some x5) : KC u u [(a0, x0), (a1, x1), (a2, x2), (a3, x3), (a4, x4), (a5, x5)] :=
  ⟨fun p hp => by simp at hp; rcases hp with rfl | rfl | rfl | rfl | rfl | rfl <;> assumption, Below.refl _ _⟩
theorem kc2c {u v v' : World} {a0 a1 : Addr} {x0 x1 : Value} (k : Below v.heap.size v v') (h : v.cell? a0 = some x0 ∧ v.cell? a1 = some x1 ∧ KC u v [(a0, x0), (a1, x1)]) : v'.cell? a0 = some x0 ∧ v'.cell? a1 = some x1 ∧ KC u v' [(a0, x0), (a1, x1)] := kc2 (KC.call h.2.2 k)
theorem kc3c {u v v' : World} {a0 a1 a2 : Addr} {x0 x1 x2 : Value} (k : Below v.heap.size v v') (h : v.cell? a0 = some x0 ∧ v.cell? a1 = some x1 ∧ v.cell? a2 = some x2 ∧ KC u v [(a0, x0), (a1, x1), (a2, x2)]) : v'.cell? a0 = some x0 ∧ v'.cell? a1 = some x1 ∧ v'.cell? a2 = some x2 ∧ KC u v' [(a0, x0), (a1, x1), (a2, x2)] := kc3 (KC.call h.2.2.2 k)
theorem kc4c {u v v' : World} {a0 a1 a2 a3 : Addr} {x0 x1 x2 x3 : Value} (k : Below v.heap.size v v') (h : v.cell? a0 = some x0 ∧ v.cell? a1 = some x1 ∧ v.cell? a2 = some x2 ∧ v.cell? a3 = some x3 ∧ KC u v [(a0, x0), (a1, x1), (a2, x2), (a3, x3)]) : v'.cell? a0 = some x0 ∧ v'.cell? a1 = some x1 ∧ v'.cell? a2 = some x2 ∧ v'.cell? a3 = some x3 ∧ KC u v' [(a0, x0), (a1, x1), (a2, x2), (a3, x3)] := kc4 (KC.call h.2.2.2.2 k)
theorem kc5c {u v v' : World} {a0 a1 a2 a3 a4 : Addr} {x0 x1 x2 x3 x4 : Value} (k : Below v.heap.size v v') (h : v.cell? a0 = some x0 ∧ v.cell? a1 = some x1 ∧ v.cell? a2 = some x2 ∧ v.cell? a3 = some x3 ∧ v.cell? a4 = some x4 ∧ KC u v [(a0, x0), (a1, x1), (a2, x2), (a3, x3), (a4, x4)]) : v'.cell? a0 = some x0 ∧ v'.cell? a1 = some x1 ∧ v'.cell? a2 = some x2 ∧ v'.cell? a3 = some x3 ∧ v'.cell? a4 = some x4 ∧ KC u v' [(a0, x0), (a1, x1), (a2, x2), (a3, x3), (a4, x4)] := kc5 (KC.call h.2.2.2.2.2 k)
theorem kc6c {u v v' : World} {a0 a1 a2 a3 a4 a5 : Addr} {x0 x1 x2 x3 x4 x5 : Value} (k : Below v.heap.size v v') (h : v.cell? a0 = some x0 ∧ v.cell? a1 = some x1 ∧ v.cell? a2 = some x2 ∧ v.cell? a3 = some x3 ∧ v.cell? a4 = some x4 ∧ v.cell? a5 = some x5 ∧ KC u v [(a0, x0), (a1, x1), (a2, x2), (a3, x3), (a4, x4), (a5, x5)]) : v'.cell? a0 = some x0 ∧ v'.cell? a1 = some x1 ∧ v'.cell? a2 = some x2 ∧ v'.cell? a3 = some x3 ∧ v'.cell? a4 = some x4 ∧ v'.cell? a5 = some x5 ∧ KC u v' [(a0, x0), (a1, x1), (a2, x2), (a3, x3), (a4, x4), (a5, x5)] := kc6 (KC.call h.2.2.2.2.2.2 k)
end Go.Proofs.YtjddkofpfmjojaaDoor
/-
  What the law's helpers do with pairs and slices of pairs: sizes summed, copied, held against each other.
-/
namespace Go.Proofs.YtjddkofpfmjojaaDoor
open Go.RowKit

/-- Block g is a row with the cells xs. -/
def Bk (w : World) (g : Nat) (T : TypeId) (xs : List Value) : Prop := w.heap[g]? = some (.cells xs.toArray T (0, 0))
theorem Bk.lt {w : World} {g : Nat} {T : TypeId} {xs : List Value} (h : Bk w g T xs) : g < w.heap.size := (Array.getElem?_eq_some_iff.1 h).1
theorem Bk.to {w w' : World} {g : Nat} {T : TypeId} {xs : List Value} {R : Nat → Prop} (h : Bk w g T xs) (ho : Only R w w') (hR : ¬ R g) : Bk w' g T xs := (ho.block g h.lt hR).trans h
theorem Bk.below {w w' : World} {g : Nat} {T : TypeId} {xs : List Value} (h : Bk w g T xs) (hb : Below w.heap.size w w') : Bk w' g T xs := (hb.block g h.lt).trans h
theorem Bk.new (w : World) (T : TypeId) (xs : List Value) : Bk (w.alloc (.cells xs.toArray T)) w.heap.size T xs := heap_alloc_new w _
theorem Bk.cell {w : World} {g : Nat} {T : TypeId} {xs : List Value} (h : Bk w g T xs) {j : Nat} {u : Value} (hu : xs[j]? = some u) : w.cell? ⟨g, j, none⟩ = some u := by
  have h' : w.heap[g]? = some (.cells xs.toArray T (0, 0)) := h
  simp [World.cell?, h', hu]
theorem Bk.free {w : World} {g : Nat} {T : TypeId} {xs : List Value} (h : Bk w g T xs) (j : Nat) : w.frozen? ⟨g, j, none⟩ = false := by
  have h' : w.heap[g]? = some (.cells xs.toArray T (0, 0)) := h
  simp [World.frozen?, h']
theorem Bk.set {w : World} {g : Nat} {T : TypeId} {xs : List Value} (h : Bk w g T xs) (o : Nat) (x : Value) : Bk (w.setCell ⟨g, o, none⟩ x) g T (xs.set o x) := by
  have h' : w.heap[g]? = some (.cells xs.toArray T (0, 0)) := h
  show (w.setCell ⟨g, o, none⟩ x).heap[g]? = _
  simp [World.setCell, Array.getElem?_modify, h']
theorem Bk.setOther {w : World} {g : Nat} {T : TypeId} {xs : List Value} (h : Bk w g T xs) {b : Nat} (hb : g ≠ b) (o : Nat) (x : Value) : Bk (w.setCell ⟨b, o, none⟩ x) g T xs := by
  show (w.setCell ⟨b, o, none⟩ x).heap[g]? = _
  rw [Below.heap_setCell _ _ _ _ hb]
  exact h
theorem Bk.alloc {w : World} {g : Nat} {T : TypeId} {xs : List Value} (h : Bk w g T xs) (o : Obj) : Bk (w.alloc o) g T xs := by
  show (w.alloc o).heap[g]? = _
  rw [Below.heap_alloc _ _ _ h.lt]
  exact h
theorem Bk.rw {w : World} {g : Nat} {T : TypeId} {xs : List Value} {n c : Nat} (h : Bk w g T xs) (hn : n ≤ c) (hc : c ≤ 9223372036854775807) (h0 : n = 0 → xs = []) (S : Nat → Prop) (hS : S g) : Rw w S (.slice (some ⟨g, 0, none⟩) n c) n xs :=
  ⟨_, c, rfl, hn, hc, h0, fun h => by (cases h), fun _ => ⟨g, 0, rfl, h.lt, hS, fun j u hu => by rw [Nat.zero_add]; exact h.cell hu⟩⟩
theorem Bk.pr {w : World} {g n : Nat} {T : TypeId} {ps : List PB} (h : Bk w g T (pcs ps)) (hn : n = ps.length) (hc : n ≤ 9223372036854775807) (S : Nat → Prop) (hS : S g) : Pr w S (.slice (some ⟨g, 0, none⟩) n n) ps := by
  subst hn
  exact h.rw (Nat.le_refl _) hc (fun h0 => by rw [List.eq_nil_of_length_eq_zero h0]; rfl) S hS
theorem pcs_set (ps : List PB) (p : PB) : ∀ j, j < ps.length → pcs (ps.set j p) = ((pcs ps).set (j * 2) (.string p.1)).set (j * 2 + 1) (.string p.2) := by
  induction ps with
  | nil => intro j h; exact absurd h (Nat.not_lt_zero _)
  | cons q ps ih =>
    intro j h
    cases j with
    | zero => rfl
    | succ j =>
      have := ih j (by simpa using h)
      rw [show (j + 1) * 2 = j * 2 + 2 by omega, show j * 2 + 2 + 1 = j * 2 + 1 + 2 by omega]
      show Value.string q.1 :: Value.string q.2 :: pcs (ps.set j p) = _
      rw [this]
      rfl
theorem infoPairI : (Tryd.prog.info? 76).map (fun i => (i.zero, i.size, i.bytes)) = some (some (.agg #[.string ⟨#[]⟩, .string ⟨#[]⟩]), 2, 32) := by kernel_rfl
/-- make([]T, n). -/
theorem run_make_n {P : Program} (t e : TypeId) (z : Value) (size bytes : Nat) (ht : P.underlying t = some (.slice e)) (hinfo : (P.info? e).map (fun i => (i.zero, i.size, i.bytes)) = some (some z, size, bytes)) (n : Nat) (hb : bytes * n ≤ 281474976710656) (h63 : n ≤ 9223372036854775807) (w : World) :
    (Instr.makeSlice t (.int .i64 (n : Int)) (.int .i64 (n : Int))).run P w = .ok (.slice (some ⟨w.heap.size, 0, none⟩) n n) (w.alloc (.cells (madeCells z.cells (n * size)) e)) := by
  obtain ⟨i, hi, hz⟩ := Option.map_eq_some_iff.1 hinfo
  simp only [Prod.mk.injEq] at hz
  obtain ⟨hz, rfl, rfl⟩ := hz
  have hb' : (i.bytes : Int) * (n : Int) ≤ 281474976710656 := by
    have h : ((i.bytes * n : Nat) : Int) ≤ 281474976710656 := by omega
    rwa [Int.natCast_mul] at h
  have := run_make (P := P) w t e i z ht hi hz .i64 .i64 n n (by omega) (Int.le_refl _) hb' (by omega)
  simpa using this
theorem made_pairs (n : Nat) : madeCells (Value.agg #[.string ⟨#[]⟩, .string ⟨#[]⟩]).cells (n * 2) = (pcs (List.replicate n (⟨#[]⟩, ⟨#[]⟩))).toArray := by
  apply Array.ext
  · simp [madeCells, pcs_length]
  · intro i h1 h2
    simp [pcs_length] at h2
    simp only [madeCells, List.getElem_toArray]
    have h3 : (pcs (List.replicate n ((⟨#[]⟩, ⟨#[]⟩) : PB)))[i]? = some (.string ⟨#[]⟩) := by
      rcases Nat.mod_two_eq_zero_or_one i with e | e
      · have := (pcs_at (List.replicate n ((⟨#[]⟩, ⟨#[]⟩) : PB)) (i / 2) (by simp; omega)).1
        rw [show i / 2 * 2 = i by omega] at this
        rw [this]
        simp [pAtB, show i / 2 < n by omega]
      · have := (pcs_at (List.replicate n ((⟨#[]⟩, ⟨#[]⟩) : PB)) (i / 2) (by simp; omega)).2
        rw [show i / 2 * 2 + 1 = i by omega] at this
        rw [this]
        simp [pAtB, show i / 2 < n by omega]
    have h4 := List.getElem?_eq_some_iff.1 h3
    rw [h4.2]
    rcases Nat.mod_two_eq_zero_or_one i with e | e <;> simp [Value.cells, e]
/-- The pairs as far as copied. -/
def ptP (l : List PB) (k : Nat) : List PB := l.take k ++ List.replicate (l.length - k) (⟨#[]⟩, ⟨#[]⟩)
theorem ptP_length (l : List PB) (k : Nat) (h : k ≤ l.length) : (ptP l k).length = l.length := by simp [ptP]; omega
theorem ptP_set (l : List PB) (k : Nat) (h : k < l.length) : (ptP l k).set k (pAtB l k) = ptP l (k + 1) := by
  have e : pAtB l k = l[k] := by simp [pAtB, h]
  rw [e]
  have hl : (l.take k).length = k := by simp; omega
  simp only [ptP]
  rw [List.set_append_right _ _ (by omega), hl]
  have h2 : l.length - k = (l.length - (k + 1)) + 1 := by omega
  rw [List.take_succ_eq_append_getElem h, h2, List.replicate_succ, Nat.sub_self, List.set_cons_zero, List.append_assoc]
  rfl
theorem load_pair {w : World} {g : Nat} {k v : ByteArray} (c0 : w.cell? ⟨g, 0, none⟩ = some (.string k)) (c1 : w.cell? ⟨g, 1, none⟩ = some (.string v)) :
    (loadVar 76 ⟨g, 0, none⟩).run Tryd.prog w = .ok (.agg #[.string k, .string v]) w := by go_simp
theorem results_pair {fn : Func} {p : Tmp} (h : fn.results = #[.cell p 76]) (tmps : Array Value) (w : World) (g : Nat) {k v : ByteArray} (hp : tmps.getD p undef = .pointer (some ⟨g, 0, none⟩))
    (c0 : w.cell? ⟨g, 0, none⟩ = some (.string k)) (c1 : w.cell? ⟨g, 1, none⟩ = some (.string v)) : (results fn tmps).run Tryd.prog w = .ok (.agg #[.string k, .string v]) w := by
  have hp' : tmps[p]?.getD undef = .pointer (some ⟨g, 0, none⟩) := by simpa using hp
  simp [results, h, hp', asAddr, load_pair c0 c1]
theorem toPair_any (k v : ByteArray) (w : World) : Calls Tryd.prog 56 #[.agg #[.string k, .string v]] w fun e w' => e = .returned (.agg #[.string k, .string v]) ∧ Below w.heap.size w w' := by
  go_enter Tryd.func56, Tryd.ntmps56
  go_wp2
  try simp only [Exit.inBlock, Exit.then]
  refine bodyPost_ret (v := .agg #[.string k, .string v]) ?_ rfl ?_
  · refine results_pair rfl _ _ _ rfl ?_ ?_
    · go_simp
    · go_simp
  · exact ⟨rfl, below_new (below_new (below_new (Below.refl _ _)))⟩
set_option maxHeartbeats 2000000 in
theorem toPairS_at (S : Nat → Prop) (a : Option Addr) (n c : Nat) (l : List PB) (w : World) (h : Pr w S (.slice a n c) l) (hnm : n ≤ 1048576) :
    Calls Tryd.prog 35 #[.slice a n c] w fun e w' => e = .returned (.slice (some ⟨w.heap.size, 0, none⟩) n n) ∧ Bk w' w.heap.size 76 (pcs l) ∧ Below w.heap.size w w' := by
  have HN := hid (Rw.len h).1
  have H0 := hid h
  clear h
  have hmk := run_make_n (P := Tryd.prog) 51 76 (.agg #[.string ⟨#[]⟩, .string ⟨#[]⟩]) 2 32 Tryd.underlying51 infoPairI n (by omega) (by omega)
  rw [made_pairs] at hmk
  have HM : Hid (pcs (List.replicate n (⟨#[]⟩, ⟨#[]⟩)) = pcs (ptP l 0)) := by
    show _ = _
    rw [HN.out]; simp [ptP]
  rw [HM.out] at hmk
  have h63 : n ≤ 9223372036854775807 := by omega
  go_enter Tryd.func35, Tryd.ntmps35
  go_wp2
  go_loopw [4] (fun i wr => ∃ k : Nat, k ≤ n ∧ i = .int .i64 k ∧ Hid (Bk wr w.heap.size 76 (pcs (ptP l k))) ∧ Hid (Below w.heap.size w wr)) (fun i _ => n - (intOf i).toNat)
  case atStart => exact ⟨0, Nat.zero_le _, rfl, Bk.new _ _ _, (Below.refl _ _).alloc (Nat.le_refl _) _⟩
  case round =>
    obtain ⟨k, hk, rfl, HK, HB⟩ := hrel
    by_cases hlt : k < n
    · have hlt' : (k : Int) < (n : Int) := by omega
      have HP := hid (H0.out.below HB.out)
      obtain ⟨b, off, rfl, _, hbw, hcell⟩ := HP.out.at (by omega)
      have hck := (hcell k hlt).1
      have hck1 := (hcell k hlt).2
      have HW : Hid (w.heap.size < wr.heap.size) := HK.out.lt
      have HSET : Hid ((ptP l k).set k (pAtB l k) = ptP l (k + 1)) := ptP_set l k (by rw [← HN.out]; exact hlt)
      have HLE : Hid ((ptP l k).length = n) := by show _ = _; rw [ptP_length l k (by rw [← HN.out]; exact hk), ← HN.out]
      clear hcell hbw
      generalize hcur : pAtB l k = cur at hck hck1 HSET
      obtain ⟨ck, cv⟩ := cur
      clear hcur HP
      go_wp2_with fail
      refine (toPair_any ck cv wr).mono ?_
      rintro e w1 ⟨rfl, hb1⟩
      have HK1 := hid (HK.out.below hb1)
      have HB1 := hid (HB.out.trans (hb1.mono HB.out.size))
      clear hb1
      have hc0 := HK1.out.cell (pcs_at (ptP l k) k (by rw [HLE.out]; exact hlt)).1
      have hc1 := HK1.out.cell (pcs_at (ptP l k) k (by rw [HLE.out]; exact hlt)).2
      have hf0 := HK1.out.free (k * 2)
      have hf1 := HK1.out.free (k * 2 + 1)
      have HK2 : Hid (Bk ((w1.setCell ⟨w.heap.size, k * 2, none⟩ (.string ck)).setCell ⟨w.heap.size, k * 2 + 1, none⟩ (.string cv)) w.heap.size 76 (pcs (ptP l (k + 1)))) := by
        show Bk _ _ _ _
        rw [← HSET.out, pcs_set _ _ _ (by rw [HLE.out]; exact hlt)]
        exact (HK1.out.set _ _).set _ _
      have HB2 : Hid (Below w.heap.size w ((w1.setCell ⟨w.heap.size, k * 2, none⟩ (.string ck)).setCell ⟨w.heap.size, k * 2 + 1, none⟩ (.string cv))) := (HB1.out.setCell (Nat.le_refl _) _).setCell (Nat.le_refl _) _
      generalize pAtB (ptP l k) k = old at hc0 hc1
      obtain ⟨o1, o2⟩ := old
      go_wp2
      go_roundw
      case rel => exact ⟨k + 1, by omega, by go_num, HK2.out, HB2.out⟩
      case measure => simp [intOf]; omega
    · have hk' : k = n := by omega
      have HA : Hid (pcs (ptP l k) = pcs l) := by show _ = _; rw [hk', HN.out]; simp [ptP]
      clear hk'
      go_wp2
      go_ret
      refine ⟨rfl, ?_, HB.out⟩
      rw [← HA.out]; exact HK.out
theorem szPair_any (k v : ByteArray) (left : Int) (w : World) (h0 : 0 ≤ left) (h1 : left ≤ 1048576) (hk : k.size ≤ 9223372036854775807) (hv : v.size ≤ 9223372036854775807) :
    Calls Tryd.prog 52 #[.agg #[.string k, .string v], .int .i64 left] w fun e w' => (∃ x : Int, e = .returned (.int .i64 x) ∧ x ≤ left ∧ -1 ≤ x) ∧ Below w.heap.size w w' := by
  go_enter Tryd.func52, Tryd.ntmps52
  go_wp2
  all_goals (go_ret; exact ⟨⟨_, rfl, by omega, by omega⟩, below_new (Below.refl _ _)⟩)
def szOkP (l : List PB) : Prop := ∀ i, (pAtB l i).1.size ≤ 9223372036854775807 ∧ (pAtB l i).2.size ≤ 9223372036854775807
set_option maxHeartbeats 2000000 in
theorem szPairS_at (S : Nat → Prop) (a : Option Addr) (n c : Nat) (l : List PB) (left : Int) (w : World) (h : Pr w S (.slice a n c) l) (hsz : szOkP l) (h0 : 0 ≤ left) (h1 : left ≤ 1048576) :
    Calls Tryd.prog 30 #[.slice a n c, .int .i64 left] w fun e w' => (∃ x : Int, e = .returned (.int .i64 x) ∧ x ≤ left ∧ -1 ≤ x ∧ (0 ≤ x → n ≤ 1048576)) ∧ Below w.heap.size w w' := by
  obtain ⟨hn, hnc, hcc⟩ := Rw.len h
  have HN := hid hn
  have H0 := hid h
  have HZ := hid hsz
  clear h hsz hn
  by_cases hbig : left - (n : Int) < 0
  · go_enter Tryd.func30, Tryd.ntmps30
    go_wp2
    go_ret
    exact ⟨⟨_, rfl, by omega, by omega, fun h => by omega⟩, Below.refl _ _⟩
  · have hn2 : n ≤ 1048576 := by omega
    go_enter Tryd.func30, Tryd.ntmps30
    go_wp2
    go_loopw [1, 5] (fun x i wr => ∃ (k : Nat) (y : Int), k ≤ n ∧ i = .int .i64 k ∧ x = .int .i64 y ∧ 0 ≤ y ∧ y ≤ left ∧ Hid (Below w.heap.size w wr)) (fun _ i _ => n - (intOf i).toNat)
    case atStart => exact ⟨0, _, Nat.zero_le _, rfl, rfl, by omega, by omega, Below.refl _ _⟩
    case round =>
      obtain ⟨k, y, hk, rfl, rfl, hy0, hy1, HB⟩ := hrel
      by_cases hlt : k < n
      · have hlt' : (k : Int) < (n : Int) := by omega
        have HP := hid (H0.out.below HB.out)
        obtain ⟨b, off, rfl, _, hbw, hcell⟩ := HP.out.at (by omega)
        have hck := (hcell k hlt).1
        have hck1 := (hcell k hlt).2
        have hs := HZ.out k
        clear hcell hbw HP
        generalize pAtB l k = cur at hck hck1 hs
        obtain ⟨ck, cv⟩ := cur
        obtain ⟨hs1, hs2⟩ := hs
        go_wp2_with fail
        refine (szPair_any ck cv y wr hy0 (by omega) hs1 hs2).mono ?_
        rintro e w1 ⟨⟨x, rfl, hx1, hx2⟩, hb1⟩
        have HB1 := hid (HB.out.trans (hb1.mono HB.out.size))
        clear hb1 hs1 hs2 hck hck1
        by_cases hneg : x < 0
        · go_wp2
          go_ret
          exact ⟨⟨_, rfl, by omega, by omega, fun h => by omega⟩, HB1.out⟩
        · go_wp2
          go_roundw
          case rel => exact ⟨k + 1, x, by omega, by go_num, rfl, by omega, by omega, HB1.out⟩
          case measure => simp [intOf]; omega
      · go_wp2
        go_ret
        exact ⟨⟨_, rfl, by omega, by omega, fun _ => hn2⟩, HB.out⟩
theorem eqPair_any (k v k' v' : ByteArray) (w : World) : Calls Tryd.prog 62 #[.agg #[.string k, .string v], .agg #[.string k', .string v']] w fun e w' => e = .returned (.bool (decide ((k, v) = (k', v')))) ∧ Below w.heap.size w w' := by
  by_cases h1 : k = k'
  · subst h1
    by_cases h2 : v = v'
    · subst h2
      have HE : Hid (decide ((k, v) = (k, v)) = true) := by show _ = _; simp
      go_enter Tryd.func62, Tryd.ntmps62
      go_wp2
      go_ret
      exact ⟨by first | rfl | (rw [HE.out]), below_new (below_new (Below.refl _ _))⟩
    · have HE : Hid (decide ((k, v) = (k, v')) = false) := by show _ = _; simp [h2]
      have t := str_beq h2
      clear h2
      go_enter Tryd.func62, Tryd.ntmps62
      go_wp2
      go_ret
      exact ⟨by rw [HE.out]; rfl, below_new (below_new (Below.refl _ _))⟩
  · have HE : Hid (decide ((k, v) = (k', v')) = false) := by show _ = _; simp [h1]
    have t := str_beq h1
    clear h1
    go_enter Tryd.func62, Tryd.ntmps62
    go_wp2
    go_ret
    exact ⟨by rw [HE.out]; rfl, below_new (below_new (Below.refl _ _))⟩
set_option maxHeartbeats 2000000 in
theorem eqPairS_at (S S' : Nat → Prop) (a a' : Option Addr) (n n' c c' : Nat) (l l' : List PB) (w : World) (h : Pr w S (.slice a n c) l) (h' : Pr w S' (.slice a' n' c') l') :
    Calls Tryd.prog 43 #[.slice a n c, .slice a' n' c'] w fun e w' => e = .returned (.bool (decide (l = l'))) ∧ Below w.heap.size w w' := by
  obtain ⟨hn, hnc, hcc⟩ := Rw.len h
  obtain ⟨hn', hnc', hcc'⟩ := Rw.len h'
  have HN := hid hn
  have HN' := hid hn'
  have H0 := hid h
  have H0' := hid h'
  clear h h' hn hn'
  by_cases hne : n = n'
  · subst hne
    have hz : ((n : Int) != (n : Int)) = false := by simp
    go_enter Tryd.func43, Tryd.ntmps43
    go_wp2
    go_loopw [5] (fun i wr => ∃ k : Nat, k ≤ n ∧ i = .int .i64 k ∧ Hid (Below w.heap.size w wr) ∧ Hid (l.take k = l'.take k)) (fun i _ => n - (intOf i).toNat)
    case atStart => exact ⟨0, Nat.zero_le _, rfl, Below.refl _ _, rfl⟩
    case round =>
      obtain ⟨k, hk, rfl, HB, HT⟩ := hrel
      by_cases hlt : k < n
      · have hlt' : (k : Int) < (n : Int) := by omega
        have HP := hid (H0.out.below HB.out)
        have HP' := hid (H0'.out.below HB.out)
        obtain ⟨b, off, rfl, _, hbw, hcell⟩ := HP.out.at (by omega)
        obtain ⟨b', off', rfl, _, hbw', hcell'⟩ := HP'.out.at (by omega)
        have hck := (hcell k hlt).1
        have hck1 := (hcell k hlt).2
        have hck' := (hcell' k hlt).1
        have hck1' := (hcell' k hlt).2
        have HS : Hid (pAtB l k = pAtB l' k → l.take (k + 1) = l'.take (k + 1)) := by
          intro e
          have hl : k < l.length := by rw [← HN.out]; exact hlt
          have hl' : k < l'.length := by rw [← HN'.out]; exact hlt
          rw [List.take_succ_eq_append_getElem hl, List.take_succ_eq_append_getElem hl', HT.out]
          simp [pAtB, hl, hl'] at e
          rw [e]
        have HF : Hid (pAtB l k ≠ pAtB l' k → decide (l = l') = false) := by
          intro e
          rw [decide_eq_false_iff_not]
          intro e'
          exact e (by rw [e'])
        clear hcell hcell' hbw hbw' HP HP' HT
        generalize pAtB l k = cur at *
        generalize pAtB l' k = cur' at *
        obtain ⟨ck, cv⟩ := cur
        obtain ⟨ck', cv'⟩ := cur'
        have T0 := hid (kc0_4 hck hck1 hck' hck1')
        by_cases he : (ck, cv) = (ck', cv')
        · have HS1 := hid (HS.out he)
          have C1 : ∀ v, Calls Tryd.prog 62 #[.agg #[.string ck, .string cv], .agg #[.string ck', .string cv']] v fun e w' => e = .returned (.bool true) ∧ Below v.heap.size v w' := fun v => by
            have := eqPair_any ck cv ck' cv' v
            rwa [decide_eq_true he] at this
          clear he HS HF hck hck1 hck' hck1'
          go_wp2_with fail
          go_region_held3 (fun v => v.cell? ⟨b, off + k * 2, none⟩ = some (.string ck) ∧ v.cell? ⟨b, off + k * 2 + 1, none⟩ = some (.string cv) ∧ v.cell? ⟨b', off' + k * 2, none⟩ = some (.string ck') ∧ v.cell? ⟨b', off' + k * 2 + 1, none⟩ = some (.string cv') ∧ KC wr v [(⟨b, off + k * 2, none⟩, .string ck), (⟨b, off + k * 2 + 1, none⟩, .string cv), (⟨b', off' + k * 2, none⟩, .string ck'), (⟨b', off' + k * 2 + 1, none⟩, .string cv')])
            (first | assumption | exact kc4 (T0.out.call (below_drew _)) | exact kc4c hbC (by assumption))
            (first | (go_at_call 62; refine (C1 _).mono ?_; rintro e w' ⟨rfl, hbC⟩))
          all_goals (rename_i hS; have HB1 := hid (Below.then' HB.out hS.2.2.2.2.bel (Nat.le_refl _)); clear hS; go_wp2)
          go_roundw
          case rel => exact ⟨k + 1, by omega, by go_num, HB1.out, HS1.out⟩
          case measure => simp [intOf]; omega
        · have HF1 := hid (HF.out he)
          have C1 : ∀ v, Calls Tryd.prog 62 #[.agg #[.string ck, .string cv], .agg #[.string ck', .string cv']] v fun e w' => e = .returned (.bool false) ∧ Below v.heap.size v w' := fun v => by
            have := eqPair_any ck cv ck' cv' v
            rwa [decide_eq_false he] at this
          clear he HS HF hck hck1 hck' hck1'
          go_wp2_with fail
          go_region_held3 (fun v => v.cell? ⟨b, off + k * 2, none⟩ = some (.string ck) ∧ v.cell? ⟨b, off + k * 2 + 1, none⟩ = some (.string cv) ∧ v.cell? ⟨b', off' + k * 2, none⟩ = some (.string ck') ∧ v.cell? ⟨b', off' + k * 2 + 1, none⟩ = some (.string cv') ∧ KC wr v [(⟨b, off + k * 2, none⟩, .string ck), (⟨b, off + k * 2 + 1, none⟩, .string cv), (⟨b', off' + k * 2, none⟩, .string ck'), (⟨b', off' + k * 2 + 1, none⟩, .string cv')])
            (first | assumption | exact kc4 (T0.out.call (below_drew _)) | exact kc4c hbC (by assumption))
            (first | (go_at_call 62; refine (C1 _).mono ?_; rintro e w' ⟨rfl, hbC⟩))
          all_goals (rename_i hS; have HB1 := hid (Below.then' HB.out hS.2.2.2.2.bel (Nat.le_refl _)); clear hS; go_wp2)
          go_ret
          exact ⟨by rw [HF1.out]; rfl, HB1.out⟩
      · have HF : Hid (decide (l = l') = true) := by
          show decide (l = l') = true
          have hk' : k = n := by omega
          have e := HT.out
          have e1 : l.length ≤ k := by rw [← HN.out]; omega
          have e2 : l'.length ≤ k := by rw [← HN'.out]; omega
          rw [List.take_of_length_le e1, List.take_of_length_le e2] at e
          simp [e]
        clear HT
        go_wp2
        go_ret
        exact ⟨by rw [HF.out]; rfl, HB.out⟩
  · have hz : ((n : Int) != (n' : Int)) = true := by simp; omega
    have HF : Hid (decide (l = l') = false) := by
      show decide (l = l') = false
      rw [decide_eq_false_iff_not]
      intro e
      exact hne (by rw [HN.out, HN'.out, e])
    clear hne
    go_enter Tryd.func43, Tryd.ntmps43
    go_wp2
    go_ret
    exact ⟨by rw [HF.out]; rfl, Below.refl _ _⟩
end Go.Proofs.YtjddkofpfmjojaaDoor
/-
  Records: when one is right, on both sides; what the law's helpers do with one; the laws FnExactReachOk and FnExactRecOk.
-/
namespace Go.Proofs.YtjddkofpfmjojaaDoor
open Go.RowKit
set_option linter.unusedVariables false
def isE (s : ByteArray) : Bool := decide (s.toList = [])
def rchOk (lo hi : ByteArray) : Bool := rOk lo hi && (decide (lo.size ≤ 9) && decide (hi.size ≤ 9))
def rcOk (k : Int) (ky vl lo hi : ByteArray) : Bool :=
  if k = 1 then uOk ky && (uvOk vl && (isE lo && isE hi)) else if k = 2 then uOk ky && (isE vl && (isE lo && isE hi)) else if k = 3 ∨ k = 4 then isE ky && (isE vl && rchOk lo hi) else false
theorem rcOk_1 (ky vl lo hi : ByteArray) : rcOk 1 ky vl lo hi = (uOk ky && (uvOk vl && (isE lo && isE hi))) := rfl
theorem rcOk_2 (ky vl lo hi : ByteArray) : rcOk 2 ky vl lo hi = (uOk ky && (isE vl && (isE lo && isE hi))) := rfl
theorem rcOk_3 (ky vl lo hi : ByteArray) : rcOk 3 ky vl lo hi = (isE ky && (isE vl && rchOk lo hi)) := rfl
theorem rcOk_4 (ky vl lo hi : ByteArray) : rcOk 4 ky vl lo hi = (isE ky && (isE vl && rchOk lo hi)) := rfl
theorem rcOk_no {k : Int} (h1 : ¬ k = 1) (h2 : ¬ k = 2) (h3 : ¬ k = 3) (h4 : ¬ k = 4) (ky vl lo hi : ByteArray) : rcOk k ky vl lo hi = false := by simp [rcOk, h1, h2, h3, h4]
theorem btR {u v w : World} (h : Below u.heap.size u v) (k : Below v.heap.size v w) : Below u.heap.size u w := h.trans (k.mono h.size)
theorem eqIn_rng (lo hi lo' hi' : ByteArray) (w : World) : (Op.equalIn 10000 33 (.agg #[.string lo, .string hi]) (.agg #[.string lo', .string hi'])).run Tryd.prog w = .ok (lo.toList == lo'.toList && hi.toList == hi'.toList) w := by
  rw [run_equalIn_struct w 9999 33 _ _ (by kernel_rfl) (by kernel_rfl)]
  obtain ⟨f0, f1, hu, n0, n1, t0, t1, o0, o1⟩ : ∃ f0 f1 : Field, Tryd.prog.underlying 33 = some (.struct #[f0, f1]) ∧ f0.name = "Lo" ∧ f1.name = "Hi" ∧ f0.type = 9 ∧ f1.type = 9 ∧ f0.offset = 0 ∧ f1.offset = 1 := ⟨_, _, Tryd.underlying33, rfl, rfl, rfl, rfl, rfl, rfl⟩
  have hl : (Tryd.prog.fieldsOf 33).toList = [f0, f1] := by simp [Program.fieldsOf, hu]
  rw [hl]
  have p0 : ∀ (x y : Value) (w : World), (Go.part 9 #[x, y] 0).run Tryd.prog w = .ok x w := fun x y w => by kernel_rfl
  have p1 : ∀ (x y : Value) (w : World), (Go.part 9 #[x, y] 1).run Tryd.prog w = .ok y w := fun x y w => by kernel_rfl
  have hs : ∀ (a b : ByteArray) (w : World), (Op.equalIn 9999 9 (.string a) (.string b)).run Tryd.prog w = .ok (a.toList == b.toList) w := fun a b w => run_equalIn_string w 9998 9 a b (by kernel_rfl)
  have q0 : ("Lo" : String) ≠ "_" := by decide
  have q1 : ("Hi" : String) ≠ "_" := by decide
  simp only [Op.eqFields, n0, n1, t0, t1, o0, o1, if_pos q0, if_pos q1, Sem.run_bind, p0, p1, hs, Result.andThen_ok, Sem.run_ite, Sem.run_pure]
  cases h0 : (lo.toList == lo'.toList)
  · simp
  · cases h1 : (hi.toList == hi'.toList) <;> simp
theorem isE_beq (s : ByteArray) : (s.toList == (⟨#[]⟩ : ByteArray).toList) = isE s := by
  unfold isE
  rw [show (⟨#[]⟩ : ByteArray).toList = [] by rw [ByteArray.toList_eq]]
  cases h : s.toList with
  | nil => rfl
  | cons a l => rfl
theorem eql_rng0 (lo hi : ByteArray) (w : World) : (binOp .eql 33 (.agg #[.string lo, .string hi]) (.agg #[.string ⟨#[]⟩, .string ⟨#[]⟩])).run Tryd.prog w = .ok (.bool (isE lo && isE hi)) w := by
  rw [run_eql_struct, eqIn_rng, isE_beq, isE_beq]; rfl
theorem guard_rng (op : BinOp) (x y : Operand) (xs ys : Array Value) (w : World) : (eqGuard op 33 x y (.agg xs) (.agg ys)).run Tryd.prog w = .ok () w := run_eqGuard_agg w op 33 x y xs ys (by kernel_rfl)
set_option maxHeartbeats 1600000 in
theorem implReachOk_any (lo hi : ByteArray) (w : World) : Calls Tryd.prog 88 #[.agg #[.string lo, .string hi]] w fun r w' => r = .returned (.bool (rchOk lo hi)) ∧ Below w.heap.size w w' := by
  have HV : Hid (rchOk lo hi = (rOk lo hi && (decide (lo.size ≤ 9) && decide (hi.size ≤ 9)))) := rfl
  have C1 : Hid (∀ w, Calls Tryd.prog 96 #[.agg #[.string lo, .string hi]] w fun r w' => r = .returned (.bool (rOk lo hi)) ∧ Below w.heap.size w w') := fun w => implRangeOk_any lo hi w
  generalize rOk lo hi = z1 at *
  have B0 := hid (below_new (o := .cells #[.string lo, .string hi] 33) (w := w) (Below.refl _ _))
  have K0 := hid (Bk.new w 33 [.string lo, .string hi])
  cases z1 with
  | false =>
    go_enter Tryd.func88, Tryd.ntmps88
    go_wp2_with fail
    refine (C1.out _).mono ?_
    generalize w.alloc (.cells #[.string lo, .string hi] 33) = U at *
    rintro r w1 ⟨rfl, hb⟩
    have K1 := hid (K0.out.below hb)
    have B1 := hid (B0.out.trans (hb.mono B0.out.size))
    clear K0 B0 hb
    have x0 := K1.out.cell (j := 0) rfl
    have x1 := K1.out.cell (j := 1) rfl
    go_wp2
    go_ret
    exact ⟨by rw [HV.out]; rfl, B1.out⟩
  | true =>
    by_cases h : lo.size ≤ 9
    · have h1 : (lo.size : Int) ≤ 9 := by omega
      have HH : Hid (decide (hi.size ≤ 9) = decide ((hi.size : Int) ≤ 9)) := by show _ = _; simp; omega
      go_enter Tryd.func88, Tryd.ntmps88
      go_wp2_with fail
      refine (C1.out _).mono ?_
      generalize w.alloc (.cells #[.string lo, .string hi] 33) = U at *
      rintro r w1 ⟨rfl, hb⟩
      have K1 := hid (K0.out.below hb)
      have B1 := hid (B0.out.trans (hb.mono B0.out.size))
      clear K0 B0 hb
      have x0 := K1.out.cell (j := 0) rfl
      have x1 := K1.out.cell (j := 1) rfl
      go_wp2
      go_ret
      exact ⟨by rw [HV.out, decide_eq_true h, HH.out]; rfl, B1.out⟩
    · have h1 : ¬ (lo.size : Int) ≤ 9 := by omega
      go_enter Tryd.func88, Tryd.ntmps88
      go_wp2_with fail
      refine (C1.out _).mono ?_
      generalize w.alloc (.cells #[.string lo, .string hi] 33) = U at *
      rintro r w1 ⟨rfl, hb⟩
      have K1 := hid (K0.out.below hb)
      have B1 := hid (B0.out.trans (hb.mono B0.out.size))
      clear K0 B0 hb
      have x0 := K1.out.cell (j := 0) rfl
      have x1 := K1.out.cell (j := 1) rfl
      go_wp2
      go_ret
      exact ⟨by rw [HV.out, decide_eq_false h]; rfl, B1.out⟩
set_option maxHeartbeats 1600000 in
theorem specReachOk_any (lo hi : ByteArray) (w : World) : Calls Tryd.prog 75 #[.agg #[.string lo, .string hi]] w fun r w' => r = .returned (.bool (rchOk lo hi)) ∧ Below w.heap.size w w' := by
  have HV : Hid (rchOk lo hi = (rOk lo hi && (decide (lo.size ≤ 9) && decide (hi.size ≤ 9)))) := rfl
  have C1 : Hid (∀ w, Calls Tryd.prog 85 #[.agg #[.string lo, .string hi]] w fun r w' => r = .returned (.bool (rOk lo hi)) ∧ Below w.heap.size w w') := fun w => specRangeOk_any lo hi w
  generalize rOk lo hi = z1 at *
  have B0 := hid (below_new (o := .cells #[.string lo, .string hi] 33) (w := w) (Below.refl _ _))
  have K0 := hid (Bk.new w 33 [.string lo, .string hi])
  cases z1 with
  | false =>
    go_enter Tryd.func75, Tryd.ntmps75
    go_wp2_with fail
    refine (C1.out _).mono ?_
    generalize w.alloc (.cells #[.string lo, .string hi] 33) = U at *
    rintro r w1 ⟨rfl, hb⟩
    have K1 := hid (K0.out.below hb)
    have B1 := hid (B0.out.trans (hb.mono B0.out.size))
    clear K0 B0 hb
    have x0 := K1.out.cell (j := 0) rfl
    have x1 := K1.out.cell (j := 1) rfl
    go_wp2
    go_ret
    exact ⟨by rw [HV.out]; rfl, B1.out⟩
  | true =>
    by_cases h : lo.size ≤ 9
    · have h1 : (lo.size : Int) ≤ 9 := by omega
      have HH : Hid (decide (hi.size ≤ 9) = decide ((hi.size : Int) ≤ 9)) := by show _ = _; simp; omega
      go_enter Tryd.func75, Tryd.ntmps75
      go_wp2_with fail
      refine (C1.out _).mono ?_
      generalize w.alloc (.cells #[.string lo, .string hi] 33) = U at *
      rintro r w1 ⟨rfl, hb⟩
      have K1 := hid (K0.out.below hb)
      have B1 := hid (B0.out.trans (hb.mono B0.out.size))
      clear K0 B0 hb
      have x0 := K1.out.cell (j := 0) rfl
      have x1 := K1.out.cell (j := 1) rfl
      go_wp2
      go_ret
      exact ⟨by rw [HV.out, decide_eq_true h, HH.out]; rfl, B1.out⟩
    · have h1 : ¬ (lo.size : Int) ≤ 9 := by omega
      go_enter Tryd.func75, Tryd.ntmps75
      go_wp2_with fail
      refine (C1.out _).mono ?_
      generalize w.alloc (.cells #[.string lo, .string hi] 33) = U at *
      rintro r w1 ⟨rfl, hb⟩
      have K1 := hid (K0.out.below hb)
      have B1 := hid (B0.out.trans (hb.mono B0.out.size))
      clear K0 B0 hb
      have x0 := K1.out.cell (j := 0) rfl
      have x1 := K1.out.cell (j := 1) rfl
      go_wp2
      go_ret
      exact ⟨by rw [HV.out, decide_eq_false h]; rfl, B1.out⟩
end Go.Proofs.YtjddkofpfmjojaaDoor
/-
  Asks: when one is right, on both sides; == of asks.
-/
namespace Go.Proofs.YtjddkofpfmjojaaDoor
open Go.RowKit
set_option linter.unusedVariables false
def akK (ky vl lo hi : ByteArray) (mo : Int) (bk : Bool) : Bool := uOk ky && (uvOk vl && ((isE lo && isE hi) && (decide (mo = 0) && !bk)))
def akS (ky vl lo hi : ByteArray) (mo : Int) : Bool := (decide (1 ≤ mo) && decide (mo ≤ 8)) && (rchOk lo hi && (isE ky && isE vl))
def akOk (k : Int) (ky vl lo hi : ByteArray) (mo : Int) (bk : Bool) : Bool :=
  if k = 4 then akS ky vl lo hi mo else if k = 2 then akK ky vl lo hi mo bk else if k = 1 ∨ k = 3 then isE vl && akK ky vl lo hi mo bk else false
theorem akOk_4 (ky vl lo hi : ByteArray) (mo : Int) (bk : Bool) : akOk 4 ky vl lo hi mo bk = akS ky vl lo hi mo := rfl
theorem akOk_2 (ky vl lo hi : ByteArray) (mo : Int) (bk : Bool) : akOk 2 ky vl lo hi mo bk = akK ky vl lo hi mo bk := rfl
theorem akOk_1 (ky vl lo hi : ByteArray) (mo : Int) (bk : Bool) : akOk 1 ky vl lo hi mo bk = (isE vl && akK ky vl lo hi mo bk) := rfl
theorem akOk_3 (ky vl lo hi : ByteArray) (mo : Int) (bk : Bool) : akOk 3 ky vl lo hi mo bk = (isE vl && akK ky vl lo hi mo bk) := rfl
theorem akOk_no {k : Int} (h1 : ¬ k = 1) (h2 : ¬ k = 2) (h3 : ¬ k = 3) (h4 : ¬ k = 4) (ky vl lo hi : ByteArray) (mo : Int) (bk : Bool) : akOk k ky vl lo hi mo bk = false := by simp [akOk, h1, h2, h3, h4]
theorem eqIn_rng9 (lo hi lo' hi' : ByteArray) (w : World) : (Op.equalIn 9999 33 (.agg #[.string lo, .string hi]) (.agg #[.string lo', .string hi'])).run Tryd.prog w = .ok (lo.toList == lo'.toList && hi.toList == hi'.toList) w := by
  rw [run_equalIn_struct w 9998 33 _ _ (by kernel_rfl) (by kernel_rfl)]
  obtain ⟨f0, f1, hu, n0, n1, t0, t1, o0, o1⟩ : ∃ f0 f1 : Field, Tryd.prog.underlying 33 = some (.struct #[f0, f1]) ∧ f0.name = "Lo" ∧ f1.name = "Hi" ∧ f0.type = 9 ∧ f1.type = 9 ∧ f0.offset = 0 ∧ f1.offset = 1 := ⟨_, _, Tryd.underlying33, rfl, rfl, rfl, rfl, rfl, rfl⟩
  have hl : (Tryd.prog.fieldsOf 33).toList = [f0, f1] := by simp [Program.fieldsOf, hu]
  rw [hl]
  have p0 : ∀ (x y : Value) (w : World), (Go.part 9 #[x, y] 0).run Tryd.prog w = .ok x w := fun x y w => by kernel_rfl
  have p1 : ∀ (x y : Value) (w : World), (Go.part 9 #[x, y] 1).run Tryd.prog w = .ok y w := fun x y w => by kernel_rfl
  have hs : ∀ (a b : ByteArray) (w : World), (Op.equalIn 9998 9 (.string a) (.string b)).run Tryd.prog w = .ok (a.toList == b.toList) w := fun a b w => run_equalIn_string w 9997 9 a b (by kernel_rfl)
  have q0 : ("Lo" : String) ≠ "_" := by decide
  have q1 : ("Hi" : String) ≠ "_" := by decide
  simp only [Op.eqFields, n0, n1, t0, t1, o0, o1, if_pos q0, if_pos q1, Sem.run_bind, p0, p1, hs, Result.andThen_ok, Sem.run_ite, Sem.run_pure]
  cases h0 : (lo.toList == lo'.toList)
  · simp
  · cases h1 : (hi.toList == hi'.toList) <;> simp
theorem eqIn_ask (k : Int) (ky vl lo hi : ByteArray) (mo : Int) (bk : Bool) (k' : Int) (ky' : ByteArray) (vl' : ByteArray) (lo' : ByteArray) (hi' : ByteArray) (mo' : Int) (bk' : Bool) (w : World) : (Op.equalIn 10000 35 (.agg #[.int .i64 k, .string ky, .string vl, .string lo, .string hi, .int .i64 mo, .bool bk]) (.agg #[.int .i64 k', .string ky', .string vl', .string lo', .string hi', .int .i64 mo', .bool bk'])).run Tryd.prog w = .ok ((k == k') && (ky.toList == ky'.toList && (vl.toList == vl'.toList && ((lo.toList == lo'.toList && hi.toList == hi'.toList) && (mo == mo' && bk == bk'))))) w := by
  rw [run_equalIn_struct w 9999 35 _ _ (by kernel_rfl) (by kernel_rfl)]
  obtain ⟨f0, f1, f2, f3, f4, f5, hu, n0, n1, n2, n3, n4, n5, t0, t1, t2, t3, t4, t5, o0, o1, o2, o3, o4, o5⟩ : ∃ f0 f1 f2 f3 f4 f5 : Field, Tryd.prog.underlying 35 = some (.struct #[f0, f1, f2, f3, f4, f5]) ∧ f0.name = "Kind" ∧ f1.name = "Key" ∧ f2.name = "Val" ∧ f3.name = "Range" ∧ f4.name = "Most" ∧ f5.name = "Back" ∧ f0.type = 3 ∧ f1.type = 9 ∧ f2.type = 9 ∧ f3.type = 33 ∧ f4.type = 3 ∧ f5.type = 4 ∧ f0.offset = 0 ∧ f1.offset = 1 ∧ f2.offset = 2 ∧ f3.offset = 3 ∧ f4.offset = 5 ∧ f5.offset = 6 := ⟨_, _, _, _, _, _, Tryd.underlying35, rfl, rfl, rfl, rfl, rfl, rfl, rfl, rfl, rfl, rfl, rfl, rfl, rfl, rfl, rfl, rfl, rfl, rfl⟩
  have hl : (Tryd.prog.fieldsOf 35).toList = [f0, f1, f2, f3, f4, f5] := by simp [Program.fieldsOf, hu]
  rw [hl]
  have p0 : ∀ (x0 x1 x2 x3 x4 x5 x6 : Value) (w : World), (Go.part 3 #[x0, x1, x2, x3, x4, x5, x6] 0).run Tryd.prog w = .ok x0 w := fun x0 x1 x2 x3 x4 x5 x6 w => by kernel_rfl
  have p1 : ∀ (x0 x1 x2 x3 x4 x5 x6 : Value) (w : World), (Go.part 9 #[x0, x1, x2, x3, x4, x5, x6] 1).run Tryd.prog w = .ok x1 w := fun x0 x1 x2 x3 x4 x5 x6 w => by kernel_rfl
  have p2 : ∀ (x0 x1 x2 x3 x4 x5 x6 : Value) (w : World), (Go.part 9 #[x0, x1, x2, x3, x4, x5, x6] 2).run Tryd.prog w = .ok x2 w := fun x0 x1 x2 x3 x4 x5 x6 w => by kernel_rfl
  have p3 : ∀ (x0 x1 x2 x3 x4 x5 x6 : Value) (w : World), (Go.part 33 #[x0, x1, x2, x3, x4, x5, x6] 3).run Tryd.prog w = .ok (.agg #[x3, x4]) w := fun x0 x1 x2 x3 x4 x5 x6 w => by kernel_rfl
  have p4 : ∀ (x0 x1 x2 x3 x4 x5 x6 : Value) (w : World), (Go.part 3 #[x0, x1, x2, x3, x4, x5, x6] 5).run Tryd.prog w = .ok x5 w := fun x0 x1 x2 x3 x4 x5 x6 w => by kernel_rfl
  have p5 : ∀ (x0 x1 x2 x3 x4 x5 x6 : Value) (w : World), (Go.part 4 #[x0, x1, x2, x3, x4, x5, x6] 6).run Tryd.prog w = .ok x6 w := fun x0 x1 x2 x3 x4 x5 x6 w => by kernel_rfl
  have hin : ∀ (a b : Int) (w : World), (Op.equalIn 9999 3 (.int .i64 a) (.int .i64 b)).run Tryd.prog w = .ok (a == b) w := fun a b w => run_equalIn_int w 9998 3 .i64 .i64 a b (by kernel_rfl)
  have hs : ∀ (a b : ByteArray) (w : World), (Op.equalIn 9999 9 (.string a) (.string b)).run Tryd.prog w = .ok (a.toList == b.toList) w := fun a b w => run_equalIn_string w 9998 9 a b (by kernel_rfl)
  have hbo : ∀ (a b : Bool) (w : World), (Op.equalIn 9999 4 (.bool a) (.bool b)).run Tryd.prog w = .ok (a == b) w := fun a b w => run_equalIn_bool' w 9998 4 a b (by kernel_rfl)
  have q0 : ("Kind" : String) ≠ "_" := by decide
  have q1 : ("Key" : String) ≠ "_" := by decide
  have q2 : ("Val" : String) ≠ "_" := by decide
  have q3 : ("Range" : String) ≠ "_" := by decide
  have q4 : ("Most" : String) ≠ "_" := by decide
  have q5 : ("Back" : String) ≠ "_" := by decide
  simp only [Op.eqFields, n0, t0, o0, if_pos q0, n1, t1, o1, if_pos q1, n2, t2, o2, if_pos q2, n3, t3, o3, if_pos q3, n4, t4, o4, if_pos q4, n5, t5, o5, if_pos q5, Sem.run_bind, p0, p1, p2, p3, p4, p5, hin, hs, hbo, eqIn_rng9, Result.andThen_ok, Sem.run_ite, Sem.run_pure]
  generalize (k == k') = b0
  generalize (ky.toList == ky'.toList) = b1
  generalize (vl.toList == vl'.toList) = b2
  generalize (lo.toList == lo'.toList && hi.toList == hi'.toList) = b3
  generalize (mo == mo') = b4
  generalize (bk == bk') = b5
  cases b0 <;> cases b1 <;> cases b2 <;> cases b3 <;> cases b4 <;> cases b5 <;> first | rfl | simp
def akZ (k : Int) (ky vl lo hi : ByteArray) (mo : Int) (bk : Bool) : Bool := decide (k = 0) && (isE ky && (isE vl && ((isE lo && isE hi) && (decide (mo = 0) && !bk))))
theorem bl_same (s : ByteArray) : (s.toList == s.toList) = true := by simp
theorem eql_askK (k : Int) (ky vl lo hi : ByteArray) (mo : Int) (bk : Bool) (w : World) : (binOp .eql 35 (.agg #[.int .i64 k, .string ky, .string vl, .string lo, .string hi, .int .i64 mo, .bool bk]) (.agg #[.int .i64 k, .string ky, .string vl, .string ⟨#[]⟩, .string ⟨#[]⟩, .int .i64 0, .bool false])).run Tryd.prog w = .ok (.bool ((isE lo && isE hi) && (decide (mo = 0) && !bk))) w := by
  rw [run_eql_struct, eqIn_ask, isE_beq, isE_beq, bl_same, bl_same]
  simp only [beq_self_eq_true, Bool.true_and, Result.andThen_ok]
  cases bk <;> rfl
theorem eql_askS (k : Int) (ky vl lo hi : ByteArray) (mo : Int) (bk : Bool) (w : World) : (binOp .eql 35 (.agg #[.int .i64 k, .string ky, .string vl, .string lo, .string hi, .int .i64 mo, .bool bk]) (.agg #[.int .i64 k, .string ⟨#[]⟩, .string ⟨#[]⟩, .string lo, .string hi, .int .i64 mo, .bool bk])).run Tryd.prog w = .ok (.bool (isE ky && isE vl)) w := by
  rw [run_eql_struct, eqIn_ask, isE_beq, isE_beq, bl_same, bl_same]
  simp only [beq_self_eq_true, Bool.true_and, Bool.and_true, Result.andThen_ok]
theorem eql_askZ (k : Int) (ky vl lo hi : ByteArray) (mo : Int) (bk : Bool) (w : World) : (binOp .eql 35 (.agg #[.int .i64 k, .string ky, .string vl, .string lo, .string hi, .int .i64 mo, .bool bk]) (.agg #[.int .i64 0, .string ⟨#[]⟩, .string ⟨#[]⟩, .string ⟨#[]⟩, .string ⟨#[]⟩, .int .i64 0, .bool false])).run Tryd.prog w = .ok (.bool (akZ k ky vl lo hi mo bk)) w := by
  rw [run_eql_struct, eqIn_ask, isE_beq, isE_beq, isE_beq, isE_beq]
  unfold akZ
  cases bk <;> rfl
theorem neq_askZ (k : Int) (ky vl lo hi : ByteArray) (mo : Int) (bk : Bool) (w : World) : (binOp .neq 35 (.agg #[.int .i64 k, .string ky, .string vl, .string lo, .string hi, .int .i64 mo, .bool bk]) (.agg #[.int .i64 0, .string ⟨#[]⟩, .string ⟨#[]⟩, .string ⟨#[]⟩, .string ⟨#[]⟩, .int .i64 0, .bool false])).run Tryd.prog w = .ok (.bool (!akZ k ky vl lo hi mo bk)) w := by
  rw [run_neq_struct, eqIn_ask, isE_beq, isE_beq, isE_beq, isE_beq]
  unfold akZ
  cases bk <;> rfl
theorem guard_ask (op : BinOp) (x y : Operand) (xs ys : Array Value) (w : World) : (eqGuard op 35 x y (.agg xs) (.agg ys)).run Tryd.prog w = .ok () w := run_eqGuard_agg w op 35 x y xs ys (by kernel_rfl)
set_option maxHeartbeats 3200000 in
theorem keyAskOk_any (k : Int) (ky vl lo hi : ByteArray) (mo : Int) (bk : Bool) (w : World) : Calls Tryd.prog 78 #[.agg #[.int .i64 k, .string ky, .string vl, .string lo, .string hi, .int .i64 mo, .bool bk]] w fun r w' => r = .returned (.bool (akK ky vl lo hi mo bk)) ∧ Below w.heap.size w w' := by
  have hq := eql_askK k ky vl lo hi mo bk
  have hg := guard_ask .eql
  have C1 := hid (fun w => implUserOk_any ky w)
  have C2 := hid (fun w => implUvalOk_any vl w)
  have B0 := hid (below_new (o := .cells #[.int .i64 k, .string ky, .string vl, .string lo, .string hi, .int .i64 mo, .bool bk] 35) (w := w) (Below.refl _ _))
  have HV : Hid (akK ky vl lo hi mo bk = (uOk ky && (uvOk vl && ((isE lo && isE hi) && (decide (mo = 0) && !bk))))) := rfl
  generalize akK ky vl lo hi mo bk = z0 at *
  generalize uOk ky = z1 at *
  generalize uvOk vl = z2 at *
  generalize ((isE lo && isE hi) && (decide (mo = 0) && !bk)) = z3 at *
  cases z1 with
  | false =>
    go_enter Tryd.func78, Tryd.ntmps78
    go_wp2_with fail
    refine (C1.out _).mono ?_
    rintro r w1 ⟨rfl, rfl⟩
    go_wp2
    go_ret
    exact ⟨by rw [HV.out]; rfl, B0.out⟩
  | true =>
    cases z2 with
    | false =>
      go_enter Tryd.func78, Tryd.ntmps78
      go_wp2_with fail
      refine (C1.out _).mono ?_
      rintro r w1 ⟨rfl, rfl⟩
      go_wp2_with fail
      refine (C2.out _).mono ?_
      rintro r w1 ⟨rfl, rfl⟩
      go_wp2
      go_ret
      exact ⟨by rw [HV.out]; rfl, B0.out⟩
    | true =>
      go_enter Tryd.func78, Tryd.ntmps78
      go_wp2_with fail
      refine (C1.out _).mono ?_
      rintro r w1 ⟨rfl, rfl⟩
      go_wp2_with fail
      refine (C2.out _).mono ?_
      rintro r w1 ⟨rfl, rfl⟩
      go_wp2
      go_ret
      exact ⟨by rw [HV.out]; rfl, B0.out⟩
set_option maxHeartbeats 3200000 in
theorem scanOk_any (k : Int) (ky vl lo hi : ByteArray) (mo : Int) (bk : Bool) (w : World) : Calls Tryd.prog 79 #[.agg #[.int .i64 k, .string ky, .string vl, .string lo, .string hi, .int .i64 mo, .bool bk]] w fun r w' => r = .returned (.bool (akS ky vl lo hi mo)) ∧ Below w.heap.size w w' := by
  have hq := eql_askS k ky vl lo hi mo bk
  have hg := guard_ask .eql
  have C1 : Hid (∀ w, Calls Tryd.prog 88 #[.agg #[.string lo, .string hi]] w fun r w' => r = .returned (.bool (rchOk lo hi)) ∧ Below w.heap.size w w') := fun w => implReachOk_any lo hi w
  have B0 := hid (below_new (o := .cells #[.int .i64 k, .string ky, .string vl, .string lo, .string hi, .int .i64 mo, .bool bk] 35) (w := w) (Below.refl _ _))
  have K0 := hid (Bk.new w 35 [.int .i64 k, .string ky, .string vl, .string lo, .string hi, .int .i64 mo, .bool bk])
  have HV : Hid (akS ky vl lo hi mo = ((decide (1 ≤ mo) && decide (mo ≤ 8)) && (rchOk lo hi && (isE ky && isE vl)))) := rfl
  generalize akS ky vl lo hi mo = z0 at *
  generalize rchOk lo hi = z1 at *
  generalize (isE ky && isE vl) = z2 at *
  by_cases m1 : mo < 1
  · have HW : Hid (decide (1 ≤ mo) = false) := by show _ = false; simp; omega
    go_enter Tryd.func79, Tryd.ntmps79
    go_wp2
    go_ret
    exact ⟨by rw [HV.out, HW.out]; rfl, B0.out⟩
  · by_cases m2 : 8 < mo
    · have HW : Hid (decide (mo ≤ 8) = false) := by show _ = false; simp; omega
      go_enter Tryd.func79, Tryd.ntmps79
      go_wp2
      go_ret
      exact ⟨by rw [HV.out, HW.out, Bool.and_false]; rfl, B0.out⟩
    · have HW : Hid ((decide (1 ≤ mo) && decide (mo ≤ 8)) = true) := by show _ = true; simp; omega
      cases z1 with
      | false =>
        go_enter Tryd.func79, Tryd.ntmps79
        go_wp2_with fail
        refine (C1.out _).mono ?_
        generalize w.alloc (.cells #[.int .i64 k, .string ky, .string vl, .string lo, .string hi, .int .i64 mo, .bool bk] 35) = U at *
        rintro r w1 ⟨rfl, hb⟩
        have K1 := hid (K0.out.below hb)
        have B1 := hid (B0.out.trans (hb.mono B0.out.size))
        clear K0 B0 hb
        have x0 := K1.out.cell (j := 0) rfl
        have x1 := K1.out.cell (j := 1) rfl
        have x2 := K1.out.cell (j := 2) rfl
        have x3 := K1.out.cell (j := 3) rfl
        have x4 := K1.out.cell (j := 4) rfl
        have x5 := K1.out.cell (j := 5) rfl
        have x6 := K1.out.cell (j := 6) rfl
        go_wp2
        go_ret
        exact ⟨by rw [HV.out, HW.out]; rfl, B1.out⟩
      | true =>
        go_enter Tryd.func79, Tryd.ntmps79
        go_wp2_with fail
        refine (C1.out _).mono ?_
        generalize w.alloc (.cells #[.int .i64 k, .string ky, .string vl, .string lo, .string hi, .int .i64 mo, .bool bk] 35) = U at *
        rintro r w1 ⟨rfl, hb⟩
        have K1 := hid (K0.out.below hb)
        have B1 := hid (B0.out.trans (hb.mono B0.out.size))
        clear K0 B0 hb
        have x0 := K1.out.cell (j := 0) rfl
        have x1 := K1.out.cell (j := 1) rfl
        have x2 := K1.out.cell (j := 2) rfl
        have x3 := K1.out.cell (j := 3) rfl
        have x4 := K1.out.cell (j := 4) rfl
        have x5 := K1.out.cell (j := 5) rfl
        have x6 := K1.out.cell (j := 6) rfl
        go_wp2
        go_ret
        exact ⟨by rw [HV.out, HW.out]; rfl, B1.out⟩
set_option maxHeartbeats 3200000 in
theorem implAskOk_any (k : Int) (ky vl lo hi : ByteArray) (mo : Int) (bk : Bool) (w : World) : Calls Tryd.prog 64 #[.agg #[.int .i64 k, .string ky, .string vl, .string lo, .string hi, .int .i64 mo, .bool bk]] w fun r w' => r = .returned (.bool (akOk k ky vl lo hi mo bk)) ∧ Below w.heap.size w w' := by
  have C1 := hid (fun w => keyAskOk_any k ky vl lo hi mo bk w)
  have C2 := hid (fun w => scanOk_any k ky vl lo hi mo bk w)
  have B0 := hid (below_new (o := .cells #[.int .i64 k, .string ky, .string vl, .string lo, .string hi, .int .i64 mo, .bool bk] 35) (w := w) (Below.refl _ _))
  by_cases k1 : k = 1
  · subst k1
    have HV := hid (akOk_1 ky vl lo hi mo bk)
    by_cases h2 : vl.toList = []
    · have HW : Hid (isE vl = true) := by show _ = true; exact decide_eq_true h2
      generalize akOk 1 ky vl lo hi mo bk = z0 at *
      go_enter Tryd.func64, Tryd.ntmps64
      go_wp2_with fail
      refine (C1.out _).mono ?_
      rintro r w1 ⟨rfl, hb⟩
      have B1 := hid (btR B0.out hb)
      clear hb B0
      go_wp2
      go_ret
      exact ⟨by rw [HV.out, HW.out]; rfl, B1.out⟩
    · have HW : Hid (isE vl = false) := by show _ = false; exact decide_eq_false h2
      have h3 : vl.toList.isEmpty = false := by simpa using h2
      generalize akOk 1 ky vl lo hi mo bk = z0 at *
      go_enter Tryd.func64, Tryd.ntmps64
      go_wp2
      go_ret
      exact ⟨by rw [HV.out, HW.out]; rfl, B0.out⟩
  · by_cases k3 : k = 3
    · subst k3
      have HV := hid (akOk_3 ky vl lo hi mo bk)
      by_cases h2 : vl.toList = []
      · have HW : Hid (isE vl = true) := by show _ = true; exact decide_eq_true h2
        generalize akOk 3 ky vl lo hi mo bk = z0 at *
        go_enter Tryd.func64, Tryd.ntmps64
        go_wp2_with fail
        refine (C1.out _).mono ?_
        rintro r w1 ⟨rfl, hb⟩
        have B1 := hid (btR B0.out hb)
        clear hb B0
        go_wp2
        go_ret
        exact ⟨by rw [HV.out, HW.out]; rfl, B1.out⟩
      · have HW : Hid (isE vl = false) := by show _ = false; exact decide_eq_false h2
        have h3 : vl.toList.isEmpty = false := by simpa using h2
        generalize akOk 3 ky vl lo hi mo bk = z0 at *
        go_enter Tryd.func64, Tryd.ntmps64
        go_wp2
        go_ret
        exact ⟨by rw [HV.out, HW.out]; rfl, B0.out⟩
    · by_cases k2 : k = 2
      · subst k2
        have HV := hid (akOk_2 ky vl lo hi mo bk)
        generalize akOk 2 ky vl lo hi mo bk = z0 at *
        go_enter Tryd.func64, Tryd.ntmps64
        go_wp2_with fail
        refine (C1.out _).mono ?_
        rintro r w1 ⟨rfl, hb⟩
        have B1 := hid (btR B0.out hb)
        clear hb B0
        go_wp2
        go_ret
        exact ⟨by rw [HV.out]; rfl, B1.out⟩
      · by_cases k4 : k = 4
        · subst k4
          have HV := hid (akOk_4 ky vl lo hi mo bk)
          generalize akOk 4 ky vl lo hi mo bk = z0 at *
          go_enter Tryd.func64, Tryd.ntmps64
          go_wp2_with fail
          refine (C2.out _).mono ?_
          rintro r w1 ⟨rfl, hb⟩
          have B1 := hid (btR B0.out hb)
          clear hb B0
          go_wp2
          go_ret
          exact ⟨by rw [HV.out]; rfl, B1.out⟩
        · have HV := hid (akOk_no k1 k2 k3 k4 ky vl lo hi mo bk)
          clear C1 C2
          go_enter Tryd.func64, Tryd.ntmps64
          go_wp2
          go_ret
          exact ⟨by rw [HV.out]; rfl, B0.out⟩
set_option maxHeartbeats 6400000 in
theorem specAskOk_any (k : Int) (ky vl lo hi : ByteArray) (mo : Int) (bk : Bool) (w : World) : Calls Tryd.prog 63 #[.agg #[.int .i64 k, .string ky, .string vl, .string lo, .string hi, .int .i64 mo, .bool bk]] w fun r w' => r = .returned (.bool (akOk k ky vl lo hi mo bk)) ∧ Below w.heap.size w w' := by
  have hq := eql_rng0 lo hi
  have hg := guard_rng .eql
  have C1 := hid (fun w => specUserOk_any ky w)
  have C2 := hid (fun w => specUvalOk_any vl w)
  have C3 : Hid (∀ w, Calls Tryd.prog 75 #[.agg #[.string lo, .string hi]] w fun r w' => r = .returned (.bool (rchOk lo hi)) ∧ Below w.heap.size w w') := fun w => specReachOk_any lo hi w
  have B0 := hid (below_new (o := .cells #[.int .i64 k, .string ky, .string vl, .string lo, .string hi, .int .i64 mo, .bool bk] 35) (w := w) (below_new (o := .cells #[.string ⟨#[]⟩, .string ⟨#[]⟩] 33) (w := w.alloc (.cells #[.int .i64 k, .string ky, .string vl, .string lo, .string hi, .int .i64 mo, .bool bk] 35)) (Below.refl _ _)))
  by_cases k1 : k = 1
  · subst k1
    have HV := hid (akOk_1 ky vl lo hi mo bk)
    by_cases h2 : vl.toList = []
    · have HW : Hid (isE vl = true) := by show _ = true; exact decide_eq_true h2
      generalize akOk 1 ky vl lo hi mo bk = z0 at *
      have HX : Hid (akK ky vl lo hi mo bk = (uOk ky && (uvOk vl && ((isE lo && isE hi) && (decide (mo = 0) && !bk))))) := rfl
      generalize akK ky vl lo hi mo bk = zk at *
      generalize uOk ky = z1 at *
      generalize uvOk vl = z2 at *
      generalize (isE lo && isE hi) = z3 at *
      cases z1 with
      | false =>
        go_enter Tryd.func63, Tryd.ntmps63
        go_wp2_with fail
        refine (C1.out _).mono ?_
        rintro r w1 ⟨rfl, rfl⟩
        go_wp2
        go_ret
        exact ⟨by rw [HV.out, HW.out, HX.out]; rfl, B0.out⟩
      | true =>
        cases z2 with
        | false =>
          go_enter Tryd.func63, Tryd.ntmps63
          go_wp2_with fail
          refine (C1.out _).mono ?_
          rintro r w1 ⟨rfl, rfl⟩
          go_wp2_with fail
          refine (C2.out _).mono ?_
          rintro r w1 ⟨rfl, rfl⟩
          go_wp2
          go_ret
          exact ⟨by rw [HV.out, HW.out, HX.out]; rfl, B0.out⟩
        | true =>
          cases z3 with
          | false =>
            go_enter Tryd.func63, Tryd.ntmps63
            go_wp2_with fail
            refine (C1.out _).mono ?_
            rintro r w1 ⟨rfl, rfl⟩
            go_wp2_with fail
            refine (C2.out _).mono ?_
            rintro r w1 ⟨rfl, rfl⟩
            go_wp2
            go_ret
            exact ⟨by rw [HV.out, HW.out, HX.out]; rfl, B0.out⟩
          | true =>
            by_cases h5 : mo = 0
            · subst h5
              have HM : Hid (decide ((0 : Int) = 0) = true) := decide_eq_true rfl
              go_enter Tryd.func63, Tryd.ntmps63
              go_wp2_with fail
              refine (C1.out _).mono ?_
              rintro r w1 ⟨rfl, rfl⟩
              go_wp2_with fail
              refine (C2.out _).mono ?_
              rintro r w1 ⟨rfl, rfl⟩
              go_wp2
              go_ret
              exact ⟨by rw [HV.out, HW.out, HX.out, HM.out]; rfl, B0.out⟩
            · have HM : Hid (decide (mo = 0) = false) := decide_eq_false h5
              go_enter Tryd.func63, Tryd.ntmps63
              go_wp2_with fail
              refine (C1.out _).mono ?_
              rintro r w1 ⟨rfl, rfl⟩
              go_wp2_with fail
              refine (C2.out _).mono ?_
              rintro r w1 ⟨rfl, rfl⟩
              go_wp2
              go_ret
              exact ⟨by rw [HV.out, HW.out, HX.out, HM.out]; rfl, B0.out⟩
    · have HW : Hid (isE vl = false) := by show _ = false; exact decide_eq_false h2
      have h3 : vl.toList.isEmpty = false := by simpa using h2
      generalize akOk 1 ky vl lo hi mo bk = z0 at *
      go_enter Tryd.func63, Tryd.ntmps63
      go_wp2
      go_ret
      exact ⟨by rw [HV.out, HW.out]; rfl, B0.out⟩
  · by_cases k3 : k = 3
    · subst k3
      have HV := hid (akOk_3 ky vl lo hi mo bk)
      by_cases h2 : vl.toList = []
      · have HW : Hid (isE vl = true) := by show _ = true; exact decide_eq_true h2
        generalize akOk 3 ky vl lo hi mo bk = z0 at *
        have HX : Hid (akK ky vl lo hi mo bk = (uOk ky && (uvOk vl && ((isE lo && isE hi) && (decide (mo = 0) && !bk))))) := rfl
        generalize akK ky vl lo hi mo bk = zk at *
        generalize uOk ky = z1 at *
        generalize uvOk vl = z2 at *
        generalize (isE lo && isE hi) = z3 at *
        cases z1 with
        | false =>
          go_enter Tryd.func63, Tryd.ntmps63
          go_wp2_with fail
          refine (C1.out _).mono ?_
          rintro r w1 ⟨rfl, rfl⟩
          go_wp2
          go_ret
          exact ⟨by rw [HV.out, HW.out, HX.out]; rfl, B0.out⟩
        | true =>
          cases z2 with
          | false =>
            go_enter Tryd.func63, Tryd.ntmps63
            go_wp2_with fail
            refine (C1.out _).mono ?_
            rintro r w1 ⟨rfl, rfl⟩
            go_wp2_with fail
            refine (C2.out _).mono ?_
            rintro r w1 ⟨rfl, rfl⟩
            go_wp2
            go_ret
            exact ⟨by rw [HV.out, HW.out, HX.out]; rfl, B0.out⟩
          | true =>
            cases z3 with
            | false =>
              go_enter Tryd.func63, Tryd.ntmps63
              go_wp2_with fail
              refine (C1.out _).mono ?_
              rintro r w1 ⟨rfl, rfl⟩
              go_wp2_with fail
              refine (C2.out _).mono ?_
              rintro r w1 ⟨rfl, rfl⟩
              go_wp2
              go_ret
              exact ⟨by rw [HV.out, HW.out, HX.out]; rfl, B0.out⟩
            | true =>
              by_cases h5 : mo = 0
              · subst h5
                have HM : Hid (decide ((0 : Int) = 0) = true) := decide_eq_true rfl
                go_enter Tryd.func63, Tryd.ntmps63
                go_wp2_with fail
                refine (C1.out _).mono ?_
                rintro r w1 ⟨rfl, rfl⟩
                go_wp2_with fail
                refine (C2.out _).mono ?_
                rintro r w1 ⟨rfl, rfl⟩
                go_wp2
                go_ret
                exact ⟨by rw [HV.out, HW.out, HX.out, HM.out]; rfl, B0.out⟩
              · have HM : Hid (decide (mo = 0) = false) := decide_eq_false h5
                go_enter Tryd.func63, Tryd.ntmps63
                go_wp2_with fail
                refine (C1.out _).mono ?_
                rintro r w1 ⟨rfl, rfl⟩
                go_wp2_with fail
                refine (C2.out _).mono ?_
                rintro r w1 ⟨rfl, rfl⟩
                go_wp2
                go_ret
                exact ⟨by rw [HV.out, HW.out, HX.out, HM.out]; rfl, B0.out⟩
      · have HW : Hid (isE vl = false) := by show _ = false; exact decide_eq_false h2
        have h3 : vl.toList.isEmpty = false := by simpa using h2
        generalize akOk 3 ky vl lo hi mo bk = z0 at *
        go_enter Tryd.func63, Tryd.ntmps63
        go_wp2
        go_ret
        exact ⟨by rw [HV.out, HW.out]; rfl, B0.out⟩
    · by_cases k2 : k = 2
      · subst k2
        have HV := hid (akOk_2 ky vl lo hi mo bk)
        generalize akOk 2 ky vl lo hi mo bk = z0 at *
        have HX : Hid (akK ky vl lo hi mo bk = (uOk ky && (uvOk vl && ((isE lo && isE hi) && (decide (mo = 0) && !bk))))) := rfl
        generalize akK ky vl lo hi mo bk = zk at *
        generalize uOk ky = z1 at *
        generalize uvOk vl = z2 at *
        generalize (isE lo && isE hi) = z3 at *
        cases z1 with
        | false =>
          go_enter Tryd.func63, Tryd.ntmps63
          go_wp2_with fail
          refine (C1.out _).mono ?_
          rintro r w1 ⟨rfl, rfl⟩
          go_wp2
          go_ret
          exact ⟨by rw [HV.out, HX.out]; rfl, B0.out⟩
        | true =>
          cases z2 with
          | false =>
            go_enter Tryd.func63, Tryd.ntmps63
            go_wp2_with fail
            refine (C1.out _).mono ?_
            rintro r w1 ⟨rfl, rfl⟩
            go_wp2_with fail
            refine (C2.out _).mono ?_
            rintro r w1 ⟨rfl, rfl⟩
            go_wp2
            go_ret
            exact ⟨by rw [HV.out, HX.out]; rfl, B0.out⟩
          | true =>
            cases z3 with
            | false =>
              go_enter Tryd.func63, Tryd.ntmps63
              go_wp2_with fail
              refine (C1.out _).mono ?_
              rintro r w1 ⟨rfl, rfl⟩
              go_wp2_with fail
              refine (C2.out _).mono ?_
              rintro r w1 ⟨rfl, rfl⟩
              go_wp2
              go_ret
              exact ⟨by rw [HV.out, HX.out]; rfl, B0.out⟩
            | true =>
              by_cases h5 : mo = 0
              · subst h5
                have HM : Hid (decide ((0 : Int) = 0) = true) := decide_eq_true rfl
                go_enter Tryd.func63, Tryd.ntmps63
                go_wp2_with fail
                refine (C1.out _).mono ?_
                rintro r w1 ⟨rfl, rfl⟩
                go_wp2_with fail
                refine (C2.out _).mono ?_
                rintro r w1 ⟨rfl, rfl⟩
                go_wp2
                go_ret
                exact ⟨by rw [HV.out, HX.out, HM.out]; rfl, B0.out⟩
              · have HM : Hid (decide (mo = 0) = false) := decide_eq_false h5
                go_enter Tryd.func63, Tryd.ntmps63
                go_wp2_with fail
                refine (C1.out _).mono ?_
                rintro r w1 ⟨rfl, rfl⟩
                go_wp2_with fail
                refine (C2.out _).mono ?_
                rintro r w1 ⟨rfl, rfl⟩
                go_wp2
                go_ret
                exact ⟨by rw [HV.out, HX.out, HM.out]; rfl, B0.out⟩
      · by_cases k4 : k = 4
        · subst k4
          have HV := hid (akOk_4 ky vl lo hi mo bk)
          generalize akOk 4 ky vl lo hi mo bk = z0 at *
          have HX : Hid (akS ky vl lo hi mo = ((decide (1 ≤ mo) && decide (mo ≤ 8)) && (rchOk lo hi && (isE ky && isE vl)))) := rfl
          generalize akS ky vl lo hi mo = zk at *
          generalize rchOk lo hi = z1 at *
          clear hq hg C1 C2
          by_cases h1 : ky.toList = []
          · have HW1 : Hid (isE ky = true) := by show _ = true; exact decide_eq_true h1
            by_cases h2 : vl.toList = []
            · have HW2 : Hid (isE vl = true) := by show _ = true; exact decide_eq_true h2
              have K0 := hid ((Bk.new w 35 [.int .i64 4, .string ky, .string vl, .string lo, .string hi, .int .i64 mo, .bool bk]).alloc (.cells #[.string ⟨#[]⟩, .string ⟨#[]⟩] 33))
              cases z1 with
              | false =>
                go_enter Tryd.func63, Tryd.ntmps63
                go_wp2_with fail
                refine (C3.out _).mono ?_
                generalize (w.alloc (.cells #[.int .i64 4, .string ky, .string vl, .string lo, .string hi, .int .i64 mo, .bool bk] 35)).alloc (.cells #[.string ⟨#[]⟩, .string ⟨#[]⟩] 33) = U at *
                rintro r w1 ⟨rfl, hb⟩
                have K1 := hid (K0.out.below hb)
                have B1 := hid (B0.out.trans (hb.mono B0.out.size))
                clear K0 B0 hb
                have x0 := K1.out.cell (j := 0) rfl
                have x1 := K1.out.cell (j := 1) rfl
                have x2 := K1.out.cell (j := 2) rfl
                have x3 := K1.out.cell (j := 3) rfl
                have x4 := K1.out.cell (j := 4) rfl
                have x5 := K1.out.cell (j := 5) rfl
                have x6 := K1.out.cell (j := 6) rfl
                go_wp2
                go_ret
                exact ⟨by rw [HV.out, HX.out, HW1.out, HW2.out]; simp, B1.out⟩
              | true =>
                by_cases m1 : 1 ≤ mo
                · have HD : Hid (decide (1 ≤ mo) = true) := decide_eq_true m1
                  go_enter Tryd.func63, Tryd.ntmps63
                  go_wp2_with fail
                  refine (C3.out _).mono ?_
                  generalize (w.alloc (.cells #[.int .i64 4, .string ky, .string vl, .string lo, .string hi, .int .i64 mo, .bool bk] 35)).alloc (.cells #[.string ⟨#[]⟩, .string ⟨#[]⟩] 33) = U at *
                  rintro r w1 ⟨rfl, hb⟩
                  have K1 := hid (K0.out.below hb)
                  have B1 := hid (B0.out.trans (hb.mono B0.out.size))
                  clear K0 B0 hb
                  have x0 := K1.out.cell (j := 0) rfl
                  have x1 := K1.out.cell (j := 1) rfl
                  have x2 := K1.out.cell (j := 2) rfl
                  have x3 := K1.out.cell (j := 3) rfl
                  have x4 := K1.out.cell (j := 4) rfl
                  have x5 := K1.out.cell (j := 5) rfl
                  have x6 := K1.out.cell (j := 6) rfl
                  go_wp2
                  go_ret
                  exact ⟨by rw [HV.out, HX.out, HW1.out, HW2.out, HD.out]; simp, B1.out⟩
                · have HD : Hid (decide (1 ≤ mo) = false) := decide_eq_false m1
                  go_enter Tryd.func63, Tryd.ntmps63
                  go_wp2_with fail
                  refine (C3.out _).mono ?_
                  generalize (w.alloc (.cells #[.int .i64 4, .string ky, .string vl, .string lo, .string hi, .int .i64 mo, .bool bk] 35)).alloc (.cells #[.string ⟨#[]⟩, .string ⟨#[]⟩] 33) = U at *
                  rintro r w1 ⟨rfl, hb⟩
                  have K1 := hid (K0.out.below hb)
                  have B1 := hid (B0.out.trans (hb.mono B0.out.size))
                  clear K0 B0 hb
                  have x0 := K1.out.cell (j := 0) rfl
                  have x1 := K1.out.cell (j := 1) rfl
                  have x2 := K1.out.cell (j := 2) rfl
                  have x3 := K1.out.cell (j := 3) rfl
                  have x4 := K1.out.cell (j := 4) rfl
                  have x5 := K1.out.cell (j := 5) rfl
                  have x6 := K1.out.cell (j := 6) rfl
                  go_wp2
                  go_ret
                  exact ⟨by rw [HV.out, HX.out, HW1.out, HW2.out, HD.out]; simp, B1.out⟩
            · have HW2 : Hid (isE vl = false) := by show _ = false; exact decide_eq_false h2
              have h3 : vl.toList.isEmpty = false := by simpa using h2
              go_enter Tryd.func63, Tryd.ntmps63
              go_wp2
              go_ret
              exact ⟨by rw [HV.out, HX.out, HW1.out, HW2.out]; simp, B0.out⟩
          · have HW1 : Hid (isE ky = false) := by show _ = false; exact decide_eq_false h1
            have h3 : ky.toList.isEmpty = false := by simpa using h1
            go_enter Tryd.func63, Tryd.ntmps63
            go_wp2
            go_ret
            exact ⟨by rw [HV.out, HX.out, HW1.out]; simp, B0.out⟩
        · have HV := hid (akOk_no k1 k2 k3 k4 ky vl lo hi mo bk)
          clear hq hg C1 C2 C3
          by_cases h2 : vl.toList = []
          · by_cases g1 : 1 ≤ k
            · have g2 : ¬ k ≤ 3 := by omega
              go_enter Tryd.func63, Tryd.ntmps63
              go_wp2
              go_ret
              exact ⟨by rw [HV.out]; rfl, B0.out⟩
            · skip
              go_enter Tryd.func63, Tryd.ntmps63
              go_wp2
              go_ret
              exact ⟨by rw [HV.out]; rfl, B0.out⟩
          · have h3 : vl.toList.isEmpty = false := by simpa using h2
            go_enter Tryd.func63, Tryd.ntmps63
            go_wp2
            go_ret
            exact ⟨by rw [HV.out]; rfl, B0.out⟩
end Go.Proofs.YtjddkofpfmjojaaDoor
/-
  Slices of strings, of numbers and of nodes: what is read through them.
-/
namespace Go.Proofs.YtjddkofpfmjojaaDoor
open Go.RowKit

def Sr (w : World) (S : Nat → Prop) (v : Value) (ss : List ByteArray) : Prop := Rw w S v ss.length (ss.map Value.string)
def Ir (w : World) (S : Nat → Prop) (v : Value) (ks : List Int) : Prop := Rw w S v ks.length (ks.map (Value.int .i64))
def sAt (ss : List ByteArray) (i : Nat) : ByteArray := ss[i]?.getD ⟨#[]⟩
def iAt (ks : List Int) (i : Nat) : Int := ks[i]?.getD 0
theorem Sr.to {w w' : World} {S R : Nat → Prop} {v : Value} {ss : List ByteArray} (h : Sr w S v ss) (ho : Only R w w') (hd : ∀ b, S b → b < w.heap.size → ¬ R b) : Sr w' S v ss := Rw.to h ho hd
theorem Ir.to {w w' : World} {S R : Nat → Prop} {v : Value} {ss : List Int} (h : Ir w S v ss) (ho : Only R w w') (hd : ∀ b, S b → b < w.heap.size → ¬ R b) : Ir w' S v ss := Rw.to h ho hd
theorem Pr.to {w w' : World} {S R : Nat → Prop} {v : Value} {ss : List PB} (h : Pr w S v ss) (ho : Only R w w') (hd : ∀ b, S b → b < w.heap.size → ¬ R b) : Pr w' S v ss := Rw.to h ho hd
theorem Rw.below {w w' : World} {S : Nat → Prop} {v : Value} {n : Nat} {xs : List Value} (h : Rw w S v n xs) (hb : Below w.heap.size w w') : Rw w' S v n xs := Rw.to h (only_of_below hb (fun _ => False)) (fun _ _ _ h => h)
theorem Sr.below {w w' : World} {S : Nat → Prop} {v : Value} {ss : List ByteArray} (h : Sr w S v ss) (hb : Below w.heap.size w w') : Sr w' S v ss := Rw.below h hb
theorem Ir.below {w w' : World} {S : Nat → Prop} {v : Value} {ss : List Int} (h : Ir w S v ss) (hb : Below w.heap.size w w') : Ir w' S v ss := Rw.below h hb
theorem Sr.shape {w : World} {S : Nat → Prop} {v : Value} {ss : List ByteArray} (h : Sr w S v ss) : ∃ a c, v = .slice a ss.length c ∧ ss.length ≤ c ∧ c ≤ 9223372036854775807 := Rw.shape h
theorem Ir.shape {w : World} {S : Nat → Prop} {v : Value} {ss : List Int} (h : Ir w S v ss) : ∃ a c, v = .slice a ss.length c ∧ ss.length ≤ c ∧ c ≤ 9223372036854775807 := Rw.shape h
theorem Rw.at {w : World} {S : Nat → Prop} {a : Option Addr} {n c m : Nat} {xs : List Value} (h : Rw w S (.slice a n c) m xs) (hp : 0 < n) : ∃ b off, a = some ⟨b, off, none⟩ ∧ S b ∧ b < w.heap.size ∧ ∀ j u, xs[j]? = some u → w.cell? ⟨b, off + j, none⟩ = some u := by
  obtain ⟨a', c', h1, h2, h3, h4, hn, h5⟩ := h
  cases h1
  obtain ⟨b, off, h6, h7, h8, h9⟩ := h5 hp
  exact ⟨b, off, h6, h8, h7, h9⟩
theorem Sr.at {w : World} {S : Nat → Prop} {a : Option Addr} {n c : Nat} {ss : List ByteArray} (h : Sr w S (.slice a n c) ss) (hp : 0 < n) : ∃ b off, a = some ⟨b, off, none⟩ ∧ S b ∧ b < w.heap.size ∧ ∀ i, i < n → w.cell? ⟨b, off + i, none⟩ = some (.string (sAt ss i)) := by
  have hn := (Rw.len h).1
  obtain ⟨b, off, h1, h2, h3, h4⟩ := Rw.at h hp
  refine ⟨b, off, h1, h2, h3, fun i hi => h4 i _ ?_⟩
  simp [sAt, show i < ss.length by omega]
theorem Ir.at {w : World} {S : Nat → Prop} {a : Option Addr} {n c : Nat} {ss : List Int} (h : Ir w S (.slice a n c) ss) (hp : 0 < n) : ∃ b off, a = some ⟨b, off, none⟩ ∧ S b ∧ b < w.heap.size ∧ ∀ i, i < n → w.cell? ⟨b, off + i, none⟩ = some (.int .i64 (iAt ss i)) := by
  have hn := (Rw.len h).1
  obtain ⟨b, off, h1, h2, h3, h4⟩ := Rw.at h hp
  refine ⟨b, off, h1, h2, h3, fun i hi => h4 i _ ?_⟩
  simp [iAt, show i < ss.length by omega]
abbrev V3 := Value × Value × Value
/-- The cells of a list of nodes. -/
def ncs : List V3 → List Value
  | [] => []
  | p :: ps => p.1 :: p.2.1 :: p.2.2 :: ncs ps
def vAt (V : List V3) (i : Nat) : V3 := V[i]?.getD (.slice none 0 0, .slice none 0 0, .slice none 0 0)
theorem ncs_length (ps : List V3) : (ncs ps).length = ps.length * 3 := by
  induction ps with
  | nil => rfl
  | cons p ps ih => simp only [ncs, List.length_cons, ih]; omega
theorem ncs_append (ps qs : List V3) : ncs (ps ++ qs) = ncs ps ++ ncs qs := by
  induction ps with
  | nil => rfl
  | cons p ps ih => simp only [ncs, List.cons_append, ih]
theorem ncs_at (ps : List V3) : ∀ i, i < ps.length → (ncs ps)[i * 3]? = some (vAt ps i).1 ∧ (ncs ps)[i * 3 + 1]? = some (vAt ps i).2.1 ∧ (ncs ps)[i * 3 + 2]? = some (vAt ps i).2.2 := by
  induction ps with
  | nil => intro i h; exact absurd h (Nat.not_lt_zero _)
  | cons p ps ih =>
    intro i h
    cases i with
    | zero => exact ⟨rfl, rfl, rfl⟩
    | succ i =>
      have := ih i (by simpa using h)
      have e : (i + 1) * 3 = i * 3 + 3 := by omega
      rw [e]
      exact this
theorem ncs_set (ps : List V3) (p : V3) : ∀ j, j < ps.length → ncs (ps.set j p) = (((ncs ps).set (j * 3) p.1).set (j * 3 + 1) p.2.1).set (j * 3 + 2) p.2.2 := by
  induction ps with
  | nil => intro j h; exact absurd h (Nat.not_lt_zero _)
  | cons q ps ih =>
    intro j h
    cases j with
    | zero => rfl
    | succ j =>
      have := ih j (by simpa using h)
      rw [show (j + 1) * 3 = j * 3 + 3 by omega, show j * 3 + 3 + 1 = j * 3 + 1 + 3 by omega, show j * 3 + 3 + 2 = j * 3 + 2 + 3 by omega]
      show q.1 :: q.2.1 :: q.2.2 :: ncs (ps.set j p) = _
      rw [this]
      rfl
/-- A node's three values lead to what it holds. -/
def N1 (w : World) (S : Nat → Prop) (p : V3) (x : NB) : Prop := Pr w S p.1 x.ps ∧ Sr w S p.2.1 x.keys ∧ Ir w S p.2.2 x.kids
theorem N1.to {w w' : World} {S R : Nat → Prop} {p : V3} {x : NB} (h : N1 w S p x) (ho : Only R w w') (hd : ∀ b, S b → b < w.heap.size → ¬ R b) : N1 w' S p x := ⟨h.1.to ho hd, h.2.1.to ho hd, h.2.2.to ho hd⟩
theorem N1.mono {w : World} {S R : Nat → Prop} {p : V3} {x : NB} (h : N1 w S p x) (hd : ∀ b, S b → b < w.heap.size → R b) : N1 w R p x := ⟨Rw.mono h.1 hd, Rw.mono h.2.1 hd, Rw.mono h.2.2 hd⟩
theorem N1.below {w w' : World} {S : Nat → Prop} {p : V3} {x : NB} (h : N1 w S p x) (hb : Below w.heap.size w w') : N1 w' S p x := h.to (only_of_below hb (fun _ => False)) (fun _ _ _ h => h)
/-- The slice value v leads to the nodes ns. -/
def Nr (w : World) (S : Nat → Prop) (v : Value) (ns : List NB) : Prop := ∃ V : List V3, V.length = ns.length ∧ Rw w S v ns.length (ncs V) ∧ ∀ i, i < ns.length → N1 w S (vAt V i) (nAt ns i)
theorem Nr.to {w w' : World} {S R : Nat → Prop} {v : Value} {ns : List NB} (h : Nr w S v ns) (ho : Only R w w') (hd : ∀ b, S b → b < w.heap.size → ¬ R b) : Nr w' S v ns := by
  obtain ⟨V, h1, h2, h3⟩ := h
  exact ⟨V, h1, h2.to ho hd, fun i hi => (h3 i hi).to ho hd⟩
theorem Nr.mono {w : World} {S R : Nat → Prop} {v : Value} {ns : List NB} (h : Nr w S v ns) (hd : ∀ b, S b → b < w.heap.size → R b) : Nr w R v ns := by
  obtain ⟨V, h1, h2, h3⟩ := h
  exact ⟨V, h1, h2.mono hd, fun i hi => (h3 i hi).mono hd⟩
theorem Nr.below {w w' : World} {S : Nat → Prop} {v : Value} {ns : List NB} (h : Nr w S v ns) (hb : Below w.heap.size w w') : Nr w' S v ns := h.to (only_of_below hb (fun _ => False)) (fun _ _ _ h => h)
theorem Nr.shape {w : World} {S : Nat → Prop} {v : Value} {ns : List NB} (h : Nr w S v ns) : ∃ a c, v = .slice a ns.length c ∧ ns.length ≤ c ∧ c ≤ 9223372036854775807 := by
  obtain ⟨V, h1, h2, h3⟩ := h
  exact h2.shape
theorem Nr.len {w : World} {S : Nat → Prop} {a : Option Addr} {n c : Nat} {ns : List NB} (h : Nr w S (.slice a n c) ns) : n = ns.length ∧ n ≤ c ∧ c ≤ 9223372036854775807 := by
  obtain ⟨V, h1, h2, h3⟩ := h
  exact Rw.len h2
/-- The node at place i: its three values, the shapes of these, where they lie. -/
theorem Nr.at {w : World} {S : Nat → Prop} {a : Option Addr} {n c : Nat} {ns : List NB} (h : Nr w S (.slice a n c) ns) (hp : 0 < n) : ∃ b off, a = some ⟨b, off, none⟩ ∧ S b ∧ b < w.heap.size ∧ ∀ i, i < n → ∃ ap np cp ax nx cx ai ni ci,
    w.cell? ⟨b, off + i * 3, none⟩ = some (.slice ap np cp) ∧ w.cell? ⟨b, off + i * 3 + 1, none⟩ = some (.slice ax nx cx) ∧ w.cell? ⟨b, off + i * 3 + 2, none⟩ = some (.slice ai ni ci) ∧
      Pr w S (.slice ap np cp) (nAt ns i).ps ∧ Sr w S (.slice ax nx cx) (nAt ns i).keys ∧ Ir w S (.slice ai ni ci) (nAt ns i).kids := by
  obtain ⟨V, h1, h2, h3⟩ := h
  have hn := (Rw.len h2).1
  obtain ⟨b, off, e1, e2, e3, e4⟩ := h2.at hp
  refine ⟨b, off, e1, e2, e3, fun i hi => ?_⟩
  obtain ⟨k1, k2, k3⟩ := h3 i (by omega)
  obtain ⟨c0, c1, c2⟩ := ncs_at V i (by omega)
  have d0 := e4 _ _ c0
  have d1 := e4 _ _ c1
  have d2 := e4 _ _ c2
  generalize vAt V i = p at *
  obtain ⟨p0, p1, p2⟩ := p
  obtain ⟨ap, cp, g0, _⟩ := k1.shape
  obtain ⟨ax, cx, g1, _⟩ := k2.shape
  obtain ⟨ai, ci, g2, _⟩ := k3.shape
  simp only at g0 g1 g2
  subst g0 g1 g2
  exact ⟨ap, _, cp, ax, _, cx, ai, _, ci, d0, d1, d2, k1, k2, k3⟩
end Go.Proofs.YtjddkofpfmjojaaDoor
/-
  Points, ranges in common, ranges within ranges: what the program's functions and the specification's answer.
-/
namespace Go.Proofs.YtjddkofpfmjojaaDoor
open Go.RowKit

theorem eqRange_same (lo hi : ByteArray) (w : World) : Calls Tryd.prog 61 #[rng lo hi, rng lo hi] w fun e w' => e = .returned (.bool true) ∧ Below w.heap.size w w' := by
  show Calls Tryd.prog 61 #[.agg #[.string lo, .string hi], .agg #[.string lo, .string hi]] w _
  go_enter Tryd.func61, Tryd.ntmps61
  go_wp2
  go_ret
  exact ⟨rfl, below_new (below_new (Below.refl _ _))⟩
/-- The lesser of two ends (none: the greatest). -/
def lsr (a b : ByteArray) : ByteArray := if a.toList = [] then b else if ahd a b then a else b
/-- The greater of two beginnings. -/
def mxl (a b : ByteArray) : ByteArray := if Op.bytesLess a.toList b.toList then b else a
def bth (la ha lb hb : ByteArray) : Bool := rOk la ha && rOk lb hb && rOk (mxl la lb) (lsr ha hb)
def bLo (la ha lb hb : ByteArray) : ByteArray := if bth la ha lb hb then mxl la lb else ⟨#[]⟩
def bHi (la ha lb hb : ByteArray) : ByteArray := if bth la ha lb hb then lsr ha hb else ⟨#[]⟩
theorem run_mxl (ts : Array TypeId) (t : TypeId) (a b : ByteArray) (w : World) : (Builtin.max_ ts t #[.string a, .string b]).run Tryd.prog w = .ok (.string (mxl a b)) w := by
  have e : (Builtin.max_ ts t #[.string a, .string b]).run Tryd.prog w = .ok (.string (if (!Op.bytesLess a.toList b.toList) = true then a else b)) w := by
    simp [Builtin.max_, Builtin.max2, Op.stringOp, asBool]
  rw [e]
  unfold mxl
  cases Op.bytesLess a.toList b.toList <;> rfl
theorem s2q {w w1 : World} (h : Below (w.alloc (.cells #[.string ⟨#[]⟩, .string ⟨#[]⟩] 33)).heap.size (w.alloc (.cells #[.string ⟨#[]⟩, .string ⟨#[]⟩] 33)) w1) :
    w1.cell? ⟨w.heap.size, 0, none⟩ = some (.string ⟨#[]⟩) ∧ w1.cell? ⟨w.heap.size, 1, none⟩ = some (.string ⟨#[]⟩) ∧ w1.frozen? ⟨w.heap.size, 0, none⟩ = false ∧ w1.frozen? ⟨w.heap.size, 1, none⟩ = false := by
  exact ((Blk.new w ⟨#[]⟩ ⟨#[]⟩).kept h).facts
theorem keep4 {w w1 : World} {g : Nat} {x y : Value} (h : Below w.heap.size w w1) (q0 : w.cell? ⟨g, 0, none⟩ = some x) (q1 : w.cell? ⟨g, 1, none⟩ = some y) (q2 : w.frozen? ⟨g, 0, none⟩ = false) (q3 : w.frozen? ⟨g, 1, none⟩ = false) :
    w1.cell? ⟨g, 0, none⟩ = some x ∧ w1.cell? ⟨g, 1, none⟩ = some y ∧ w1.frozen? ⟨g, 0, none⟩ = false ∧ w1.frozen? ⟨g, 1, none⟩ = false := by
  have hl : g < w.heap.size := block_lt q0
  exact ⟨by rw [h.cell (p := ⟨g, 0, none⟩) hl]; exact q0, by rw [h.cell (p := ⟨g, 1, none⟩) hl]; exact q1, by rw [h.frozen (p := ⟨g, 0, none⟩) hl]; exact q2, by rw [h.frozen (p := ⟨g, 1, none⟩) hl]; exact q3⟩
theorem s2q_then {C : Prop} {w w1 : World} (h : Below (w.alloc (.cells #[.string ⟨#[]⟩, .string ⟨#[]⟩] 33)).heap.size (w.alloc (.cells #[.string ⟨#[]⟩, .string ⟨#[]⟩] 33)) w1)
    (k : w1.cell? ⟨w.heap.size, 0, none⟩ = some (.string ⟨#[]⟩) → w1.cell? ⟨w.heap.size, 1, none⟩ = some (.string ⟨#[]⟩) → w1.frozen? ⟨w.heap.size, 0, none⟩ = false → w1.frozen? ⟨w.heap.size, 1, none⟩ = false → C) : C :=
  k (s2q h).1 (s2q h).2.1 (s2q h).2.2.1 (s2q h).2.2.2
theorem s2d_then {C : Prop} {w w1 : World} (h : Below (w.alloc (.cells #[.string ⟨#[]⟩, .string ⟨#[]⟩] 33)).drew.heap.size (w.alloc (.cells #[.string ⟨#[]⟩, .string ⟨#[]⟩] 33)).drew w1)
    (k : w1.cell? ⟨w.heap.size, 0, none⟩ = some (.string ⟨#[]⟩) → w1.cell? ⟨w.heap.size, 1, none⟩ = some (.string ⟨#[]⟩) → w1.frozen? ⟨w.heap.size, 0, none⟩ = false → w1.frozen? ⟨w.heap.size, 1, none⟩ = false → C) : C :=
  s2q_then (w := w) ⟨h.os, h.tape, h.output, h.size, h.block⟩ k
theorem keep4_then {C : Prop} {w w1 : World} {g : Nat} {x y : Value} (h : Below w.heap.size w w1) (q0 : w.cell? ⟨g, 0, none⟩ = some x) (q1 : w.cell? ⟨g, 1, none⟩ = some y) (q2 : w.frozen? ⟨g, 0, none⟩ = false) (q3 : w.frozen? ⟨g, 1, none⟩ = false)
    (k : w1.cell? ⟨g, 0, none⟩ = some x → w1.cell? ⟨g, 1, none⟩ = some y → w1.frozen? ⟨g, 0, none⟩ = false → w1.frozen? ⟨g, 1, none⟩ = false → C) : C :=
  k (keep4 h q0 q1 q2 q3).1 (keep4 h q0 q1 q2 q3).2.1 (keep4 h q0 q1 q2 q3).2.2.1 (keep4 h q0 q1 q2 q3).2.2.2
theorem Trio.cells {w v : World} {la ha lb hb : ByteArray} (T : Trio w v la ha lb hb) :
    v.cell? ⟨w.heap.size, 0, none⟩ = some (.string la) ∧ v.cell? ⟨w.heap.size, 1, none⟩ = some (.string ha) ∧ v.cell? ⟨w.heap.size + 1, 0, none⟩ = some (.string lb) ∧ v.cell? ⟨w.heap.size + 1, 1, none⟩ = some (.string hb) ∧ Trio w v la ha lb hb :=
  ⟨T.a.facts.1, T.a.facts.2.1, T.b.facts.1, T.b.facts.2.1, T⟩
theorem Trio.call {w v v' : World} {la ha lb hb : ByteArray} (k : Below v.heap.size v v') (h : v.cell? ⟨w.heap.size, 0, none⟩ = some (.string la) ∧ v.cell? ⟨w.heap.size, 1, none⟩ = some (.string ha) ∧ v.cell? ⟨w.heap.size + 1, 0, none⟩ = some (.string lb) ∧ v.cell? ⟨w.heap.size + 1, 1, none⟩ = some (.string hb) ∧ Trio w v la ha lb hb) :
    v'.cell? ⟨w.heap.size, 0, none⟩ = some (.string la) ∧ v'.cell? ⟨w.heap.size, 1, none⟩ = some (.string ha) ∧ v'.cell? ⟨w.heap.size + 1, 0, none⟩ = some (.string lb) ∧ v'.cell? ⟨w.heap.size + 1, 1, none⟩ = some (.string hb) ∧ Trio w v' la ha lb hb := (h.2.2.2.2.step k).cells
theorem Trio.big {w v v' : World} {la ha lb hb : ByteArray} (k : Below v.heap.size v v') (h : v.cell? ⟨w.heap.size, 0, none⟩ = some (.string la) ∧ v.cell? ⟨w.heap.size, 1, none⟩ = some (.string ha) ∧ v.cell? ⟨w.heap.size + 1, 0, none⟩ = some (.string lb) ∧ v.cell? ⟨w.heap.size + 1, 1, none⟩ = some (.string hb) ∧ Trio w v la ha lb hb) :
    w.heap.size + 1 + 1 < v'.heap.size := Nat.lt_of_lt_of_le h.2.2.2.2.r.lt k.size
theorem Trio.swap {w v : World} {la ha lb hb : ByteArray} {o o' : Obj} (hz : w.heap.size + 1 + 1 < v.heap.size) (h : (v.alloc o).cell? ⟨w.heap.size, 0, none⟩ = some (.string la) ∧ (v.alloc o).cell? ⟨w.heap.size, 1, none⟩ = some (.string ha) ∧ (v.alloc o).cell? ⟨w.heap.size + 1, 0, none⟩ = some (.string lb) ∧ (v.alloc o).cell? ⟨w.heap.size + 1, 1, none⟩ = some (.string hb) ∧ Trio w (v.alloc o) la ha lb hb) :
    (v.alloc o').cell? ⟨w.heap.size, 0, none⟩ = some (.string la) ∧ (v.alloc o').cell? ⟨w.heap.size, 1, none⟩ = some (.string ha) ∧ (v.alloc o').cell? ⟨w.heap.size + 1, 0, none⟩ = some (.string lb) ∧ (v.alloc o').cell? ⟨w.heap.size + 1, 1, none⟩ = some (.string hb) ∧ Trio w (v.alloc o') la ha lb hb := by
  have T := h.2.2.2.2
  refine Trio.cells ⟨⟨T.bel.os, T.bel.tape, T.bel.output, by simp; omega, fun k hk => ?_⟩, ?_, ?_, ?_⟩
  · rw [heap_alloc_old v o' (by omega), ← heap_alloc_old v o (by omega)]; exact T.bel.block k hk
  · exact (heap_alloc_old v o' (by omega)).trans ((heap_alloc_old v o (by omega)).symm.trans T.a)
  · exact (heap_alloc_old v o' (by omega)).trans ((heap_alloc_old v o (by omega)).symm.trans T.b)
  · exact (heap_alloc_old v o' (by omega)).trans ((heap_alloc_old v o (by omega)).symm.trans T.r)
theorem Trio.set {w v : World} {la ha lb hb : ByteArray} {g o : Nat} {x : Value} (hz : w.heap.size + 1 + 1 < g) (T : Trio w v la ha lb hb) : Trio w (v.setCell ⟨g, o, none⟩ x) la ha lb hb :=
  ⟨T.bel.setCell (p := ⟨g, o, none⟩) (by show w.heap.size ≤ g; omega) x, (Below.heap_setCell v ⟨g, o, none⟩ x _ (by show w.heap.size ≠ g; omega)).trans T.a,
    (Below.heap_setCell v ⟨g, o, none⟩ x _ (by show w.heap.size + 1 ≠ g; omega)).trans T.b, (Below.heap_setCell v ⟨g, o, none⟩ x _ (by show w.heap.size + 1 + 1 ≠ g; omega)).trans T.r⟩
theorem Trio.sets {w v : World} {la ha lb hb : ByteArray} {g : Nat} {x y : Value} (hz : w.heap.size + 1 + 1 < g) (h : v.cell? ⟨w.heap.size, 0, none⟩ = some (.string la) ∧ v.cell? ⟨w.heap.size, 1, none⟩ = some (.string ha) ∧ v.cell? ⟨w.heap.size + 1, 0, none⟩ = some (.string lb) ∧ v.cell? ⟨w.heap.size + 1, 1, none⟩ = some (.string hb) ∧ Trio w v la ha lb hb) :
    ((v.setCell ⟨g, 0, none⟩ x).setCell ⟨g, 1, none⟩ y).cell? ⟨w.heap.size, 0, none⟩ = some (.string la) ∧ ((v.setCell ⟨g, 0, none⟩ x).setCell ⟨g, 1, none⟩ y).cell? ⟨w.heap.size, 1, none⟩ = some (.string ha) ∧ ((v.setCell ⟨g, 0, none⟩ x).setCell ⟨g, 1, none⟩ y).cell? ⟨w.heap.size + 1, 0, none⟩ = some (.string lb) ∧ ((v.setCell ⟨g, 0, none⟩ x).setCell ⟨g, 1, none⟩ y).cell? ⟨w.heap.size + 1, 1, none⟩ = some (.string hb) ∧ Trio w ((v.setCell ⟨g, 0, none⟩ x).setCell ⟨g, 1, none⟩ y) la ha lb hb := ((h.2.2.2.2.set hz).set hz).cells
theorem Trio.of {w v : World} {la ha lb hb : ByteArray} (h : v.cell? ⟨w.heap.size, 0, none⟩ = some (.string la) ∧ v.cell? ⟨w.heap.size, 1, none⟩ = some (.string ha) ∧ v.cell? ⟨w.heap.size + 1, 0, none⟩ = some (.string lb) ∧ v.cell? ⟨w.heap.size + 1, 1, none⟩ = some (.string hb) ∧ Trio w v la ha lb hb) : Trio w v la ha lb hb := h.2.2.2.2
theorem cell_kept {w w1 : World} {g o : Nat} {x : Value} (h : w.cell? ⟨g, o, none⟩ = some x) (hb : Below w.heap.size w w1) : w1.cell? ⟨g, o, none⟩ = some x := (hb.cell (p := ⟨g, o, none⟩) (block_lt h)).trans h
theorem below_alloc (w : World) (o : Obj) : Below w.heap.size w (w.alloc o) := (Below.refl _ _).alloc (Nat.le_refl _) o
end Go.Proofs.YtjddkofpfmjojaaDoor
/-
  Locks as plain data: names of transactions, rows of locks, what clashes, when a table of locks is right, asking and freeing.
-/
namespace Go.Proofs.YtjddkofpfmjojaaDoor
open Go.RowKit
set_option linter.unusedVariables false
abbrev TX := Int × Int × Int
/-- A lock: its transaction, its range, whether it is exclusive. -/
abbrev LK := TX × (ByteArray × ByteArray) × Bool
def lk0 : LK := ((0, 0, 0), (⟨#[]⟩, ⟨#[]⟩), false)
def lAt (l : List LK) (i : Nat) : LK := l[i]?.getD lk0
theorem lAt_take {l : List LK} {i k : Nat} (h : i < k) : lAt (l.take k) i = lAt l i := by simp [lAt, List.getElem?_take_of_lt h]
theorem lAt_mem {l : List LK} {i : Nat} (h : i < l.length) : lAt l i ∈ l := by simp [lAt, h]
/-- The cells of a row of locks. -/
def lcs : List LK → List Value
  | [] => []
  | p :: ps => .int .i64 p.1.1 :: .int .i64 p.1.2.1 :: .int .i64 p.1.2.2 :: .string p.2.1.1 :: .string p.2.1.2 :: .bool p.2.2 :: lcs ps
theorem lcs_length (l : List LK) : (lcs l).length = l.length * 6 := by
  induction l with
  | nil => rfl
  | cons p ps ih => simp [lcs, ih]; omega
theorem lcs_append (l r : List LK) : lcs (l ++ r) = lcs l ++ lcs r := by
  induction l with
  | nil => rfl
  | cons p ps ih => simp only [lcs, List.cons_append, ih]
theorem lcs_take (l : List LK) : ∀ k, lcs (l.take k) = (lcs l).take (k * 6) := by
  induction l with
  | nil => intro k; simp [lcs]
  | cons p ps ih =>
    intro k
    cases k with
    | zero => rfl
    | succ k =>
      rw [show (k + 1) * 6 = k * 6 + 6 by omega]
      simp only [List.take_succ_cons, lcs, ih]
theorem lcs_at (l : List LK) : ∀ i, i < l.length → (lcs l)[i * 6]? = some (.int .i64 (lAt l i).1.1) ∧ (lcs l)[i * 6 + 1]? = some (.int .i64 (lAt l i).1.2.1) ∧ (lcs l)[i * 6 + 2]? = some (.int .i64 (lAt l i).1.2.2) ∧
    (lcs l)[i * 6 + 3]? = some (.string (lAt l i).2.1.1) ∧ (lcs l)[i * 6 + 4]? = some (.string (lAt l i).2.1.2) ∧ (lcs l)[i * 6 + 5]? = some (.bool (lAt l i).2.2) := by
  induction l with
  | nil => intro i h; exact absurd h (Nat.not_lt_zero _)
  | cons p ps ih =>
    intro i h
    cases i with
    | zero => exact ⟨rfl, rfl, rfl, rfl, rfl, rfl⟩
    | succ i =>
      have := ih i (by simpa using h)
      rw [show (i + 1) * 6 = i * 6 + 6 by omega, show i * 6 + 6 + 1 = i * 6 + 1 + 6 by omega, show i * 6 + 6 + 2 = i * 6 + 2 + 6 by omega, show i * 6 + 6 + 3 = i * 6 + 3 + 6 by omega, show i * 6 + 6 + 4 = i * 6 + 4 + 6 by omega, show i * 6 + 6 + 5 = i * 6 + 5 + 6 by omega]
      exact this
theorem lcs_set (l : List LK) (p : LK) : ∀ j, j < l.length → lcs (l.set j p) = ((((((lcs l).set (j * 6) (.int .i64 p.1.1)).set (j * 6 + 1) (.int .i64 p.1.2.1)).set (j * 6 + 2) (.int .i64 p.1.2.2)).set (j * 6 + 3) (.string p.2.1.1)).set (j * 6 + 4) (.string p.2.1.2)).set (j * 6 + 5) (.bool p.2.2) := by
  induction l with
  | nil => intro j h; exact absurd h (Nat.not_lt_zero _)
  | cons q l ih =>
    intro j h
    cases j with
    | zero => rfl
    | succ j =>
      have := ih j (by simpa using h)
      rw [show (j + 1) * 6 = j * 6 + 6 by omega, show j * 6 + 6 + 1 = j * 6 + 1 + 6 by omega, show j * 6 + 6 + 2 = j * 6 + 2 + 6 by omega, show j * 6 + 6 + 3 = j * 6 + 3 + 6 by omega, show j * 6 + 6 + 4 = j * 6 + 4 + 6 by omega, show j * 6 + 6 + 5 = j * 6 + 5 + 6 by omega]
      show Value.int .i64 q.1.1 :: Value.int .i64 q.1.2.1 :: Value.int .i64 q.1.2.2 :: Value.string q.2.1.1 :: Value.string q.2.1.2 :: Value.bool q.2.2 :: lcs (l.set j p) = _
      rw [this]
      rfl
theorem lcs_one (l : List LK) : ∀ u ∈ lcs l, u.oneCell' = true := by
  induction l with
  | nil => intro u hu; cases hu
  | cons p ps ih =>
    intro u hu
    simp only [lcs, List.mem_cons] at hu
    rcases hu with rfl | rfl | rfl | rfl | rfl | rfl | hu
    · rfl
    · rfl
    · rfl
    · rfl
    · rfl
    · rfl
    · exact ih u hu
/-- The slice value v leads to the locks l. -/
def Lr (w : World) (S : Nat → Prop) (v : Value) (l : List LK) : Prop := Rw w S v l.length (lcs l)
theorem Lr.to {w w' : World} {S R : Nat → Prop} {v : Value} {l : List LK} (h : Lr w S v l) (ho : Only R w w') (hd : ∀ b, S b → b < w.heap.size → ¬ R b) : Lr w' S v l := Rw.to h ho hd
theorem Lr.below {w w' : World} {S : Nat → Prop} {v : Value} {l : List LK} (h : Lr w S v l) (hb : Below w.heap.size w w') : Lr w' S v l := Rw.to h (only_of_below hb (fun _ => False)) (fun _ _ _ h => h)
theorem Lr.mono {w : World} {S R : Nat → Prop} {v : Value} {l : List LK} (h : Lr w S v l) (hd : ∀ b, S b → b < w.heap.size → R b) : Lr w R v l := Rw.mono h hd
theorem Lr.len {w : World} {S : Nat → Prop} {a : Option Addr} {n c : Nat} {l : List LK} (h : Lr w S (.slice a n c) l) : n = l.length ∧ n ≤ c ∧ c ≤ 9223372036854775807 := Rw.len h
theorem Lr.at {w : World} {S : Nat → Prop} {a : Option Addr} {n c : Nat} {l : List LK} (h : Lr w S (.slice a n c) l) (hp : 0 < n) : ∃ b off, a = some ⟨b, off, none⟩ ∧ S b ∧ b < w.heap.size ∧
    ∀ i, i < n → w.cell? ⟨b, off + i * 6, none⟩ = some (.int .i64 (lAt l i).1.1) ∧ w.cell? ⟨b, off + i * 6 + 1, none⟩ = some (.int .i64 (lAt l i).1.2.1) ∧ w.cell? ⟨b, off + i * 6 + 2, none⟩ = some (.int .i64 (lAt l i).1.2.2) ∧
      w.cell? ⟨b, off + i * 6 + 3, none⟩ = some (.string (lAt l i).2.1.1) ∧ w.cell? ⟨b, off + i * 6 + 4, none⟩ = some (.string (lAt l i).2.1.2) ∧ w.cell? ⟨b, off + i * 6 + 5, none⟩ = some (.bool (lAt l i).2.2) := by
  obtain ⟨b, off, h1, h2, h3, h4⟩ := Rw.at h hp
  refine ⟨b, off, h1, h2, h3, fun i hi => ?_⟩
  have hn := h.len.1
  obtain ⟨k0, k1, k2, k3, k4, k5⟩ := lcs_at l i (by omega)
  exact ⟨h4 _ _ k0, by rw [Nat.add_assoc]; exact h4 _ _ k1, by rw [Nat.add_assoc]; exact h4 _ _ k2, by rw [Nat.add_assoc]; exact h4 _ _ k3, by rw [Nat.add_assoc]; exact h4 _ _ k4, by rw [Nat.add_assoc]; exact h4 _ _ k5⟩
theorem lr_nil (w : World) (S : Nat → Prop) : Lr w S (.slice none 0 0) [] := rw_nil w S
/-- The first locks of a row. -/
theorem Lr.first {w : World} {S : Nat → Prop} {a : Option Addr} {n c : Nat} {l : List LK} (h : Lr w S (.slice a n c) l) (k : Nat) (hk : k ≤ n) : Lr w S (.slice a k c) (l.take k) := by
  obtain ⟨a', c', h1, h2, h3, h4, hn, h5⟩ := h
  cases h1
  have hl : (l.take k).length = k := by simp; omega
  unfold Lr
  rw [hl]
  refine ⟨a, c, rfl, by omega, h3, fun h0 => by subst h0; rfl, hn, fun hp => ?_⟩
  obtain ⟨b, off, h6, h7, h8, h9⟩ := h5 (by omega)
  refine ⟨b, off, h6, h7, h8, fun j u hu => h9 j u ?_⟩
  rw [lcs_take] at hu
  have hj : j < k * 6 := by
    rcases Nat.lt_or_ge j (k * 6) with h | h
    · exact h
    · rw [List.getElem?_eq_none (by simp; omega)] at hu; cases hu
  rwa [List.getElem?_take_of_lt hj] at hu
theorem Lr.offS {w : World} {S : Nat → Prop} {a : Option Addr} {n c : Nat} {l : List LK} (h : Lr w S (.slice a n c) l) (k : Nat) (hk : k ≤ n) : Lr w S (.slice a k c) (l.take k) := h.first k hk
theorem anyl_take {α : Type} (l : List α) (f : α → Bool) (d : α) {k : Nat} (h : k < l.length) : (l.take (k + 1)).any f = ((l.take k).any f || f (l[k]?.getD d)) := by
  rw [List.take_succ_eq_append_getElem h, List.any_append]
  simp [h]
theorem anyl_yes {α : Type} (l : List α) (f : α → Bool) (d : α) {k : Nat} (h : k < l.length) (hf : f (l[k]?.getD d) = true) : l.any f = true := by
  rw [List.any_eq_true]
  exact ⟨l[k], List.getElem_mem h, by simpa [h] using hf⟩
theorem rall_succ (f : Nat → Bool) (k : Nat) : (List.range (k + 1)).all f = ((List.range k).all f && f k) := by simp [List.range_succ, List.all_append]
theorem rall_no (f : Nat → Bool) {k n : Nat} (h : k < n) (hf : f k = false) : (List.range n).all f = false := by
  rw [List.all_eq_false]
  exact ⟨k, by simpa using h, by simp [hf]⟩
/-- When a name is right; when one is after another. -/
def txOk (x : TX) : Bool := decide (0 ≤ x.1) && (decide (x.1 ≤ 7) && (decide (1 ≤ x.2.1) && (decide (x.2.1 ≤ 999) && (decide (1 ≤ x.2.2) && decide (x.2.2 ≤ 999)))))
theorem txOk_iff (x : TX) : txOk x = true ↔ (0 ≤ x.1 ∧ x.1 ≤ 7 ∧ 1 ≤ x.2.1 ∧ x.2.1 ≤ 999 ∧ 1 ≤ x.2.2 ∧ x.2.2 ≤ 999) := by simp [txOk]
def txAfter (a b : TX) : Bool := txOk a && (txOk b && (decide (a.1 = b.1) && (decide (b.2.1 < a.2.1) || (decide (a.2.1 = b.2.1) && decide (b.2.2 < a.2.2)))))
def lkOk (x : LK) : Bool := txOk x.1 && rOk x.2.1.1 x.2.1.2
def clash (a b : LK) : Bool := !decide (a.1 = b.1) && ((a.2.2 || b.2.2) && bth a.2.1.1 a.2.1.2 b.2.1.1 b.2.1.2)
def anyC (l : List LK) (x : LK) : Bool := l.any (clash x)
def hasT (l : List LK) (t : TX) : Bool := l.any (fun y => decide (y.1 = t))
def hpk (l : List LK) (i : Nat) : Bool := lkOk (lAt l i) && !anyC (l.take i) (lAt l i)
def wpk (h l : List LK) (i : Nat) : Bool := lkOk (lAt l i) && (!hasT (l.take i) (lAt l i).1 && (anyC h (lAt l i) || anyC (l.take i) (lAt l i)))
def heldB (h : List LK) : Bool := (List.range h.length).all (hpk h)
def waitB (h l : List LK) : Bool := (List.range l.length).all (wpk h l)
/-- When a table of locks is right. -/
def lksOk (h l : List LK) : Bool := decide (h.length + l.length ≤ 60) && (heldB h && waitB h l)
theorem lksOk_len {h l : List LK} (e : lksOk h l = true) : h.length + l.length ≤ 60 := by
  simp [lksOk] at e
  exact e.1
/-- One lock more. -/
def mustW (h l : List LK) (x : LK) : Bool := anyC h x || anyC l x
def putL (h l : List LK) (x : LK) : List LK × List LK := if mustW h l x then (h, l ++ [x]) else (h ++ [x], l)
/-- LockAsk: the code, and the table. -/
def askC (h l : List LK) (x : LK) : Int := if lksOk h l && (lkOk x && !hasT l x.1) then (if h.length + l.length = 60 then 2 else if mustW h l x then 3 else 0) else 1
def askT (h l : List LK) (x : LK) : List LK × List LK := if lksOk h l && (lkOk x && !hasT l x.1) then (if h.length + l.length = 60 then ([], []) else putL h l x) else ([], [])
/-- LockFree over those that wait and aren't freed: the table, and what was granted. -/
def grant : List LK → List LK × List LK × List LK → List LK × List LK × List LK
  | [], s => s
  | y :: ys, (h, l, g) => grant ys (if mustW h l y then (h, l ++ [y], g) else (h ++ [y], l, g ++ [y]))
def others (l : List LK) (t : TX) : List LK := l.filter (fun y => !decide (y.1 = t))
def freeV (h l : List LK) (t : TX) : List LK × List LK × List LK := if lksOk h l then grant (others l t) (others h t, [], []) else ([], [], [])
end Go.Proofs.YtjddkofpfmjojaaDoor
/-
  Names of transactions: TxOk and TxAfter of the program and of the specification; what the law's helpers do with a name.
-/
namespace Go.Proofs.YtjddkofpfmjojaaDoor
open Go.RowKit
set_option linter.unusedVariables false
theorem load_tx {w : World} {g o : Nat} {c e n : Int} (c0 : w.cell? ⟨g, o, none⟩ = some (.int .i64 c)) (c1 : w.cell? ⟨g, o + 1, none⟩ = some (.int .i64 e)) (c2 : w.cell? ⟨g, o + 2, none⟩ = some (.int .i64 n)) :
    (loadVar 50 ⟨g, o, none⟩).run Tryd.prog w = .ok (.agg #[.int .i64 c, .int .i64 e, .int .i64 n]) w := by go_simp
theorem load_tx0 {w : World} {g : Nat} {c e n : Int} (c0 : w.cell? ⟨g, 0, none⟩ = some (.int .i64 c)) (c1 : w.cell? ⟨g, 1, none⟩ = some (.int .i64 e)) (c2 : w.cell? ⟨g, 2, none⟩ = some (.int .i64 n)) :
    (loadVar 50 ⟨g, 0, none⟩).run Tryd.prog w = .ok (.agg #[.int .i64 c, .int .i64 e, .int .i64 n]) w := by go_simp
theorem results_tx {fn : Func} {p : Tmp} (h : fn.results = #[.cell p 50]) (tmps : Array Value) (w : World) (g : Nat) {c e n : Int} (hp : tmps.getD p undef = .pointer (some ⟨g, 0, none⟩))
    (c0 : w.cell? ⟨g, 0, none⟩ = some (.int .i64 c)) (c1 : w.cell? ⟨g, 1, none⟩ = some (.int .i64 e)) (c2 : w.cell? ⟨g, 2, none⟩ = some (.int .i64 n)) : (results fn tmps).run Tryd.prog w = .ok (.agg #[.int .i64 c, .int .i64 e, .int .i64 n]) w := by
  have hp' : tmps[p]?.getD undef = .pointer (some ⟨g, 0, none⟩) := by simpa using hp
  simp [results, h, hp', asAddr, load_tx0 c0 c1 c2]
theorem eqIn_tx (c e n c' e' n' : Int) (w : World) : (Op.equalIn 10000 50 (.agg #[.int .i64 c, .int .i64 e, .int .i64 n]) (.agg #[.int .i64 c', .int .i64 e', .int .i64 n'])).run Tryd.prog w = .ok (decide ((c, e, n) = (c', e', n'))) w := by
  rw [run_equalIn_struct w 9999 50 _ _ (by kernel_rfl) (by kernel_rfl)]
  obtain ⟨f0, f1, f2, hu, n0, n1, n2, t0, t1, t2, o0, o1, o2⟩ : ∃ f0 f1 f2 : Field, Tryd.prog.underlying 50 = some (.struct #[f0, f1, f2]) ∧ f0.name = "C" ∧ f1.name = "E" ∧ f2.name = "N" ∧ f0.type = 3 ∧ f1.type = 3 ∧ f2.type = 3 ∧ f0.offset = 0 ∧ f1.offset = 1 ∧ f2.offset = 2 := ⟨_, _, _, Tryd.underlying50, rfl, rfl, rfl, rfl, rfl, rfl, rfl, rfl, rfl⟩
  have hl : (Tryd.prog.fieldsOf 50).toList = [f0, f1, f2] := by simp [Program.fieldsOf, hu]
  rw [hl]
  have p0 : ∀ (x y z : Value) (w : World), (Go.part 3 #[x, y, z] 0).run Tryd.prog w = .ok x w := fun x y z w => by kernel_rfl
  have p1 : ∀ (x y z : Value) (w : World), (Go.part 3 #[x, y, z] 1).run Tryd.prog w = .ok y w := fun x y z w => by kernel_rfl
  have p2 : ∀ (x y z : Value) (w : World), (Go.part 3 #[x, y, z] 2).run Tryd.prog w = .ok z w := fun x y z w => by kernel_rfl
  have hi : ∀ (a b : Int) (w : World), (Op.equalIn 9999 3 (.int .i64 a) (.int .i64 b)).run Tryd.prog w = .ok (a == b) w := fun a b w => run_equalIn_int w 9998 3 .i64 .i64 a b (by kernel_rfl)
  have q0 : ("C" : String) ≠ "_" := by decide
  have q1 : ("E" : String) ≠ "_" := by decide
  have q2 : ("N" : String) ≠ "_" := by decide
  simp only [Op.eqFields, n0, n1, n2, t0, t1, t2, o0, o1, o2, if_pos q0, if_pos q1, if_pos q2, Sem.run_bind, p0, p1, p2, hi, Result.andThen_ok, Sem.run_ite, Sem.run_pure]
  by_cases h0 : c = c'
  · by_cases h1 : e = e'
    · by_cases h2 : n = n'
      · simp [h0, h1, h2]
      · simp [h0, h1, h2]
    · simp [h0, h1]
  · simp [h0]
theorem eql_tx (c e n c' e' n' : Int) (w : World) : (binOp .eql 50 (.agg #[.int .i64 c, .int .i64 e, .int .i64 n]) (.agg #[.int .i64 c', .int .i64 e', .int .i64 n'])).run Tryd.prog w = .ok (.bool (decide ((c, e, n) = (c', e', n')))) w := by
  rw [run_eql_struct, eqIn_tx]; rfl
theorem neq_tx (c e n c' e' n' : Int) (w : World) : (binOp .neq 50 (.agg #[.int .i64 c, .int .i64 e, .int .i64 n]) (.agg #[.int .i64 c', .int .i64 e', .int .i64 n'])).run Tryd.prog w = .ok (.bool (!decide ((c, e, n) = (c', e', n')))) w := by
  rw [run_neq_struct, eqIn_tx]; rfl
theorem guard_tx (op : BinOp) (x y : Operand) (xs ys : Array Value) (w : World) : (eqGuard op 50 x y (.agg xs) (.agg ys)).run Tryd.prog w = .ok () w := run_eqGuard_agg w op 50 x y xs ys (by kernel_rfl)

set_option maxHeartbeats 1600000 in
theorem implTxOk_any (c e n : Int) (w : World) : Calls Tryd.prog 57 #[.agg #[.int .i64 c, .int .i64 e, .int .i64 n]] w fun r w' => r = .returned (.bool (txOk (c, e, n))) ∧ Below w.heap.size w w' := by
  have HB := hid (below_new (o := .cells #[.int .i64 c, .int .i64 e, .int .i64 n] 50) (w := w) (Below.refl _ _))
  by_cases h0 : 0 ≤ c
  · skip
    by_cases h1 : c ≤ 7
    · skip
      by_cases h2 : 1 ≤ e
      · skip
        by_cases h3 : e ≤ 999
        · skip
          by_cases h4 : 1 ≤ n
          · skip
            by_cases h5 : n ≤ 999
            · skip
              have HE : Hid (txOk (c, e, n) = true) := (txOk_iff (c, e, n)).2 ⟨h0, h1, h2, h3, h4, h5⟩
              go_enter Tryd.func57, Tryd.ntmps57
              go_wp2
              go_ret
              exact ⟨by rw [HE.out]; rfl, HB.out⟩
            · have HE : Hid (txOk (c, e, n) = false) := by show _ = false; rw [Bool.eq_false_iff]; intro h; exact h5 ((txOk_iff (c, e, n)).1 h).2.2.2.2.2
              have g5 : 999 < n := by omega
              go_enter Tryd.func57, Tryd.ntmps57
              go_wp2
              go_ret
              exact ⟨by rw [HE.out]; rfl, HB.out⟩
          · have HE : Hid (txOk (c, e, n) = false) := by show _ = false; rw [Bool.eq_false_iff]; intro h; exact h4 ((txOk_iff (c, e, n)).1 h).2.2.2.2.1
            have g4 : n < 1 := by omega
            go_enter Tryd.func57, Tryd.ntmps57
            go_wp2
            go_ret
            exact ⟨by rw [HE.out]; rfl, HB.out⟩
        · have HE : Hid (txOk (c, e, n) = false) := by show _ = false; rw [Bool.eq_false_iff]; intro h; exact h3 ((txOk_iff (c, e, n)).1 h).2.2.2.1
          have g3 : 999 < e := by omega
          go_enter Tryd.func57, Tryd.ntmps57
          go_wp2
          go_ret
          exact ⟨by rw [HE.out]; rfl, HB.out⟩
      · have HE : Hid (txOk (c, e, n) = false) := by show _ = false; rw [Bool.eq_false_iff]; intro h; exact h2 ((txOk_iff (c, e, n)).1 h).2.2.1
        have g2 : e < 1 := by omega
        go_enter Tryd.func57, Tryd.ntmps57
        go_wp2
        go_ret
        exact ⟨by rw [HE.out]; rfl, HB.out⟩
    · have HE : Hid (txOk (c, e, n) = false) := by show _ = false; rw [Bool.eq_false_iff]; intro h; exact h1 ((txOk_iff (c, e, n)).1 h).2.1
      have g1 : 7 < c := by omega
      go_enter Tryd.func57, Tryd.ntmps57
      go_wp2
      go_ret
      exact ⟨by rw [HE.out]; rfl, HB.out⟩
  · have HE : Hid (txOk (c, e, n) = false) := by show _ = false; rw [Bool.eq_false_iff]; intro h; exact h0 ((txOk_iff (c, e, n)).1 h).1
    have g0 : c < 0 := by omega
    go_enter Tryd.func57, Tryd.ntmps57
    go_wp2
    go_ret
    exact ⟨by rw [HE.out]; rfl, HB.out⟩
set_option maxHeartbeats 1600000 in
theorem specTxOk_any (c e n : Int) (w : World) : Calls Tryd.prog 53 #[.agg #[.int .i64 c, .int .i64 e, .int .i64 n]] w fun r w' => r = .returned (.bool (txOk (c, e, n))) ∧ Below w.heap.size w w' := by
  have HB := hid (below_new (o := .cells #[.int .i64 c, .int .i64 e, .int .i64 n] 50) (w := w) (Below.refl _ _))
  by_cases h0 : 0 ≤ c
  · skip
    by_cases h1 : c ≤ 7
    · skip
      by_cases h2 : 1 ≤ e
      · skip
        by_cases h3 : e ≤ 999
        · skip
          by_cases h4 : 1 ≤ n
          · skip
            by_cases h5 : n ≤ 999
            · skip
              have HE : Hid (txOk (c, e, n) = true) := (txOk_iff (c, e, n)).2 ⟨h0, h1, h2, h3, h4, h5⟩
              go_enter Tryd.func53, Tryd.ntmps53
              go_wp2
              go_ret
              exact ⟨by rw [HE.out]; rfl, HB.out⟩
            · have HE : Hid (txOk (c, e, n) = false) := by show _ = false; rw [Bool.eq_false_iff]; intro h; exact h5 ((txOk_iff (c, e, n)).1 h).2.2.2.2.2
              have g5 : 999 < n := by omega
              go_enter Tryd.func53, Tryd.ntmps53
              go_wp2
              go_ret
              exact ⟨by rw [HE.out]; rfl, HB.out⟩
          · have HE : Hid (txOk (c, e, n) = false) := by show _ = false; rw [Bool.eq_false_iff]; intro h; exact h4 ((txOk_iff (c, e, n)).1 h).2.2.2.2.1
            have g4 : n < 1 := by omega
            go_enter Tryd.func53, Tryd.ntmps53
            go_wp2
            go_ret
            exact ⟨by rw [HE.out]; rfl, HB.out⟩
        · have HE : Hid (txOk (c, e, n) = false) := by show _ = false; rw [Bool.eq_false_iff]; intro h; exact h3 ((txOk_iff (c, e, n)).1 h).2.2.2.1
          have g3 : 999 < e := by omega
          go_enter Tryd.func53, Tryd.ntmps53
          go_wp2
          go_ret
          exact ⟨by rw [HE.out]; rfl, HB.out⟩
      · have HE : Hid (txOk (c, e, n) = false) := by show _ = false; rw [Bool.eq_false_iff]; intro h; exact h2 ((txOk_iff (c, e, n)).1 h).2.2.1
        have g2 : e < 1 := by omega
        go_enter Tryd.func53, Tryd.ntmps53
        go_wp2
        go_ret
        exact ⟨by rw [HE.out]; rfl, HB.out⟩
    · have HE : Hid (txOk (c, e, n) = false) := by show _ = false; rw [Bool.eq_false_iff]; intro h; exact h1 ((txOk_iff (c, e, n)).1 h).2.1
      have g1 : 7 < c := by omega
      go_enter Tryd.func53, Tryd.ntmps53
      go_wp2
      go_ret
      exact ⟨by rw [HE.out]; rfl, HB.out⟩
  · have HE : Hid (txOk (c, e, n) = false) := by show _ = false; rw [Bool.eq_false_iff]; intro h; exact h0 ((txOk_iff (c, e, n)).1 h).1
    have g0 : c < 0 := by omega
    go_enter Tryd.func53, Tryd.ntmps53
    go_wp2
    go_ret
    exact ⟨by rw [HE.out]; rfl, HB.out⟩
theorem toTx_any (c e n : Int) (w : World) : Calls Tryd.prog 33 #[.agg #[.int .i64 c, .int .i64 e, .int .i64 n]] w fun r w' => r = .returned (.agg #[.int .i64 c, .int .i64 e, .int .i64 n]) ∧ Below w.heap.size w w' := by
  go_enter Tryd.func33, Tryd.ntmps33
  go_wp2
  try simp only [Exit.inBlock, Exit.then]
  refine bodyPost_ret (v := .agg #[.int .i64 c, .int .i64 e, .int .i64 n]) ?_ rfl ?_
  · exact results_tx rfl _ _ _ rfl (by go_simp) (by go_simp) (by go_simp)
  · exact ⟨rfl, below_new (below_new (below_new (Below.refl _ _)))⟩
theorem eqTx_same (c e n : Int) (w : World) : Calls Tryd.prog 41 #[.agg #[.int .i64 c, .int .i64 e, .int .i64 n], .agg #[.int .i64 c, .int .i64 e, .int .i64 n]] w fun r w' => r = .returned (.bool true) ∧ Below w.heap.size w w' := by
  have t0 : (c != c) = false := by simp
  have t1 : (e != e) = false := by simp
  have t2 : (n != n) = false := by simp
  go_enter Tryd.func41, Tryd.ntmps41
  go_wp2
  go_ret
  exact ⟨rfl, below_new (below_new (Below.refl _ _))⟩
end Go.Proofs.YtjddkofpfmjojaaDoor
/-
  Messages: when one is right, in plain; MsgOk of the program.
-/
namespace Go.Proofs.YtjddkofpfmjojaaDoor
open Go.RowKit
set_option linter.unusedVariables false
def nuOk (nu : Int) : Bool := decide (1 ≤ nu) && decide (nu ≤ 16)
def stN (st : Int) : Bool := decide (0 < st) && decide (st ≤ 1099511627775)
def stC (cd st : Int) : Bool := if cd = 0 then stN st else decide (st = 0)
def noT (st cd : Int) (pn : Nat) : Bool := decide (st = 0) && (decide (cd = 0) && decide (pn = 0))
def upOk (p : PB) : Bool := uOk p.1 && uvOk p.2
def prsOk (ps : List PB) : Bool := decide (ps.length ≤ 8) && ps.all upOk
def tel (st cd : Int) (ps : List PB) : Bool := (decide (0 ≤ cd) && decide (cd ≤ 9)) && (stC cd st && prsOk ps)
def prtOk (kd nu st : Int) (ak az : Bool) (cd : Int) (ps : List PB) (ys : Bool) : Bool :=
  if kd = 1 then nuOk nu && (ak && (noT st cd ps.length && !ys))
  else if kd = 2 then nuOk nu && (tel st cd ps && (az && !ys))
  else if kd = 3 then (decide (cd = 0) && decide (ps.length = 0)) && (nuOk nu && (tel st cd ps && (az && !ys)))
  else if kd = 4 ∨ kd = 5 then decide (nu = 0) && (az && noT st cd ps.length)
  else if kd = 6 ∨ kd = 7 then !ys && (decide (nu = 0) && (az && noT st cd ps.length))
  else false
def mgOk (kd c e n sh nu st : Int) (ak az : Bool) (cd : Int) (ps : List PB) (ys : Bool) : Bool := txOk (c, e, n) && (decide (0 ≤ sh) && (decide (sh < 4) && prtOk kd nu st ak az cd ps ys))
theorem prtOk_1 (nu st : Int) (ak az : Bool) (cd : Int) (ps : List PB) (ys : Bool) : prtOk 1 nu st ak az cd ps ys = (nuOk nu && (ak && (noT st cd ps.length && !ys))) := rfl
theorem prtOk_2 (nu st : Int) (ak az : Bool) (cd : Int) (ps : List PB) (ys : Bool) : prtOk 2 nu st ak az cd ps ys = (nuOk nu && (tel st cd ps && (az && !ys))) := rfl
theorem prtOk_3 (nu st : Int) (ak az : Bool) (cd : Int) (ps : List PB) (ys : Bool) : prtOk 3 nu st ak az cd ps ys = ((decide (cd = 0) && decide (ps.length = 0)) && (nuOk nu && (tel st cd ps && (az && !ys)))) := rfl
theorem prtOk_4 (nu st : Int) (ak az : Bool) (cd : Int) (ps : List PB) (ys : Bool) : prtOk 4 nu st ak az cd ps ys = (decide (nu = 0) && (az && noT st cd ps.length)) := rfl
theorem prtOk_5 (nu st : Int) (ak az : Bool) (cd : Int) (ps : List PB) (ys : Bool) : prtOk 5 nu st ak az cd ps ys = (decide (nu = 0) && (az && noT st cd ps.length)) := rfl
theorem prtOk_6 (nu st : Int) (ak az : Bool) (cd : Int) (ps : List PB) (ys : Bool) : prtOk 6 nu st ak az cd ps ys = (!ys && (decide (nu = 0) && (az && noT st cd ps.length))) := rfl
theorem prtOk_7 (nu st : Int) (ak az : Bool) (cd : Int) (ps : List PB) (ys : Bool) : prtOk 7 nu st ak az cd ps ys = (!ys && (decide (nu = 0) && (az && noT st cd ps.length))) := rfl
theorem prtOk_no {kd : Int} (h : ¬ (1 ≤ kd ∧ kd ≤ 7)) (nu st : Int) (ak az : Bool) (cd : Int) (ps : List PB) (ys : Bool) : prtOk kd nu st ak az cd ps ys = false := by
  unfold prtOk
  rw [if_neg (by omega), if_neg (by omega), if_neg (by omega), if_neg (by omega), if_neg (by omega)]
theorem isNumberM_any (m : Int) (w : World) : Calls Tryd.prog 58 #[.int .i64 m] w fun e w' => e = .returned (.bool (decide (0 ≤ m) && decide (m ≤ 1099511627775))) ∧ w = w' := by
  by_cases h : 0 ≤ m
  · have HE : Hid ((decide (0 ≤ m) && decide (m ≤ 1099511627775)) = decide (m ≤ 1099511627775)) := by show _ = _; simp [h]
    go_enter Tryd.func58, Tryd.ntmps58
    go_wp2
    go_ret
    exact ⟨by rw [HE.out]; rfl, rfl⟩
  · have HE : Hid ((decide (0 ≤ m) && decide (m ≤ 1099511627775)) = false) := by show _ = false; simp [h]
    go_enter Tryd.func58, Tryd.ntmps58
    go_wp2
    go_ret
    exact ⟨by rw [HE.out]; rfl, rfl⟩
theorem all_take_succ {α : Type} (l : List α) (f : α → Bool) (d : α) {m : Nat} (h : m < l.length) : (l.take (m + 1)).all f = ((l.take m).all f && f (l[m]?.getD d)) := by
  rw [List.take_succ_eq_append_getElem h, List.all_append]
  simp [h]
theorem all_no {α : Type} (l : List α) (f : α → Bool) (d : α) {m : Nat} (h : m < l.length) (hf : f (l[m]?.getD d) = false) : l.all f = false := by
  rw [List.all_eq_false]
  refine ⟨l[m], List.getElem_mem h, ?_⟩
  simp [h] at hf
  simp [hf]
theorem pAtB_get (l : List PB) (m : Nat) : pAtB l m = l[m]?.getD (⟨#[]⟩, ⟨#[]⟩) := rfl
end Go.Proofs.YtjddkofpfmjojaaDoor
/-
  Asks: the law's helpers, AskLock on both sides, the laws FnExactAskOk and FnExactAskLock.
-/
namespace Go.Proofs.YtjddkofpfmjojaaDoor
open Go.RowKit
set_option linter.unusedVariables false
theorem load_ask {w : World} {g : Nat} {k : Int} {ky vl lo hi : ByteArray} {mo : Int} {bk : Bool} (c0 : w.cell? ⟨g, 0, none⟩ = some (.int .i64 k)) (c1 : w.cell? ⟨g, 1, none⟩ = some (.string ky)) (c2 : w.cell? ⟨g, 2, none⟩ = some (.string vl)) (c3 : w.cell? ⟨g, 3, none⟩ = some (.string lo)) (c4 : w.cell? ⟨g, 4, none⟩ = some (.string hi)) (c5 : w.cell? ⟨g, 5, none⟩ = some (.int .i64 mo)) (c6 : w.cell? ⟨g, 6, none⟩ = some (.bool bk)) :
    (loadVar 35 ⟨g, 0, none⟩).run Tryd.prog w = .ok (.agg #[.int .i64 k, .string ky, .string vl, .string lo, .string hi, .int .i64 mo, .bool bk]) w := by go_simp
theorem results_ask {fn : Func} {p : Tmp} (h : fn.results = #[.cell p 35]) (tmps : Array Value) (w : World) (g : Nat) {k : Int} {ky vl lo hi : ByteArray} {mo : Int} {bk : Bool} (hp : tmps.getD p undef = .pointer (some ⟨g, 0, none⟩)) (c0 : w.cell? ⟨g, 0, none⟩ = some (.int .i64 k)) (c1 : w.cell? ⟨g, 1, none⟩ = some (.string ky)) (c2 : w.cell? ⟨g, 2, none⟩ = some (.string vl)) (c3 : w.cell? ⟨g, 3, none⟩ = some (.string lo)) (c4 : w.cell? ⟨g, 4, none⟩ = some (.string hi)) (c5 : w.cell? ⟨g, 5, none⟩ = some (.int .i64 mo)) (c6 : w.cell? ⟨g, 6, none⟩ = some (.bool bk)) :
    (results fn tmps).run Tryd.prog w = .ok (.agg #[.int .i64 k, .string ky, .string vl, .string lo, .string hi, .int .i64 mo, .bool bk]) w := by
  have hp' : tmps[p]?.getD undef = .pointer (some ⟨g, 0, none⟩) := by simpa using hp
  simp [results, h, hp', asAddr, load_ask c0 c1 c2 c3 c4 c5 c6]
set_option maxHeartbeats 3200000 in
theorem toAsk_any (k : Int) (ky vl lo hi : ByteArray) (mo : Int) (bk : Bool) (w : World) : Calls Tryd.prog 34 #[.agg #[.int .i64 k, .string ky, .string vl, .string lo, .string hi, .int .i64 mo, .bool bk]] w fun r w' => r = .returned (.agg #[.int .i64 k, .string ky, .string vl, .string lo, .string hi, .int .i64 mo, .bool bk]) ∧ Below w.heap.size w w' := by
  have C1 : Hid (∀ w, Calls Tryd.prog 55 #[.agg #[.string lo, .string hi]] w fun r w' => r = .returned (.agg #[.string lo, .string hi]) ∧ Below w.heap.size w w') := fun w => toRange_any lo hi w
  have B0 : Hid (Below w.heap.size w (((w.alloc (.cells #[.int .i64 k, .string ky, .string vl, .string lo, .string hi, .int .i64 mo, .bool bk] 26)).alloc (.cells #[.int .i64 0, .string ⟨#[]⟩, .string ⟨#[]⟩, .string ⟨#[]⟩, .string ⟨#[]⟩, .int .i64 0, .bool false] 35)).alloc (.cells #[.int .i64 k, .string ky, .string vl, .string ⟨#[]⟩, .string ⟨#[]⟩, .int .i64 0, .bool false] 35))) := below_new (below_new (below_new (Below.refl _ _)))
  have K0 := hid (((Bk.new w 26 [.int .i64 k, .string ky, .string vl, .string lo, .string hi, .int .i64 mo, .bool bk]).alloc (.cells #[.int .i64 0, .string ⟨#[]⟩, .string ⟨#[]⟩, .string ⟨#[]⟩, .string ⟨#[]⟩, .int .i64 0, .bool false] 35)).alloc (.cells #[.int .i64 k, .string ky, .string vl, .string ⟨#[]⟩, .string ⟨#[]⟩, .int .i64 0, .bool false] 35))
  have J0 := hid ((Bk.new (w.alloc (.cells #[.int .i64 k, .string ky, .string vl, .string lo, .string hi, .int .i64 mo, .bool bk] 26)) 35 [.int .i64 0, .string ⟨#[]⟩, .string ⟨#[]⟩, .string ⟨#[]⟩, .string ⟨#[]⟩, .int .i64 0, .bool false]).alloc (.cells #[.int .i64 k, .string ky, .string vl, .string ⟨#[]⟩, .string ⟨#[]⟩, .int .i64 0, .bool false] 35))
  have I0 := hid (Bk.new ((w.alloc (.cells #[.int .i64 k, .string ky, .string vl, .string lo, .string hi, .int .i64 mo, .bool bk] 26)).alloc (.cells #[.int .i64 0, .string ⟨#[]⟩, .string ⟨#[]⟩, .string ⟨#[]⟩, .string ⟨#[]⟩, .int .i64 0, .bool false] 35)) 35 [.int .i64 k, .string ky, .string vl, .string ⟨#[]⟩, .string ⟨#[]⟩, .int .i64 0, .bool false])
  rw [show (w.alloc (.cells #[.int .i64 k, .string ky, .string vl, .string lo, .string hi, .int .i64 mo, .bool bk] 26)).heap.size = w.heap.size + 1 by simp] at J0
  rw [show ((w.alloc (.cells #[.int .i64 k, .string ky, .string vl, .string lo, .string hi, .int .i64 mo, .bool bk] 26)).alloc (.cells #[.int .i64 0, .string ⟨#[]⟩, .string ⟨#[]⟩, .string ⟨#[]⟩, .string ⟨#[]⟩, .int .i64 0, .bool false] 35)).heap.size = w.heap.size + 1 + 1 by simp] at I0
  go_enter Tryd.func34, Tryd.ntmps34
  go_wp2_with fail
  refine (C1.out _).mono ?_
  generalize ((w.alloc (.cells #[.int .i64 k, .string ky, .string vl, .string lo, .string hi, .int .i64 mo, .bool bk] 26)).alloc (.cells #[.int .i64 0, .string ⟨#[]⟩, .string ⟨#[]⟩, .string ⟨#[]⟩, .string ⟨#[]⟩, .int .i64 0, .bool false] 35)).alloc (.cells #[.int .i64 k, .string ky, .string vl, .string ⟨#[]⟩, .string ⟨#[]⟩, .int .i64 0, .bool false] 35) = U at *
  rintro r w1 ⟨rfl, hb⟩
  have K1 := hid (K0.out.below hb)
  have J1 := hid (J0.out.below hb)
  have I1 := hid (I0.out.below hb)
  have B1 := hid (btR B0.out hb)
  clear J0 I0 K0 B0 hb
  have x5 := K1.out.cell (j := 5) rfl
  have x6 := K1.out.cell (j := 6) rfl
  have y0 := I1.out.cell (j := 0) rfl
  have y1 := I1.out.cell (j := 1) rfl
  have y2 := I1.out.cell (j := 2) rfl
  have y3 := I1.out.cell (j := 3) rfl
  have y4 := I1.out.cell (j := 4) rfl
  have y5 := I1.out.cell (j := 5) rfl
  have y6 := I1.out.cell (j := 6) rfl
  have f3 := I1.out.free 3
  have f4 := I1.out.free 4
  have f5 := I1.out.free 5
  have f6 := I1.out.free 6
  have z0 := J1.out.cell (j := 0) rfl
  have z1 := J1.out.cell (j := 1) rfl
  have z2 := J1.out.cell (j := 2) rfl
  have z3 := J1.out.cell (j := 3) rfl
  have z4 := J1.out.cell (j := 4) rfl
  have z5 := J1.out.cell (j := 5) rfl
  have z6 := J1.out.cell (j := 6) rfl
  have g0 := J1.out.free 0
  have g1 := J1.out.free 1
  have g2 := J1.out.free 2
  have g3 := J1.out.free 3
  have g4 := J1.out.free 4
  have g5 := J1.out.free 5
  have g6 := J1.out.free 6
  have J2 : Hid (Bk ((((w1.setCell ⟨w.heap.size + 1 + 1, 3, none⟩ (.string lo)).setCell ⟨w.heap.size + 1 + 1, 4, none⟩ (.string hi)).setCell ⟨w.heap.size + 1 + 1, 5, none⟩ (.int .i64 mo)).setCell ⟨w.heap.size + 1 + 1, 6, none⟩ (.bool bk)) (w.heap.size + 1) 35 [.int .i64 0, .string ⟨#[]⟩, .string ⟨#[]⟩, .string ⟨#[]⟩, .string ⟨#[]⟩, .int .i64 0, .bool false]) := ((((J1.out.setOther (by omega) _ _).setOther (by omega) _ _).setOther (by omega) _ _).setOther (by omega) _ _)
  have J3 := hid (((((((J2.out.set 0 (.int .i64 k)).set 1 (.string ky)).set 2 (.string vl)).set 3 (.string lo)).set 4 (.string hi)).set 5 (.int .i64 mo)).set 6 (.bool bk))
  have B3 := hid (Below.setCell (p := ⟨w.heap.size + 1, 6, none⟩) (Below.setCell (p := ⟨w.heap.size + 1, 5, none⟩) (Below.setCell (p := ⟨w.heap.size + 1, 4, none⟩) (Below.setCell (p := ⟨w.heap.size + 1, 3, none⟩) (Below.setCell (p := ⟨w.heap.size + 1, 2, none⟩) (Below.setCell (p := ⟨w.heap.size + 1, 1, none⟩) (Below.setCell (p := ⟨w.heap.size + 1, 0, none⟩) (Below.setCell (p := ⟨w.heap.size + 1 + 1, 6, none⟩) (Below.setCell (p := ⟨w.heap.size + 1 + 1, 5, none⟩) (Below.setCell (p := ⟨w.heap.size + 1 + 1, 4, none⟩) (Below.setCell (p := ⟨w.heap.size + 1 + 1, 3, none⟩) B1.out (by simp; omega) (.string lo)) (by simp; omega) (.string hi)) (by simp; omega) (.int .i64 mo)) (by simp; omega) (.bool bk)) (by simp) (.int .i64 k)) (by simp) (.string ky)) (by simp) (.string vl)) (by simp) (.string lo)) (by simp) (.string hi)) (by simp) (.int .i64 mo)) (by simp) (.bool bk))
  have d1 : ¬ w.heap.size + 1 = w.heap.size + 1 + 1 := by omega
  have d2 : ¬ w.heap.size + 1 + 1 = w.heap.size + 1 := by omega
  have d3 : ¬ w.heap.size = w.heap.size + 1 + 1 := by omega
  have d4 : ¬ w.heap.size = w.heap.size + 1 := by omega
  clear J1 I1 B1 J2 K1
  go_wp2
  try simp only [Exit.inBlock, Exit.then]
  refine bodyPost_ret (v := .agg #[.int .i64 k, .string ky, .string vl, .string lo, .string hi, .int .i64 mo, .bool bk]) ?_ rfl ?_
  · exact results_ask rfl _ _ _ rfl (J3.out.cell (j := 0) rfl) (J3.out.cell (j := 1) rfl) (J3.out.cell (j := 2) rfl) (J3.out.cell (j := 3) rfl) (J3.out.cell (j := 4) rfl) (J3.out.cell (j := 5) rfl) (J3.out.cell (j := 6) rfl)
  · exact ⟨rfl, B3.out⟩
set_option maxHeartbeats 1600000 in
theorem szAsk_any (k : Int) (ky vl lo hi : ByteArray) (mo : Int) (bk : Bool) (left : Int) (w : World) (h0 : 0 ≤ left) (h1 : left ≤ 1048576) (hs : ky.size ≤ 9223372036854775807 ∧ vl.size ≤ 9223372036854775807 ∧ lo.size ≤ 9223372036854775807 ∧ hi.size ≤ 9223372036854775807) :
    Calls Tryd.prog 29 #[.agg #[.int .i64 k, .string ky, .string vl, .string lo, .string hi, .int .i64 mo, .bool bk], .int .i64 left] w fun e w' => (∃ x : Int, e = .returned (.int .i64 x) ∧ x ≤ left ∧ -1 ≤ x) ∧ Below w.heap.size w w' := by
  obtain ⟨s1, s2, s3, s4⟩ := hs
  have B0 := hid (below_new (o := .cells #[.int .i64 k, .string ky, .string vl, .string lo, .string hi, .int .i64 mo, .bool bk] 26) (w := w) (Below.refl _ _))
  by_cases q1 : left - ky.size < 0
  · go_enter Tryd.func29, Tryd.ntmps29
    go_wp2
    go_ret
    exact ⟨⟨-1, rfl, by omega, by omega⟩, B0.out⟩
  · by_cases q2 : left - ky.size - vl.size < 0
    · go_enter Tryd.func29, Tryd.ntmps29
      go_wp2
      go_ret
      exact ⟨⟨-1, rfl, by omega, by omega⟩, B0.out⟩
    · have C1 : Hid (∀ w, Calls Tryd.prog 51 #[.agg #[.string lo, .string hi], .int .i64 (left - ky.size - vl.size)] w fun e w' => (∃ x : Int, e = .returned (.int .i64 x) ∧ x ≤ left - ky.size - vl.size ∧ -1 ≤ x) ∧ Below w.heap.size w w') := fun w => szRange_any lo hi _ w (by omega) (by omega) s3 s4
      go_enter Tryd.func29, Tryd.ntmps29
      go_wp2_with fail
      refine (C1.out _).mono ?_
      rintro e w1 ⟨⟨x, rfl, hx1, hx2⟩, hb⟩
      have B1 := hid (btR B0.out hb)
      clear hb B0
      by_cases hx : x < 0
      · go_wp2
        go_ret
        exact ⟨⟨-1, rfl, by omega, by omega⟩, B1.out⟩
      · go_wp2
        go_ret
        exact ⟨⟨x, rfl, by omega, by omega⟩, B1.out⟩
set_option maxHeartbeats 3200000 in
theorem eqAsk_same (k : Int) (ky vl lo hi : ByteArray) (mo : Int) (bk : Bool) (w : World) : Calls Tryd.prog 42 #[.agg #[.int .i64 k, .string ky, .string vl, .string lo, .string hi, .int .i64 mo, .bool bk], .agg #[.int .i64 k, .string ky, .string vl, .string lo, .string hi, .int .i64 mo, .bool bk]] w fun e w' => e = .returned (.bool true) ∧ Below w.heap.size w w' := by
  have hz0 : (k != k) = false := by simp
  have hz1 : (mo != mo) = false := by simp
  have hz2 : (bk != bk) = false := by simp
  have C1 : Hid (∀ w, Calls Tryd.prog 61 #[.agg #[.string lo, .string hi], .agg #[.string lo, .string hi]] w fun r w' => r = .returned (.bool true) ∧ Below w.heap.size w w') := fun w => eqRange_same lo hi w
  have B0 : Hid (Below w.heap.size w ((w.alloc (.cells #[.int .i64 k, .string ky, .string vl, .string lo, .string hi, .int .i64 mo, .bool bk] 35)).alloc (.cells #[.int .i64 k, .string ky, .string vl, .string lo, .string hi, .int .i64 mo, .bool bk] 35))) := below_new (below_new (Below.refl _ _))
  have K0 := hid ((Bk.new w 35 [.int .i64 k, .string ky, .string vl, .string lo, .string hi, .int .i64 mo, .bool bk]).alloc (.cells #[.int .i64 k, .string ky, .string vl, .string lo, .string hi, .int .i64 mo, .bool bk] 35))
  have J0 := hid (Bk.new (w.alloc (.cells #[.int .i64 k, .string ky, .string vl, .string lo, .string hi, .int .i64 mo, .bool bk] 35)) 35 [.int .i64 k, .string ky, .string vl, .string lo, .string hi, .int .i64 mo, .bool bk])
  rw [show (w.alloc (.cells #[.int .i64 k, .string ky, .string vl, .string lo, .string hi, .int .i64 mo, .bool bk] 35)).heap.size = w.heap.size + 1 by simp] at J0
  go_enter Tryd.func42, Tryd.ntmps42
  go_wp2_with fail
  refine (C1.out _).mono ?_
  generalize (w.alloc (.cells #[.int .i64 k, .string ky, .string vl, .string lo, .string hi, .int .i64 mo, .bool bk] 35)).alloc (.cells #[.int .i64 k, .string ky, .string vl, .string lo, .string hi, .int .i64 mo, .bool bk] 35) = U at *
  rintro r w1 ⟨rfl, hb⟩
  have B1 := hid (btR B0.out hb)
  have K1 := hid (K0.out.below hb)
  have J1 := hid (J0.out.below hb)
  clear hb B0 K0 J0
  have x5 := K1.out.cell (j := 5) rfl
  have x6 := K1.out.cell (j := 6) rfl
  have y5 := J1.out.cell (j := 5) rfl
  have y6 := J1.out.cell (j := 6) rfl
  go_wp2
  go_ret
  exact ⟨rfl, B1.out⟩
def alEx (k : Int) (ky vl lo hi : ByteArray) (mo : Int) (bk : Bool) : Bool := akOk k ky vl lo hi mo bk && (decide (k ≠ 4) && decide (k ≠ 1))
end Go.Proofs.YtjddkofpfmjojaaDoor
/-
  Messages: what the law's helpers do with one; rows of pairs of one's own.
-/
namespace Go.Proofs.YtjddkofpfmjojaaDoor
open Go.RowKit
set_option linter.unusedVariables false
/-- A row of pairs of one's own. -/
def oqW (w : World) (B : Nat) (v : Value) (l : List PB) : Prop := w.ownsRow B 76 2 v l.length (pcs l)
theorem oqW.to {w w' : World} {B : Nat} {R : Nat → Prop} {v : Value} {l : List PB} (h : oqW w B v l) (ho : Only R w w') (hR : ∀ y, v.ownBlock = some y → ¬ R y) : oqW w' B v l := own_kept h ho hR
theorem oqW.below {w w' : World} {B : Nat} {v : Value} {l : List PB} (h : oqW w B v l) (hb : Below w.heap.size w w') : oqW w' B v l := h.to (only_of_below hb (fun _ => False)) (fun _ _ h => h)
theorem oqW.base {w : World} {B B' : Nat} {v : Value} {l : List PB} (h : oqW w B v l) (hB : B' ≤ B) : oqW w B' v l := by
  refine ⟨h.1, h.2.imp id ?_⟩
  rintro ⟨g, cap, cur, k1, k2, k3⟩
  exact ⟨g, cap, cur, k1, by omega, k3⟩
theorem oqW.lt {w : World} {B : Nat} {v : Value} {l : List PB} (h : oqW w B v l) {y : Nat} (hy : v.ownBlock = some y) : B ≤ y ∧ y < w.heap.size := World.ownsRow.lt h y hy
theorem oqW.r {w : World} {B : Nat} {v : Value} {l : List PB} (h : oqW w B v l) : Pr w (fun _ => True) v l := rw_own h (fun _ _ _ _ => trivial)
theorem oqW.rB {w : World} {B : Nat} {v : Value} {l : List PB} (h : oqW w B v l) : Pr w (fun b => B ≤ b) v l := rw_own h (fun _ _ h _ => h)
theorem oqw_nil (w : World) (B : Nat) : oqW w B (.slice none 0 0) [] := World.ownsRow_nil _ _ _ _
theorem oqw_bk {w : World} {g B : Nat} {l : List PB} {n : Nat} (h : Bk w g 76 (pcs l)) (hl : n = l.length) (hn : n ≤ 1048577) (hB : B ≤ g) : oqW w B (.slice (some ⟨g, 0, none⟩) n n) l := by
  subst hl
  exact ⟨pcs_length l, .inr ⟨g, l.length, (pcs l).toArray, rfl, hB, h, Nat.le_refl _, by unfold maxLen; omega, by simpa using pcs_length l, by simp [← pcs_length l]⟩⟩
theorem setE {w : World} {g : Nat} {T : TypeId} {xs ys : List Value} (h : Bk w g T xs) (o : Nat) (x : Value) (e : xs.set o x = ys) : Bk (w.setCell ⟨g, o, none⟩ x) g T ys := by
  rw [← e]; exact h.set o x
theorem msg_sets {w : World} {g : Nat} {T : TypeId} {z0 z1 z2 z3 z4 z5 z6 z7 z8 z9 z10 z11 z12 z13 z14 z15 z16 : Value} (h : Bk w g T [z0, z1, z2, z3, z4, z5, z6, z7, z8, z9, z10, z11, z12, z13, z14, z15, z16]) (a0 a1 a2 a3 a4 a5 a6 a7 a8 a9 a10 a11 a12 a13 a14 a15 a16 : Value) : Bk (((((((((((((((((w.setCell ⟨g, 0, none⟩ (a0)).setCell ⟨g, 1, none⟩ (a1)).setCell ⟨g, 2, none⟩ (a2)).setCell ⟨g, 3, none⟩ (a3)).setCell ⟨g, 4, none⟩ (a4)).setCell ⟨g, 5, none⟩ (a5)).setCell ⟨g, 6, none⟩ (a6)).setCell ⟨g, 7, none⟩ (a7)).setCell ⟨g, 8, none⟩ (a8)).setCell ⟨g, 9, none⟩ (a9)).setCell ⟨g, 10, none⟩ (a10)).setCell ⟨g, 11, none⟩ (a11)).setCell ⟨g, 12, none⟩ (a12)).setCell ⟨g, 13, none⟩ (a13)).setCell ⟨g, 14, none⟩ (a14)).setCell ⟨g, 15, none⟩ (a15)).setCell ⟨g, 16, none⟩ (a16)) g T [a0, a1, a2, a3, a4, a5, a6, a7, a8, a9, a10, a11, a12, a13, a14, a15, a16] := (setE (setE (setE (setE (setE (setE (setE (setE (setE (setE (setE (setE (setE (setE (setE (setE (setE h 0 a0 (ys := [a0, z1, z2, z3, z4, z5, z6, z7, z8, z9, z10, z11, z12, z13, z14, z15, z16]) rfl) 1 a1 (ys := [a0, a1, z2, z3, z4, z5, z6, z7, z8, z9, z10, z11, z12, z13, z14, z15, z16]) rfl) 2 a2 (ys := [a0, a1, a2, z3, z4, z5, z6, z7, z8, z9, z10, z11, z12, z13, z14, z15, z16]) rfl) 3 a3 (ys := [a0, a1, a2, a3, z4, z5, z6, z7, z8, z9, z10, z11, z12, z13, z14, z15, z16]) rfl) 4 a4 (ys := [a0, a1, a2, a3, a4, z5, z6, z7, z8, z9, z10, z11, z12, z13, z14, z15, z16]) rfl) 5 a5 (ys := [a0, a1, a2, a3, a4, a5, z6, z7, z8, z9, z10, z11, z12, z13, z14, z15, z16]) rfl) 6 a6 (ys := [a0, a1, a2, a3, a4, a5, a6, z7, z8, z9, z10, z11, z12, z13, z14, z15, z16]) rfl) 7 a7 (ys := [a0, a1, a2, a3, a4, a5, a6, a7, z8, z9, z10, z11, z12, z13, z14, z15, z16]) rfl) 8 a8 (ys := [a0, a1, a2, a3, a4, a5, a6, a7, a8, z9, z10, z11, z12, z13, z14, z15, z16]) rfl) 9 a9 (ys := [a0, a1, a2, a3, a4, a5, a6, a7, a8, a9, z10, z11, z12, z13, z14, z15, z16]) rfl) 10 a10 (ys := [a0, a1, a2, a3, a4, a5, a6, a7, a8, a9, a10, z11, z12, z13, z14, z15, z16]) rfl) 11 a11 (ys := [a0, a1, a2, a3, a4, a5, a6, a7, a8, a9, a10, a11, z12, z13, z14, z15, z16]) rfl) 12 a12 (ys := [a0, a1, a2, a3, a4, a5, a6, a7, a8, a9, a10, a11, a12, z13, z14, z15, z16]) rfl) 13 a13 (ys := [a0, a1, a2, a3, a4, a5, a6, a7, a8, a9, a10, a11, a12, a13, z14, z15, z16]) rfl) 14 a14 (ys := [a0, a1, a2, a3, a4, a5, a6, a7, a8, a9, a10, a11, a12, a13, a14, z15, z16]) rfl) 15 a15 (ys := [a0, a1, a2, a3, a4, a5, a6, a7, a8, a9, a10, a11, a12, a13, a14, a15, z16]) rfl) 16 a16 (ys := [a0, a1, a2, a3, a4, a5, a6, a7, a8, a9, a10, a11, a12, a13, a14, a15, a16]) rfl)
theorem only_step {R : Nat → Prop} {w w' : World} {g : Nat} (h : Only R w w') (hR : R g) (o : Nat) (v : Value) : Only R w (w'.setCell ⟨g, o, none⟩ v) := h.trans (only_set (R := R) (p := ⟨g, o, none⟩) hR v)
theorem msg_only {w : World} {g : Nat} {R : Nat → Prop} (hR : R g) (a0 a1 a2 a3 a4 a5 a6 a7 a8 a9 a10 a11 a12 a13 a14 a15 a16 : Value) : Only R w (((((((((((((((((w.setCell ⟨g, 0, none⟩ (a0)).setCell ⟨g, 1, none⟩ (a1)).setCell ⟨g, 2, none⟩ (a2)).setCell ⟨g, 3, none⟩ (a3)).setCell ⟨g, 4, none⟩ (a4)).setCell ⟨g, 5, none⟩ (a5)).setCell ⟨g, 6, none⟩ (a6)).setCell ⟨g, 7, none⟩ (a7)).setCell ⟨g, 8, none⟩ (a8)).setCell ⟨g, 9, none⟩ (a9)).setCell ⟨g, 10, none⟩ (a10)).setCell ⟨g, 11, none⟩ (a11)).setCell ⟨g, 12, none⟩ (a12)).setCell ⟨g, 13, none⟩ (a13)).setCell ⟨g, 14, none⟩ (a14)).setCell ⟨g, 15, none⟩ (a15)).setCell ⟨g, 16, none⟩ (a16)) := (only_step (only_step (only_step (only_step (only_step (only_step (only_step (only_step (only_step (only_step (only_step (only_step (only_step (only_step (only_step (only_step (only_set (R := R) (p := ⟨g, 0, none⟩) hR a0) hR 1 a1) hR 2 a2) hR 3 a3) hR 4 a4) hR 5 a5) hR 6 a6) hR 7 a7) hR 8 a8) hR 9 a9) hR 10 a10) hR 11 a11) hR 12 a12) hR 13 a13) hR 14 a14) hR 15 a15) hR 16 a16)
end Go.Proofs.YtjddkofpfmjojaaDoor
/-
  Replies in plain; rows of them.
-/
namespace Go.Proofs.YtjddkofpfmjojaaDoor
open Go.RowKit
set_option linter.unusedVariables false
structure RY where
  k : Int
  c : Int
  e : Int
  n : Int
  ak : Int
  ky : ByteArray
  vl : ByteArray
  lo : ByteArray
  hi : ByteArray
  mo : Int
  bk : Bool
  co : Int
  ps : List PB
instance : Inhabited RY := ⟨⟨0, 0, 0, 0, 0, ⟨#[]⟩, ⟨#[]⟩, ⟨#[]⟩, ⟨#[]⟩, 0, false, 0, []⟩⟩
/-- A reply's cells, v its pairs. -/
def RY.cs (r : RY) (v : Value) : List Value := [.int .i64 r.k, .int .i64 r.c, .int .i64 r.e, .int .i64 r.n, .int .i64 r.ak, .string r.ky, .string r.vl, .string r.lo, .string r.hi, .int .i64 r.mo, .bool r.bk, .int .i64 r.co, v]
abbrev RV := RY × Value
def rvAt (l : List RV) (i : Nat) : RV := l[i]?.getD (default, .slice none 0 0)
def ryAt (l : List RY) (i : Nat) : RY := l[i]?.getD default
def rycs : List RV → List Value
  | [] => []
  | p :: l => p.1.cs p.2 ++ rycs l
theorem rycs_length (l : List RV) : (rycs l).length = l.length * 13 := by
  induction l with
  | nil => rfl
  | cons p l ih => simp only [rycs, List.length_append, ih, List.length_cons, RY.cs, List.length_nil]; omega
theorem rycs_append (l m : List RV) : rycs (l ++ m) = rycs l ++ rycs m := by
  induction l with
  | nil => rfl
  | cons p l ih => simp only [rycs, List.cons_append, ih, List.append_assoc]
theorem rycs_at (l : List RV) : ∀ i, i < l.length → ∀ j u, ((rvAt l i).1.cs (rvAt l i).2)[j]? = some u → (rycs l)[i * 13 + j]? = some u := by
  induction l with
  | nil => intro i h; exact absurd h (Nat.not_lt_zero _)
  | cons p l ih =>
    intro i h j u hu
    cases i with
    | zero =>
      have hj : j < (p.1.cs p.2).length := (List.getElem?_eq_some_iff.1 hu).1
      simp only [rycs, Nat.zero_mul, Nat.zero_add]
      rw [List.getElem?_append_left hj]
      exact hu
    | succ i =>
      have := ih i (by simpa using h) j u hu
      simp only [rycs]
      rw [List.getElem?_append_right (by simp [RY.cs]; omega), show (i + 1) * 13 + j - (p.1.cs p.2).length = i * 13 + j by simp [RY.cs]; omega]
      exact this
theorem rycs_one (l : List RV) (h : ∀ p ∈ l, ∃ a n c, p.2 = .slice a n c) : ∀ u ∈ rycs l, u.oneCell' = true := by
  induction l with
  | nil => intro u hu; cases hu
  | cons p l ih =>
    intro u hu
    simp only [rycs, List.mem_append] at hu
    rcases hu with hu | hu
    · obtain ⟨a, n, c, e⟩ := h p (by simp)
      simp only [RY.cs, List.mem_cons, List.not_mem_nil, or_false] at hu
      rcases hu with rfl | rfl | rfl | rfl | rfl | rfl | rfl | rfl | rfl | rfl | rfl | rfl | rfl <;> first | rfl | (rw [e]; rfl)
    · exact ih (fun p hp => h p (by simp [hp])) u hu
/-- The slice value v leads to the replies rs, all of it in blocks of S. -/
def Yr (w : World) (S : Nat → Prop) (v : Value) (rs : List RY) : Prop := ∃ V : List RV, V.map (·.1) = rs ∧ Rw w S v V.length (rycs V) ∧ ∀ p ∈ V, Pr w S p.2 p.1.ps
theorem Yr.to {w w' : World} {S R : Nat → Prop} {v : Value} {rs : List RY} (h : Yr w S v rs) (ho : Only R w w') (hd : ∀ b, S b → b < w.heap.size → ¬ R b) : Yr w' S v rs := by
  obtain ⟨V, h1, h2, h3⟩ := h
  exact ⟨V, h1, Rw.to h2 ho hd, fun p hp => Rw.to (h3 p hp) ho hd⟩
theorem Yr.below {w w' : World} {S : Nat → Prop} {v : Value} {rs : List RY} (h : Yr w S v rs) (hb : Below w.heap.size w w') : Yr w' S v rs := h.to (only_of_below hb (fun _ => False)) (fun _ _ _ h => h)
theorem Yr.mono {w : World} {S R : Nat → Prop} {v : Value} {rs : List RY} (h : Yr w S v rs) (hd : ∀ b, S b → b < w.heap.size → R b) : Yr w R v rs := by
  obtain ⟨V, h1, h2, h3⟩ := h
  exact ⟨V, h1, Rw.mono h2 hd, fun p hp => Rw.mono (h3 p hp) hd⟩
theorem Yr.len {w : World} {S : Nat → Prop} {a : Option Addr} {n c : Nat} {rs : List RY} (h : Yr w S (.slice a n c) rs) : n = rs.length ∧ n ≤ c ∧ c ≤ 9223372036854775807 := by
  obtain ⟨V, h1, h2, h3⟩ := h
  obtain ⟨e1, e2, e3⟩ := Rw.len h2
  refine ⟨?_, by omega, e3⟩
  rw [← h1, List.length_map]
  exact e1
theorem Yr.shape {w : World} {S : Nat → Prop} {v : Value} {rs : List RY} (h : Yr w S v rs) : ∃ a n c, v = .slice a n c := by
  obtain ⟨V, h1, h2, h3⟩ := h
  obtain ⟨a, c, e, _⟩ := Rw.shape h2
  exact ⟨a, _, c, e⟩
theorem Yr.at {w : World} {S : Nat → Prop} {a : Option Addr} {n c : Nat} {rs : List RY} (h : Yr w S (.slice a n c) rs) (hp : 0 < n) : ∃ b off, a = some ⟨b, off, none⟩ ∧ S b ∧ b < w.heap.size ∧
    ∀ i, i < n → ∃ pa pn pc, w.rangeAt b (off + i * 13) ((ryAt rs i).cs (.slice pa pn pc)) ∧ Pr w S (.slice pa pn pc) (ryAt rs i).ps := by
  obtain ⟨V, h1, h2, h3⟩ := h
  have hn := (Rw.len h2).1
  obtain ⟨b, off, e, hS, hb, hc⟩ := Rw.at h2 hp
  refine ⟨b, off, e, hS, hb, fun i hi => ?_⟩
  have hi' : i < V.length := by omega
  have e1 : ryAt rs i = (rvAt V i).1 := by
    subst h1
    simp [ryAt, rvAt, hi']
  have hm : rvAt V i ∈ V := by simp [rvAt, hi']
  have hP := h3 _ hm
  obtain ⟨pa, pc, e2, _⟩ := hP.shape
  refine ⟨pa, (rvAt V i).1.ps.length, pc, ?_, ?_⟩
  · rw [e1, ← e2]
    intro j u hu
    rw [Nat.add_assoc]
    exact hc _ _ (rycs_at V i hi' j u hu)
  · rw [e1, ← e2]
    exact hP
theorem yr_nil (w : World) (S : Nat → Prop) : Yr w S (.slice none 0 0) [] := ⟨[], rfl, rw_nil w S, fun p hp => by cases hp⟩
end Go.Proofs.YtjddkofpfmjojaaDoor
/-
  Replies: how great the law's helper finds one; that one is the same as itself.
-/
namespace Go.Proofs.YtjddkofpfmjojaaDoor
open Go.RowKit
set_option linter.unusedVariables false
set_option maxHeartbeats 3200000 in
theorem szReply_any (S : Nat → Prop) (ps : List PB) (kd c e n k : Int) (ky vl lo hi : ByteArray) (mo : Int) (bk : Bool) (co : Int) (pa : Option Addr) (pn pc : Nat) (left : Int) (w : World) (h1 : Pr w S (.slice pa pn pc) ps) (s1 : szOkP ps) (h0 : 0 ≤ left) (hle : left ≤ 1048576) (hl : (ky.size ≤ 9223372036854775807 ∧ vl.size ≤ 9223372036854775807 ∧ lo.size ≤ 9223372036854775807 ∧ hi.size ≤ 9223372036854775807)) :
    Calls Tryd.prog 10 #[.agg #[.int .i64 kd, .int .i64 c, .int .i64 e, .int .i64 n, .int .i64 k, .string ky, .string vl, .string lo, .string hi, .int .i64 mo, .bool bk, .int .i64 co, .slice pa pn pc], .int .i64 left] w fun e w' => (∃ x : Int, e = .returned (.int .i64 x) ∧ x ≤ left ∧ -1 ≤ x ∧ (0 ≤ x → pn ≤ 1048576)) ∧ Below w.heap.size w w' := by
  have B0 := hid (below_new (o := .cells #[.int .i64 kd, .int .i64 c, .int .i64 e, .int .i64 n, .int .i64 k, .string ky, .string vl, .string lo, .string hi, .int .i64 mo, .bool bk, .int .i64 co, .slice pa pn pc] 47) (w := w) (Below.refl _ _))
  have K0 := hid (Bk.new w 47 [.int .i64 kd, .int .i64 c, .int .i64 e, .int .i64 n, .int .i64 k, .string ky, .string vl, .string lo, .string hi, .int .i64 mo, .bool bk, .int .i64 co, .slice pa pn pc])
  have H1 := hid h1
  have S1 := hid s1
  have C1 := hid (fun w => szAsk_any k ky vl lo hi mo bk left w h0 hle hl)
  have x4 := K0.out.cell (j := 4) rfl
  have x5 := K0.out.cell (j := 5) rfl
  have x6 := K0.out.cell (j := 6) rfl
  have x7 := K0.out.cell (j := 7) rfl
  have x8 := K0.out.cell (j := 8) rfl
  have x9 := K0.out.cell (j := 9) rfl
  have xa := K0.out.cell (j := 10) rfl
  clear h1 s1 hl
  go_enter Tryd.func10, Tryd.ntmps10
  go_wp2_with fail
  refine (C1.out _).mono ?_
  generalize w.alloc (.cells #[.int .i64 kd, .int .i64 c, .int .i64 e, .int .i64 n, .int .i64 k, .string ky, .string vl, .string lo, .string hi, .int .i64 mo, .bool bk, .int .i64 co, .slice pa pn pc] 47) = U at *
  rintro r w1 ⟨⟨x, rfl, hx1, hx2⟩, hb⟩
  have B1 := hid (btR B0.out hb)
  have K1 := hid (K0.out.below hb)
  clear hb B0 K0 x4 x5 x6 x7 x8 x9 xa
  have x12 := K1.out.cell (j := 12) rfl
  by_cases hneg : x < 0
  · go_wp2
    go_ret
    exact ⟨⟨_, rfl, by omega, by omega, fun h => by omega⟩, B1.out⟩
  · go_wp2_with fail
    refine (szPairS_at S pa pn pc ps x _ (H1.out.below B1.out) S1.out (by omega) (by omega)).mono ?_
    rintro r w2 ⟨⟨y, rfl, hy1, hy2, hy3⟩, hb⟩
    have B2 := hid (btR B1.out hb)
    have HY := hid hy3
    clear hb B1 K1 x12 hy3
    by_cases hneg2 : y < 0
    · go_wp2
      go_ret
      exact ⟨⟨_, rfl, by omega, by omega, fun h => by omega⟩, B2.out⟩
    · go_wp2
      go_ret
      exact ⟨⟨_, rfl, by omega, by omega, HY.out⟩, B2.out⟩
set_option maxHeartbeats 8000000 in
theorem eqReply_same (S S' : Nat → Prop) (ps : List PB) (kd c e n k : Int) (ky vl lo hi : ByteArray) (mo : Int) (bk : Bool) (co : Int) (pa : Option Addr) (pn pc : Nat) (pa' : Option Addr) (pn' pc' : Nat) (w : World) (h : Pr w S (.slice pa pn pc) ps) (h' : Pr w S' (.slice pa' pn' pc') ps) :
    Calls Tryd.prog 14 #[.agg #[.int .i64 kd, .int .i64 c, .int .i64 e, .int .i64 n, .int .i64 k, .string ky, .string vl, .string lo, .string hi, .int .i64 mo, .bool bk, .int .i64 co, .slice pa pn pc], .agg #[.int .i64 kd, .int .i64 c, .int .i64 e, .int .i64 n, .int .i64 k, .string ky, .string vl, .string lo, .string hi, .int .i64 mo, .bool bk, .int .i64 co, .slice pa' pn' pc']] w fun r w' => r = .returned (.bool true) ∧ Below w.heap.size w w' := by
  have C1 := hid (fun w => eqTx_same c e n w)
  have C2 := hid (fun w => eqAsk_same k ky vl lo hi mo bk w)
  have hz0 : (kd != kd) = false := by simp
  have hz4 : (co != co) = false := by simp
  have B0 : Hid (Below w.heap.size w ((w.alloc (.cells #[.int .i64 kd, .int .i64 c, .int .i64 e, .int .i64 n, .int .i64 k, .string ky, .string vl, .string lo, .string hi, .int .i64 mo, .bool bk, .int .i64 co, .slice pa pn pc] 53)).alloc (.cells #[.int .i64 kd, .int .i64 c, .int .i64 e, .int .i64 n, .int .i64 k, .string ky, .string vl, .string lo, .string hi, .int .i64 mo, .bool bk, .int .i64 co, .slice pa' pn' pc'] 53))) := below_new (below_new (Below.refl _ _))
  have K0 := hid ((Bk.new w 53 [.int .i64 kd, .int .i64 c, .int .i64 e, .int .i64 n, .int .i64 k, .string ky, .string vl, .string lo, .string hi, .int .i64 mo, .bool bk, .int .i64 co, .slice pa pn pc]).alloc (.cells #[.int .i64 kd, .int .i64 c, .int .i64 e, .int .i64 n, .int .i64 k, .string ky, .string vl, .string lo, .string hi, .int .i64 mo, .bool bk, .int .i64 co, .slice pa' pn' pc'] 53))
  have J0 := hid (Bk.new (w.alloc (.cells #[.int .i64 kd, .int .i64 c, .int .i64 e, .int .i64 n, .int .i64 k, .string ky, .string vl, .string lo, .string hi, .int .i64 mo, .bool bk, .int .i64 co, .slice pa pn pc] 53)) 53 [.int .i64 kd, .int .i64 c, .int .i64 e, .int .i64 n, .int .i64 k, .string ky, .string vl, .string lo, .string hi, .int .i64 mo, .bool bk, .int .i64 co, .slice pa' pn' pc'])
  rw [show (w.alloc (.cells #[.int .i64 kd, .int .i64 c, .int .i64 e, .int .i64 n, .int .i64 k, .string ky, .string vl, .string lo, .string hi, .int .i64 mo, .bool bk, .int .i64 co, .slice pa pn pc] 53)).heap.size = w.heap.size + 1 by simp] at J0
  have C3 : Hid (∀ v, Below w.heap.size w v → Calls Tryd.prog 43 #[.slice pa pn pc, .slice pa' pn' pc'] v fun e w' => e = .returned (.bool true) ∧ Below v.heap.size v w') := fun v hb => by
    have := eqPairS_at S S' pa pa' pn pn' pc pc' ps ps v (h.below hb) (h'.below hb)
    simpa using this
  clear h h'
  have x0 := K0.out.cell (j := 0) rfl
  have y0 := J0.out.cell (j := 0) rfl
  have x1 := K0.out.cell (j := 1) rfl
  have y1 := J0.out.cell (j := 1) rfl
  have x2 := K0.out.cell (j := 2) rfl
  have y2 := J0.out.cell (j := 2) rfl
  have x3 := K0.out.cell (j := 3) rfl
  have y3 := J0.out.cell (j := 3) rfl
  go_enter Tryd.func14, Tryd.ntmps14
  go_wp2_with fail
  refine (C1.out _).mono ?_
  generalize (w.alloc (.cells #[.int .i64 kd, .int .i64 c, .int .i64 e, .int .i64 n, .int .i64 k, .string ky, .string vl, .string lo, .string hi, .int .i64 mo, .bool bk, .int .i64 co, .slice pa pn pc] 53)).alloc (.cells #[.int .i64 kd, .int .i64 c, .int .i64 e, .int .i64 n, .int .i64 k, .string ky, .string vl, .string lo, .string hi, .int .i64 mo, .bool bk, .int .i64 co, .slice pa' pn' pc'] 53) = U at *
  rintro r w1 ⟨rfl, hb⟩
  have B1 := hid (btR B0.out hb)
  have K1 := hid (K0.out.below hb)
  have J1 := hid (J0.out.below hb)
  clear hb B0 K0 J0 x0 y0 x1 y1 x2 y2 x3 y3
  have x4 := K1.out.cell (j := 4) rfl
  have y4 := J1.out.cell (j := 4) rfl
  have x5 := K1.out.cell (j := 5) rfl
  have y5 := J1.out.cell (j := 5) rfl
  have x6 := K1.out.cell (j := 6) rfl
  have y6 := J1.out.cell (j := 6) rfl
  have x7 := K1.out.cell (j := 7) rfl
  have y7 := J1.out.cell (j := 7) rfl
  have x8 := K1.out.cell (j := 8) rfl
  have y8 := J1.out.cell (j := 8) rfl
  have x9 := K1.out.cell (j := 9) rfl
  have y9 := J1.out.cell (j := 9) rfl
  have x10 := K1.out.cell (j := 10) rfl
  have y10 := J1.out.cell (j := 10) rfl
  go_wp2_with fail
  refine (C2.out _).mono ?_
  rintro r w2 ⟨rfl, hb⟩
  have B2 := hid (btR B1.out hb)
  have K2 := hid (K1.out.below hb)
  have J2 := hid (J1.out.below hb)
  clear hb B1 K1 J1 x4 y4 x5 y5 x6 y6 x7 y7 x8 y8 x9 y9 x10 y10
  have x11 := K2.out.cell (j := 11) rfl
  have y11 := J2.out.cell (j := 11) rfl
  have x12 := K2.out.cell (j := 12) rfl
  have y12 := J2.out.cell (j := 12) rfl
  go_wp2_with fail
  refine (C3.out _ B2.out).mono ?_
  rintro r w3 ⟨rfl, hb⟩
  have B3 := hid (btR B2.out hb)
  have K3 := hid (K2.out.below hb)
  have J3 := hid (J2.out.below hb)
  clear hb B2 K2 J2 x11 y11 x12 y12
  go_wp2
  go_ret
  exact ⟨rfl, B3.out⟩
end Go.Proofs.YtjddkofpfmjojaaDoor
/-
  The decimal text of a number: what the model's NumText answers.
-/
namespace Go.Proofs.YtjddkofpfmjojaaDoor
open Go.RowKit

/-- The text of a number. -/
def numS (n : Int) : ByteArray := if 0 ≤ n ∧ n ≤ 1099511627775 then ⟨(Lib.decDigits n.toNat).toArray⟩ else ByteArray.empty
theorem numS_ok (n : Int) (h0 : 0 ≤ n) (h1 : n ≤ 1099511627775) : numS n = ⟨(Lib.decDigits n.toNat).toArray⟩ := by unfold numS; exact if_pos ⟨h0, h1⟩
theorem numS_bad (n : Int) (h : ¬ (0 ≤ n ∧ n ≤ 1099511627775)) : numS n = ByteArray.empty := by unfold numS; exact if_neg h
theorem dec_len (f : Nat) : ∀ u : Nat, u < 10 ^ (f + 1) → (Lib.decDigits u).length ≤ f + 1 := by
  induction f with
  | zero =>
    intro u h
    rw [Lib.decDigits, dif_pos (by omega)]; simp
  | succ f ih =>
    intro u h
    rw [Lib.decDigits]
    split
    · simp
    · have := ih (u / 10) (by rw [Nat.pow_succ] at h; omega)
      simp; omega
theorem numS_small (n : Int) (h0 : 0 ≤ n) (h1 : n < 10) : numS n = ⟨#[UInt8.ofNat (48 + n).toNat]⟩ := by
  rw [numS_ok n h0 (by omega), Lib.decDigits, dif_pos (by omega)]
  congr 2
  rw [show (48 + n).toNat = 48 + n.toNat from by omega]
theorem numS_big (n : Int) (h0 : 10 ≤ n) (h1 : n ≤ 1099511627775) : numS n = numS (n / 10) ++ ⟨#[UInt8.ofNat (48 + n % 10).toNat]⟩ := by
  rw [numS_ok n (by omega) h1, numS_ok (n / 10) (by omega) (by omega), Lib.decDigits, dif_neg (by omega)]
  have e1 : (n / 10).toNat = n.toNat / 10 := by omega
  have e2 : (48 + n % 10).toNat = 48 + n.toNat % 10 := by omega
  rw [e1, e2]
  show _ = (⟨(Lib.decDigits (n.toNat / 10)).toArray⟩ ++ ⟨[UInt8.ofNat (48 + n.toNat % 10)].toArray⟩ : ByteArray)
  rw [ByteArray.mk_append_mk]
theorem numS_size (n : Int) : (numS n).size ≤ 13 := by
  by_cases h : 0 ≤ n ∧ n ≤ 1099511627775
  · rw [numS_ok n h.1 h.2]
    have := dec_len 12 n.toNat (by omega)
    show (Lib.decDigits n.toNat).toArray.size ≤ 13
    simpa using this
  · rw [numS_bad n h]
    show 0 ≤ 13
    omega

/-- 'string([]byte{z})', where the row is the last block of whatever world. -/
theorem conv_one (W : World) (z : Int) : (convert 86 9 (.slice (some ⟨W.heap.size, 0, none⟩) 1 1)).run Tryd.prog (W.alloc (.cells #[.int .u8 z] 5)) = .ok (.string ⟨#[UInt8.ofNat z.toNat]⟩) (W.alloc (.cells #[.int .u8 z] 5)) := by
  rw [run_convert_bytes_string _ _ _ _ _ 1 1 Tryd.underlying86 Tryd.underlying5 Tryd.underlying9, run_bytesToString _ ⟨W.heap.size, 0, none⟩ 1 1 [z]]
  · rfl
  · exact run_loadCells_list _ ⟨W.heap.size, 0, none⟩ [.int .u8 z] (by
      intro j u hu
      match j, hu with
      | 0, hu => simp at hu; subst hu; rw [Addr.add_lit, World.cell?_alloc_at (hn := rfl)]; rfl)
theorem conv_one_drew (W : World) (z : Int) : (convert 86 9 (.slice (some ⟨W.heap.size, 0, none⟩) 1 1)).run Tryd.prog (W.alloc (.cells #[.int .u8 z] 5)).drew = .ok (.string ⟨#[UInt8.ofNat z.toNat]⟩) (W.alloc (.cells #[.int .u8 z] 5)).drew := conv_one W.drew z
theorem conv_one_at (W : World) (b : Nat) (z : Int) (h : W.cell? ⟨b, 0, none⟩ = some (.int .u8 z)) : (convert 86 9 (.slice (some ⟨b, 0, none⟩) 1 1)).run Tryd.prog W = .ok (.string ⟨#[UInt8.ofNat z.toNat]⟩) W := by
  rw [run_convert_bytes_string _ _ _ _ _ 1 1 Tryd.underlying86 Tryd.underlying5 Tryd.underlying9, run_bytesToString _ ⟨b, 0, none⟩ 1 1 [z]]
  · rfl
  · exact run_loadCells_list _ ⟨b, 0, none⟩ [.int .u8 z] (by
      intro j u hu
      match j, hu with
      | 0, hu => simp at hu; subst hu; rw [Addr.add_lit]; exact h)

theorem cell_behind {w w2 : World} {z : Int} (h : Below (w.alloc (.cells #[.int .u8 z] 5)).drew.heap.size (w.alloc (.cells #[.int .u8 z] 5)).drew w2) : w2.cell? ⟨w.heap.size, 0, none⟩ = some (.int .u8 z) := by
  rw [h.cell (p := ⟨w.heap.size, 0, none⟩) (by simp)]
  show (w.alloc (.cells #[.int .u8 z] 5)).cell? ⟨w.heap.size, 0, none⟩ = _
  rw [World.cell?_alloc_at (hn := rfl)]
  rfl

set_option maxHeartbeats 400000 in
theorem specNum_any (n : Int) (w : World) (b : Bool) (hb : b = decide (0 ≤ n ∧ n ≤ 1099511627775)) :
    Calls Tryd.prog 17 #[.int .i64 n] w fun e w' => e = .returned (.bool b) ∧ w = w' := by
  have HB : Hid (b = decide (0 ≤ n ∧ n ≤ 1099511627775)) := hb
  clear hb
  by_cases h0 : 0 ≤ n
  · by_cases h1 : n ≤ 1099511627775
    · go_enter Tryd.func17, Tryd.ntmps17
      go_wp2
      go_ret
      exact ⟨by rw [HB.out]; simp [h0, h1], rfl⟩
    · go_enter Tryd.func17, Tryd.ntmps17
      go_wp2
      go_ret
      exact ⟨by rw [HB.out]; simp [h1], rfl⟩
  · go_enter Tryd.func17, Tryd.ntmps17
    go_wp2
    go_ret
    exact ⟨by rw [HB.out, decide_eq_false (by omega)]; rfl, rfl⟩

set_option maxRecDepth 20000 in
set_option maxHeartbeats 1000000 in
theorem specNumText_ok : ∀ (k : Nat) (n : Int) (w : World), n.toNat ≤ k → 0 ≤ n → n ≤ 1099511627775 →
    Calls Tryd.prog 19 #[.int .i64 n] w fun e w' => e = .returned (.string (numS n)) ∧ Below w.heap.size w w' := by
  intro k
  induction k with
  | zero =>
    intro n w hk h0 h1
    have hn : n = 0 := by omega
    subst hn
    have HS := hid (numS_small 0 (by omega) (by omega))
    have hcv := conv_one w 48
    go_enter Tryd.func19, Tryd.ntmps19
    go_wp2_with (go_at_call 17; refine (specNum_any 0 _ true (by decide)).mono ?_; rintro e w' ⟨rfl, rfl⟩)
    go_ret
    exact ⟨by rw [HS.out]; rfl, (Below.refl _ _).alloc (Nat.le_refl _) _⟩
  | succ k ih =>
    intro n w hk h0 h1
    have IH := hid ih
    clear ih
    by_cases hs : n < 10
    · have HS := hid (numS_small n h0 hs)
      have hcv := conv_one w (48 + n)
      go_enter Tryd.func19, Tryd.ntmps19
      go_wp2_with (go_at_call 17; refine (specNum_any n _ true (by simp [h0, h1])).mono ?_; rintro e w' ⟨rfl, rfl⟩)
      go_ret
      exact ⟨by rw [HS.out]; rfl, (Below.refl _ _).alloc (Nat.le_refl _) _⟩
    · have HS := hid (numS_big n (by omega) h1)
      have hsz := numS_size (n / 10)
      have HI := hid (fun w => IH.out (n / 10) w (by omega) (by omega) (by omega))
      generalize numS (n / 10) = x at HS hsz HI
      have d1 : n.tdiv 10 = n / 10 := Int.tdiv_eq_ediv_of_nonneg h0
      have d2 : n.tmod 10 = n % 10 := Int.tmod_eq_emod_of_nonneg h0
      have d3 : IntKind.i64.wrap (n / 10) = n / 10 := by rw [IntKind.wrap_i64]; omega
      have d4 : IntKind.i64.wrap (48 + n % 10) = 48 + n % 10 := by rw [IntKind.wrap_i64]; omega
      have d5 : IntKind.u8.wrap (48 + n % 10) = 48 + n % 10 := by simp [IntKind.wrap, IntKind.signed, IntKind.bits]; omega
      have cv := conv_one
      have cvd := conv_one_drew
      have hy : (⟨#[UInt8.ofNat (48 + n % 10).toNat]⟩ : ByteArray).size = 1 := rfl
      have hsum : ¬ (9223372036854775807 < x.size + (⟨#[UInt8.ofNat (48 + n % 10).toNat]⟩ : ByteArray).size) := by rw [hy]; omega
      go_enter Tryd.func19, Tryd.ntmps19
      go_wp2_with (go_at_call 17; refine (specNum_any n _ true (by simp [h0, h1])).mono ?_; rintro e w' ⟨rfl, rfl⟩)
      go_region_with (go_at_call 19; refine (HI.out _).mono ?_; rintro e w2 ⟨rfl, hb2⟩; try (have hcv := conv_one_at w2 w.heap.size (48 + n % 10) (cell_behind hb2)))
      all_goals
        go_wp2
        go_ret
        refine ⟨by rw [HS.out]; rfl, ?_⟩
        first
          | exact ((Below.refl w.heap.size w).drew.trans hb2).alloc hb2.size _
          | exact ((Below.refl w.heap.size w).alloc (Nat.le_refl _) _).drew.trans (hb2.mono (by simp))

set_option maxHeartbeats 400000 in
theorem specNumText_any (n : Int) (w : World) :
    Calls Tryd.prog 19 #[.int .i64 n] w fun e w' => e = .returned (.string (numS n)) ∧ Below w.heap.size w w' := by
  by_cases h : 0 ≤ n ∧ n ≤ 1099511627775
  · exact specNumText_ok n.toNat n w (Nat.le_refl _) h.1 h.2
  · have HS := hid (numS_bad n h)
    go_enter Tryd.func19, Tryd.ntmps19
    go_wp2_with (go_at_call 17; refine (specNum_any n _ false (by rw [decide_eq_false h])).mono ?_; rintro e w' ⟨rfl, rfl⟩)
    go_ret
    exact ⟨by rw [HS.out]; rfl, Below.refl _ _⟩
end Go.Proofs.YtjddkofpfmjojaaDoor
/-
  The decimal text of a number: what the program's NumText answers: the same as the model's.
-/
namespace Go.Proofs.YtjddkofpfmjojaaDoor
open Go.RowKit

/-- The table of powers of ten that Go's strconv reads. -/
def Tab (w : World) : Prop := Lib.TabIs Tryd.prog w ((Rows.fnExactReplyTextRow.laid.map (·.1)).getD 2 default) .u64 Lib.pow10Tab
theorem grow_below (w : World) (k : Nat) (os : Array Obj) : Below w.heap.size w (Sort.grow (w.drewN k) os) := by
  refine ⟨rfl, rfl, rfl, ?_, fun i hi => ?_⟩
  · show w.heap.size ≤ (w.heap ++ os).size
    simp
  · show (w.heap ++ os)[i]? = w.heap[i]?
    rw [Array.getElem?_append_left hi]
theorem Tab.below {w w' : World} {B : Nat} (h : Tab w) (hb : Below B w w') (hB : 2 < B) : Tab w' :=
  var?_below (g := 2) hb (by kernel_rfl) hB h

set_option maxHeartbeats 400000 in
theorem isNumberN_any (n : Int) (w : World) (b : Bool) (hb : b = decide (0 ≤ n ∧ n ≤ 1099511627775)) :
    Calls Tryd.prog 58 #[.int .i64 n] w fun e w' => e = .returned (.bool b) ∧ w = w' := by
  have HB : Hid (b = decide (0 ≤ n ∧ n ≤ 1099511627775)) := hb
  clear hb
  by_cases h0 : 0 ≤ n
  · by_cases h1 : n ≤ 1099511627775
    · go_enter Tryd.func58, Tryd.ntmps58
      go_wp2
      go_ret
      exact ⟨by rw [HB.out]; simp [h0, h1], rfl⟩
    · go_enter Tryd.func58, Tryd.ntmps58
      go_wp2
      go_ret
      exact ⟨by rw [HB.out]; simp [h1], rfl⟩
  · go_enter Tryd.func58, Tryd.ntmps58
    go_wp2
    go_ret
    exact ⟨by rw [HB.out, decide_eq_false (by omega)]; rfl, rfl⟩

theorem itoa_any (n : Int) (w : World) (h0 : 0 ≤ n) (h1 : n ≤ 1099511627775) (ht : Tab w) :
    Calls Tryd.prog 59 #[.int .i64 n] w fun e w' => e = .returned (.string (numS n)) ∧ Below w.heap.size w w' := by
  refine (Any.strconv_Itoa Tryd.laysM171 n (by omega) (by omega) w ht).mono ?_
  rintro e w' ⟨he, k, os, hw⟩
  refine ⟨?_, by rw [hw]; exact grow_below w k os⟩
  rw [he, numS_ok n h0 h1]
  unfold Lib.itoa
  rw [if_neg (by omega)]

set_option maxHeartbeats 400000 in
theorem implNumText_any (n : Int) (w : World) (ht : Tab w) :
    Calls Tryd.prog 38 #[.int .i64 n] w fun e w' => e = .returned (.string (numS n)) ∧ Below w.heap.size w w' := by
  have HT := hid ht
  clear ht
  by_cases h : 0 ≤ n ∧ n ≤ 1099511627775
  · obtain ⟨h0, h1⟩ := h
    go_enter Tryd.func38, Tryd.ntmps38
    go_wp2_with (first
      | (go_at_call 58; refine (isNumberN_any n _ true (by simp [h0, h1])).mono ?_; rintro e w' ⟨rfl, rfl⟩)
      | (go_at_call 59; refine (itoa_any n w h0 h1 HT.out).mono ?_; rintro e w1 ⟨rfl, hb1⟩))
    go_ret
    exact ⟨rfl, hb1⟩
  · have HS := hid (numS_bad n h)
    go_enter Tryd.func38, Tryd.ntmps38
    go_wp2_with (go_at_call 58; refine (isNumberN_any n _ false (by rw [decide_eq_false h])).mono ?_; rintro e w' ⟨rfl, rfl⟩)
    go_ret
    exact ⟨by rw [HS.out]; rfl, Below.refl _ _⟩
end Go.Proofs.YtjddkofpfmjojaaDoor
/-
  The built-in append, onto a slice of bytes that the call owns, from any slice of bytes, the nil one too: it owns both behind it.
-/
namespace Go.Proofs.YtjddkofpfmjojaaDoor
open Go.RowKit

/-- The slice value v owns a row of its own, from block number B on, whose first bytes are zs. -/
def Ob (w : World) (B : Nat) (v : Value) (zs : List Int) : Prop := w.ownsRow B 5 1 v zs.length (zs.map (Value.int .u8))

theorem run_append_own_nil {P : Program} {w : World} {base : Nat} {t ty e : TypeId} {i : TypeInfo} (ht : P.underlying t = some (.slice e)) (hi : P.info? e = some i)
    {v : Value} {n : Nat} {xs : List Value} (hown : w.ownsRow base e 1 v n xs) (c : Nat) :
    (Builtin.append_ #[t, t] ty #[v, .slice none 0 c]).run P w = .ok v w := by
  rcases hown.2 with ⟨rfl, rfl⟩ | ⟨g, cap, cur, rfl, hbg, hg, hnc, hcm, hcs, htake⟩
  · simp [Builtin.append_, run_underlying ht, sizeOf, typeInfo, hi, Builtin.lenOf, Builtin.firstCells]
  · have hr := run_append_room_src (P := P) w t t ty e i ht hi g 0 n cap (.slice none 0 c) 0 [] (Src.ofNil w ht c) (by omega) (by intro j hj; simp at hj) (by intro j hj; simp at hj)
    rw [hr]
    rfl

theorem run_append_rd {w : World} (ty : TypeId) (base : Nat) (v : Value) (zs : List Int) (hown : Ob w base v zs) (ao : Option Addr) (m c : Nat) (ys : List Int) (hsrc : Rd w ao m c ys)
    (hb : zs.length + ys.length ≤ 70368744177664) (hbase : base ≤ w.heap.size) :
    ∃ v' w', (Builtin.append_ #[86, 86] ty #[v, .slice ao m c]).run Tryd.prog w = .ok v' w' ∧ Ob w' base v' (zs ++ ys) ∧ w.grownBy w' v.ownBlock := by
  obtain ⟨i0, hi, hz0, hz1, hz2⟩ := info_parts infoU8
  obtain ⟨h1, h2, h3, h30, h4, h5⟩ := hsrc
  cases ao with
  | none =>
    have hm : m = 0 := by
      rcases Nat.eq_zero_or_pos m with h | h
      · exact h
      · obtain ⟨b, off, e, _⟩ := h5 h
        cases e
    subst hm
    have hy : ys = [] := List.eq_nil_of_length_eq_zero h1.symm
    subst hy
    exact ⟨v, w, run_append_own_nil Tryd.underlying86 hi hown c, by simpa using hown, ⟨rfl, rfl, rfl, Nat.le_refl _, fun _ _ _ => rfl⟩⟩
  | some ad =>
    obtain ⟨v', w', hr, ho, hg, _⟩ := run_append_own (P := Tryd.prog) w base 86 ty 5 i0 (.int .u8 0) 1 1 Tryd.underlying86 hi hz0 hz1 hz2 rfl (by decide) v zs.length (zs.map (Value.int .u8)) hown ad m c (ys.map (Value.int .u8))
      (by simp [h1]) (by
        intro j u hu
        have hj : j < ys.length := by
          have := (List.getElem?_eq_some_iff.1 hu).1
          simpa using this
        obtain ⟨b, off, e, _, hc⟩ := h5 (by omega)
        cases e
        have := hc j (by omega)
        rw [Addr.add_lit, this]
        simp [hj] at hu
        simp [hj, hu]) (by
        intro u hu
        obtain ⟨x, _, rfl⟩ := List.mem_map.1 hu
        rfl) (by unfold maxLen; omega) (by omega) hbase
    refine ⟨v', w', hr, ?_, hg⟩
    unfold Ob
    rw [List.length_append, List.map_append, ← h1]
    exact ho

theorem wpList_append_rd {w : World} {ops : Array Oper} {rest : List Oper} {o : Oper} {a : Act} {Q : Exit → Act → World → Prop} (hgd : o.guard = none) (s x : Operand)
    (ho : o.op = .call { callee := .builtin .append, args := #[s, x], argTypes := #[86, 86] }) (base : Nat) (v : Value) (zs : List Int) (hs : a.eval s = v) (hown : Ob w base v zs)
    (ao : Option Addr) (m c : Nat) (ys : List Int) (hx : a.eval x = .slice ao m c) (hsrc : Rd w ao m c ys) (hb : zs.length + ys.length ≤ 70368744177664) (hbase : base ≤ w.heap.size)
    (h : ∀ v' w', Ob w' base v' (zs ++ ys) → w.grownBy w' v.ownBlock → wpList Tryd.prog ops Q rest (a.put o.dst v') w') : wpList Tryd.prog ops Q (o :: rest) a w := by
  refine wpList_plain hgd fun K hK => ?_
  obtain ⟨v', w', hr, h2, h3⟩ := run_append_rd (w := w) o.type base v zs hown ao m c ys hsrc hb hbase
  unfold Oper.wp execOp
  simp only [ho, resolve, invoke, builtin, Sem.run_bind, Sem.run_pure, Result.andThen_ok, List.map_toArray, List.map_cons, List.map_nil, hs, hx, hr]
  exact hK _ _ (h v' w' h2 h3)

/-- An owned slice, read. -/
theorem Ob.rd {w : World} {B : Nat} {v : Value} {zs : List Int} (h : Ob w B v zs) (hl : ∀ i : Nat, 0 ≤ zs[i]?.getD 0 ∧ zs[i]?.getD 0 ≤ 255) (hb : zs.length ≤ 70368744177664) :
    ∃ a c, v = .slice a zs.length c ∧ Rd w a zs.length c zs ∧ ∀ x, a = some x → B ≤ x.block := by
  rcases h.2 with ⟨rfl, h0⟩ | ⟨g, cap, cur, rfl, hbg, hg, hnc, hcm, hcs, htake⟩
  · exact ⟨none, 0, by rw [h0], ⟨rfl, by omega, by omega, by omega, hl, fun hp => by omega⟩, fun x hx => by cases hx⟩
  · refine ⟨some ⟨g, 0, none⟩, cap, rfl, ⟨rfl, hnc, by unfold maxLen at hcm; omega, by omega, hl, fun _ => ⟨g, 0, rfl, ?_, fun i hi => ?_⟩⟩, fun x hx => by cases hx; exact hbg⟩
    · rcases Nat.lt_or_ge g w.heap.size with h | h
      · exact h
      · rw [Array.getElem?_eq_none h] at hg; cases hg
    · have hc := h.cells (g := g) rfl i (.int .u8 (zs[i]?.getD 0)) (by simp [hi])
      rw [Addr.add_lit] at hc
      exact hc
theorem Ob.shape {w : World} {B : Nat} {v : Value} {zs : List Int} (h : Ob w B v zs) : ∃ a c, v = .slice a zs.length c := by
  rcases h.2 with ⟨rfl, h0⟩ | ⟨g, cap, cur, rfl, _⟩
  · exact ⟨none, 0, by rw [h0]⟩
  · exact ⟨_, cap, rfl⟩
theorem Ob.alloc {w : World} {B : Nat} {v : Value} {zs : List Int} (h : Ob w B v zs) (o : Obj) : Ob (w.alloc o) B v zs := World.ownsRow.alloc h o
/-- The empty literal. -/
theorem ob_new (w : World) (B : Nat) (hB : B ≤ w.heap.size) : Ob (w.alloc (.cells #[] 5)) B (.slice (some ⟨w.heap.size, 0, none⟩) 0 0) [] :=
  ⟨rfl, .inr ⟨w.heap.size, 0, #[], rfl, hB, heap_alloc_new w _, Nat.le_refl _, by decide, rfl, rfl⟩⟩
/-- What append leaves, below. -/
theorem Ob.below {w w1 w2 : World} {B : Nat} {v : Value} {zs : List Int} (h : Ob w1 B v zs) (hb : Below B w w1) (hB : B ≤ w1.heap.size) (hg : w1.grownBy w2 v.ownBlock) : Below B w w2 :=
  hb.grown hg hB fun k hk => (World.ownsRow.lt h k hk).1
/-- One byte in a row of its own. -/
theorem rd_one (w : World) (z : Int) (h0 : 0 ≤ z) (h1 : z ≤ 255) : Rd (w.alloc (.cells #[.int .u8 z] 5)) (some ⟨w.heap.size, 0, none⟩) 1 1 [z] := by
  refine ⟨rfl, Nat.le_refl _, by omega, by omega, fun i => ?_, fun _ => ⟨w.heap.size, 0, rfl, by simp, fun i hi => ?_⟩⟩
  · match i with
    | 0 => exact ⟨h0, h1⟩
    | n + 1 => simp
  · have : i = 0 := by omega
    subst this
    rw [World.cell?_alloc_at (hn := rfl)]
    simp

end Go.Proofs.YtjddkofpfmjojaaDoor
