/-
  What the law's helpers do, for every slice of bytes: toByteS makes a new row with the same bytes; eqByteS tells whether two slices have the same bytes.
-/
import Derived.Test.YtcpdedpgjaimkaaDoorRows
import Derived.WalkKit
import Derived.WalkSpells
import Derived.Deep.QuietTactic
import Derived.BigQuiet
import Derived.Deep.OwnRows
import Derived.Laws.IdiomStrings
import Derived.Laws.Cover1
import Derived.Laws.AppendOwnNone
import Derived.Deep.RegionHeld3
import Derived.Laws.MakeOwn
import Derived.Deep.AppendSrc
import Derived.RowKit
import Derived.Maps.AppendAt
import Derived.Deep.RegionLaw
import Derived.Deep.DeepCutAuto
namespace Go.Proofs.YtcpdedpgjaimkaaDoor
open Go.RowKit

theorem hid {p : Prop} (h : p) : Hid p := h
theorem infoU8 : (Tryd.prog.info? 5).map (fun i => (i.zero, i.size, i.bytes)) = some (some (.int .u8 0), 1, 1) := by kernel_rfl

/-- The slice value '.slice a n c' has in the world w the bytes zs. -/
def Rd (w : World) (a : Option Addr) (n c : Nat) (zs : List Int) : Prop :=
  n = zs.length ∧ n ≤ c ∧ c ≤ 9223372036854775807 ∧ n ≤ 140737488355328 ∧ (∀ i : Nat, 0 ≤ zs[i]?.getD 0 ∧ zs[i]?.getD 0 ≤ 255) ∧
    (0 < n → ∃ b off, a = some ⟨b, off, none⟩ ∧ b < w.heap.size ∧ ∀ i, i < n → w.cell? ⟨b, off + i, none⟩ = some (.int .u8 (zs[i]?.getD 0)))

def byteVals (zs : List Int) : Array Value := (zs.map (Value.int .u8)).toArray

/-- The row that toByteS fills, k of its bytes being there. -/
def part (zs : List Int) (k : Nat) : Array Value := ((zs.take k).map (Value.int .u8) ++ List.replicate (zs.length - k) (Value.int .u8 0)).toArray
theorem part_zero (zs : List Int) : part zs 0 = madeCells #[.int .u8 0] zs.length := by
  apply Array.ext
  · simp [part, madeCells]
  · intro i h1 h2; simp [part, madeCells, Nat.mod_one]
theorem part_all (zs : List Int) : part zs zs.length = byteVals zs := by simp [part, byteVals]
theorem part_at (zs : List Int) (k : Nat) (h : k < zs.length) : (part zs k)[k]? = some (.int .u8 0) := by
  simp only [part, List.getElem?_toArray]
  have hl : ((zs.take k).map (Value.int .u8)).length = k := by simp; omega
  rw [List.getElem?_append_right (by omega), hl, List.getElem?_replicate]
  rw [if_pos (by omega)]
theorem part_set (zs : List Int) (k : Nat) (h : k < zs.length) : (part zs k).setIfInBounds k (.int .u8 (zs[k]?.getD 0)) = part zs (k + 1) := by
  have e : zs[k]?.getD 0 = zs[k] := by simp [h]
  rw [e]
  simp only [part, List.setIfInBounds_toArray]
  congr 1
  have hl : ((zs.take k).map (Value.int .u8)).length = k := by simp; omega
  rw [List.set_append_right _ _ (by omega), hl]
  have h2 : zs.length - k = (zs.length - (k + 1)) + 1 := by omega
  rw [List.take_succ_eq_append_getElem h, h2, List.replicate_succ, List.map_append, Nat.sub_self, List.set_cons_zero, List.append_assoc]
  rfl


theorem Rd.len {w : World} {a : Option Addr} {n c : Nat} {zs : List Int} (h : Rd w a n c zs) : n = zs.length := h.1

/-- A slice reads as before in a world that has kept what lay below. -/
theorem Rd.below {w w' : World} {B : Nat} {a : Option Addr} {n c : Nat} {zs : List Int} (h : Rd w a n c zs) (hB : Below B w w') (hlt : ∀ x, a = some x → 0 < n → x.block < B) : Rd w' a n c zs := by
  obtain ⟨h1, h2, h3, h30, h4, h5⟩ := h
  refine ⟨h1, h2, h3, h30, h4, fun hp => ?_⟩
  obtain ⟨b, off, rfl, hb, hc⟩ := h5 hp
  refine ⟨b, off, rfl, Nat.lt_of_lt_of_le hb hB.size, fun i hi => ?_⟩
  rw [hB.cell (p := ⟨b, off + i, none⟩) (hlt ⟨b, off, none⟩ rfl hp)]
  exact hc i hi
theorem Rd.lt {w : World} {a : Option Addr} {n c : Nat} {zs : List Int} (h : Rd w a n c zs) : ∀ x, a = some x → 0 < n → x.block < w.heap.size := by
  intro x hx hp
  obtain ⟨b, off, ha, hb, _⟩ := h.2.2.2.2.2 hp
  rw [ha] at hx; cases hx; exact hb
theorem Rd.kept {w w' : World} {a : Option Addr} {n c : Nat} {zs : List Int} (h : Rd w a n c zs) (hB : Below w.heap.size w w') : Rd w' a n c zs := h.below hB h.lt
/-- The row that toByteS leaves. -/
theorem rd_new (w : World) (zs : List Int) (hl : zs.length ≤ 140737488355328) (hb : ∀ i : Nat, 0 ≤ zs[i]?.getD 0 ∧ zs[i]?.getD 0 ≤ 255) :
    Rd (w.alloc (.cells (byteVals zs) 5)) (some ⟨w.heap.size, 0, none⟩) zs.length zs.length zs := by
  refine ⟨rfl, Nat.le_refl _, by omega, hl, hb, fun _ => ⟨w.heap.size, 0, rfl, by simp, fun i hi => ?_⟩⟩
  rw [World.cell?_alloc_at (hn := rfl)]
  simp [byteVals, hi]

theorem take_succ_eq {xs ys : List Int} {k : Nat} (hx : k < xs.length) (hy : k < ys.length) (h : xs.take k = ys.take k) (e : xs[k]?.getD 0 = ys[k]?.getD 0) : xs.take (k + 1) = ys.take (k + 1) := by
  rw [List.take_succ_eq_append_getElem hx, List.take_succ_eq_append_getElem hy, h]
  simp [hx, hy] at e
  rw [e]

/-- What is known of a slice of integers that came in: it is nil; or it leads to a row of 'cap' cells, the first 'len' of which are its elements. -/
def IsRow (k : IntKind) (w : World) (a : Option Addr) (len cap : Nat) (zs : List Int) : Prop :=
  (a = none ∧ len = 0 ∧ cap = 0 ∧ zs = []) ∨
  ∃ x, a = some x ∧ len ≤ cap ∧ cap ≤ maxLen ∧ zs.length = cap ∧ (∀ i, i < zs.length → w.cell? (x.add i) = some (.int k (zs.getD i 0))) ∧ ∀ n ∈ zs, (Lit.int k n).wf = true
theorem block_lt {w : World} {x : Addr} {v : Value} (h : w.cell? x = some v) : x.block < w.heap.size := by
  rcases Nat.lt_or_ge x.block w.heap.size with h' | h'
  · exact h'
  · simp [World.cell?, Array.getElem?_eq_none h'] at h
theorem rd_of_row {w : World} {a : Option Addr} {len cap : Nat} {zs : List Int} (h : IsRow .u8 w a len cap zs) (hl : len ≤ 140737488355328) : Rd w a len cap (zs.take len) := by
  rcases h with ⟨rfl, rfl, rfl, rfl⟩ | ⟨x, rfl, h1, h2, h3, h4, h5⟩
  · exact ⟨rfl, Nat.le_refl _, by omega, by omega, by simp, fun h => by omega⟩
  · refine ⟨by simp; omega, h1, by unfold maxLen at h2; omega, hl, fun i => ?_, fun hp => ?_⟩
    · by_cases hi : i < (zs.take len).length
      · have hm : (zs.take len)[i] ∈ zs := List.mem_of_mem_take (List.getElem_mem hi)
        have := h5 _ hm
        rw [List.getElem?_eq_getElem hi]
        simpa [Lit.wf, IntKind.min, IntKind.max, IntKind.signed, IntKind.bits] using this
      · rw [List.getElem?_eq_none (by omega)]; simp
    · obtain ⟨b, off, spot⟩ := x
      have hc := h4 0 (by omega)
      have hspot : spot = none := by simpa [Addr.add] using World.cell?_spot hc
      subst hspot
      refine ⟨b, off, rfl, by simpa [Addr.add] using block_lt hc, fun i hi => ?_⟩
      have hci := h4 i (by omega)
      rw [Addr.add_lit] at hci
      rw [hci, List.getElem?_take_of_lt hi]
      rfl
theorem i64_bounds {n : Int} (h : (Lit.int .i64 n).wf = true) : -9223372036854775808 ≤ n ∧ n ≤ 9223372036854775807 := by
  simpa [Lit.wf, IntKind.min, IntKind.max, IntKind.signed, IntKind.bits] using h
theorem Below.drewN' {B : Nat} {a w : World} (h : Below B a w) (q : Nat) : Below B a (w.drewN q) := ⟨h.os, h.tape, h.output, h.size, h.block⟩

end Go.Proofs.YtcpdedpgjaimkaaDoor
/-
  The order of byte strings: strict, total; the empty string is the least; a byte 0 behind makes the next one.
-/
namespace Go.Proofs.YtcpdedpgjaimkaaDoor

theorem less_irrefl (a : List UInt8) : Op.bytesLess a a = false := by
  induction a with
  | nil => rfl
  | cons x a ih => simp [Op.bytesLess, ih]
theorem less_asymm (a : List UInt8) : ∀ b, Op.bytesLess a b = true → Op.bytesLess b a = false := by
  induction a with
  | nil => intro b h; cases b <;> rfl
  | cons x a ih =>
    intro b h
    cases b with
    | nil => simp [Op.bytesLess] at h
    | cons y b =>
      simp only [Op.bytesLess, Bool.or_eq_true, decide_eq_true_eq, Bool.and_eq_true, beq_iff_eq, Bool.or_eq_false_iff, decide_eq_false_iff_not, Bool.and_eq_false_iff] at h ⊢
      rcases h with h | ⟨rfl, h⟩
      · exact ⟨fun h' => absurd (UInt8.lt_trans h h') (UInt8.lt_irrefl _), .inl (by
          simp only [beq_eq_false_iff_ne]; intro e; subst e; exact UInt8.lt_irrefl _ h)⟩
      · exact ⟨UInt8.lt_irrefl _, .inr (ih b h)⟩
theorem less_total (a : List UInt8) : ∀ b, Op.bytesLess a b = false → a ≠ b → Op.bytesLess b a = true := by
  induction a with
  | nil => intro b h hne; cases b with | nil => exact absurd rfl hne | cons y b => simp [Op.bytesLess] at h
  | cons x a ih =>
    intro b h hne
    cases b with
    | nil => rfl
    | cons y b =>
      simp only [Op.bytesLess, Bool.or_eq_true, decide_eq_true_eq, Bool.and_eq_true, beq_iff_eq, Bool.or_eq_false_iff, decide_eq_false_iff_not, Bool.and_eq_false_iff] at h ⊢
      by_cases e : x = y
      · subst e
        refine .inr ⟨rfl, ih b ?_ (fun e => hne (by rw [e]))⟩
        rcases h.2 with h' | h'
        · simp at h'
        · exact h'
      · refine .inl ?_
        rcases Nat.lt_or_ge y.toNat x.toNat with h' | h'
        · exact UInt8.lt_iff_toNat_lt.2 h'
        · refine absurd (UInt8.lt_iff_toNat_lt.2 (Nat.lt_of_le_of_ne h' fun e' => e (UInt8.toNat_inj.1 e'))) h.1
theorem less_trans (a : List UInt8) : ∀ b c, Op.bytesLess a b = true → Op.bytesLess b c = true → Op.bytesLess a c = true := by
  induction a with
  | nil => intro b c h1 h2; cases c with | nil => cases b <;> simp [Op.bytesLess] at h2 | cons z c => rfl
  | cons x a ih =>
    intro b c h1 h2
    cases b with
    | nil => simp [Op.bytesLess] at h1
    | cons y b =>
      cases c with
      | nil => simp [Op.bytesLess] at h2
      | cons z c =>
        simp only [Op.bytesLess, Bool.or_eq_true, decide_eq_true_eq, Bool.and_eq_true, beq_iff_eq] at h1 h2 ⊢
        rcases h1 with h1 | ⟨rfl, h1⟩
        · rcases h2 with h2 | ⟨rfl, h2⟩
          · exact .inl (UInt8.lt_trans h1 h2)
          · exact .inl h1
        · rcases h2 with h2 | ⟨rfl, h2⟩
          · exact .inl h2
          · exact .inr ⟨rfl, ih _ _ h1 h2⟩
/-- a is not above b, b is below c. -/
theorem nless_less (a b c : List UInt8) (h1 : Op.bytesLess b a = false) (h2 : Op.bytesLess b c = true) : Op.bytesLess a c = true := by
  by_cases e : a = b
  · subst e; exact h2
  · exact less_trans _ _ _ (less_total _ _ h1 (Ne.symm e)) h2
theorem less_nless (a b c : List UInt8) (h1 : Op.bytesLess a b = true) (h2 : Op.bytesLess c b = false) : Op.bytesLess a c = true := by
  by_cases e : b = c
  · subst e; exact h1
  · exact less_trans _ _ _ h1 (less_total _ _ h2 (Ne.symm e))
theorem nless_trans (a b c : List UInt8) (h1 : Op.bytesLess b a = false) (h2 : Op.bytesLess c b = false) : Op.bytesLess c a = false := by
  cases h : Op.bytesLess c a with
  | false => rfl
  | true => rw [less_nless c a b h h1] at h2; cases h2
theorem less_nil (a : List UInt8) : Op.bytesLess a [] = false := by cases a <;> rfl
theorem less_zero (a : List UInt8) : Op.bytesLess a (a ++ [0]) = true := by
  induction a with
  | nil => rfl
  | cons x a ih => simp [Op.bytesLess, ih]
theorem nil_less (a : List UInt8) (h : ¬ a = []) : Op.bytesLess [] a = true := by cases a with | nil => exact absurd rfl h | cons _ _ => rfl

theorem str_ext {a b : ByteArray} (h : a.toList = b.toList) : a = b := by
  rw [ByteArray.toList_eq, ByteArray.toList_eq] at h
  cases a; cases b
  simp at h
  rw [h]
theorem str_beq {a b : ByteArray} (h : a ≠ b) : (a.toList == b.toList) = false := by
  simp only [beq_eq_false_iff_ne, ne_eq]
  exact fun e => h (str_ext e)
theorem tri (a b : ByteArray) : (Op.bytesLess a.toList b.toList = true ∧ Op.bytesLess b.toList a.toList = false ∧ (a.toList == b.toList) = false ∧ (b.toList == a.toList) = false) ∨ a = b ∨
    (Op.bytesLess a.toList b.toList = false ∧ Op.bytesLess b.toList a.toList = true ∧ (a.toList == b.toList) = false ∧ (b.toList == a.toList) = false) := by
  by_cases e : a = b
  · exact .inr (.inl e)
  · cases h : Op.bytesLess a.toList b.toList with
    | true => exact .inl ⟨rfl, less_asymm _ _ h, str_beq e, str_beq (Ne.symm e)⟩
    | false => exact .inr (.inr ⟨rfl, less_total _ _ h (fun e' => e (str_ext e')), str_beq e, str_beq (Ne.symm e)⟩)
end Go.Proofs.YtcpdedpgjaimkaaDoor
/-
  Keys and values: what the program's functions and the specification's answer, for all strings.
-/
namespace Go.Proofs.YtcpdedpgjaimkaaDoor
open Go.RowKit

theorem str_empty {s : ByteArray} (h : s.toList = []) : s.size = 0 := by
  rw [ByteArray.toList_eq] at h
  show s.data.size = 0
  rw [← Array.length_toList, h]; rfl
theorem str_full {s : ByteArray} (h : ¬ s.toList = []) : 1 ≤ s.size := by
  rcases Nat.eq_zero_or_pos s.size with e | e
  · refine absurd ?_ h
    rw [ByteArray.toList_eq]
    exact List.eq_nil_of_length_eq_zero (by rw [Array.length_toList]; exact e)
  · exact e
theorem below_drew (w : World) : Below w.heap.size w w.drew := ⟨rfl, rfl, rfl, Nat.le_refl _, fun _ _ => rfl⟩
theorem Below.then' {B : Nat} {w w1 w2 : World} (h : Below B w w1) (h2 : Below w1.heap.size w1 w2) (hB : B ≤ w.heap.size) : Below B w w2 := h.trans (h2.mono (Nat.le_trans hB h.size))
theorem below_new {w w1 : World} {o : Obj} (h : Below (w.alloc o).heap.size (w.alloc o) w1) : Below w.heap.size w w1 := ((Below.refl _ _).alloc (Nat.le_refl _) o).trans (h.mono (by simp))

def kOk (k : ByteArray) : Bool := decide (1 ≤ k.size) && decide (k.size ≤ 16)
theorem specKeyOk_any (k : ByteArray) (w : World) : Calls Tryd.prog 53 #[.string k] w fun e w' => e = .returned (.bool (kOk k)) ∧ w = w' := by
  by_cases h3 : 1 ≤ k.size
  · have HE : Hid (kOk k = decide (k.size ≤ 16)) := by show kOk k = decide (k.size ≤ 16); simp [kOk, h3]
    have h4 : (1 : Int) ≤ (k.size : Int) := by omega
    by_cases h4 : k.size ≤ 16
    · have h5 : (k.size : Int) ≤ 16 := by omega
      go_enter Tryd.func53, Tryd.ntmps53
      go_wp2
      go_ret
      exact ⟨by rw [HE.out, decide_eq_true h4]; rfl, rfl⟩
    · have h5 : ¬ (k.size : Int) ≤ 16 := by omega
      go_enter Tryd.func53, Tryd.ntmps53
      go_wp2
      go_ret
      exact ⟨by rw [HE.out, decide_eq_false h4]; rfl, rfl⟩
  · have HE : Hid (kOk k = false) := by show kOk k = false; simp [kOk, h3]
    have h4 : ¬ (1 : Int) ≤ (k.size : Int) := by omega
    go_enter Tryd.func53, Tryd.ntmps53
    go_wp2
    go_ret
    exact ⟨by rw [HE.out]; rfl, rfl⟩
def vOk (v : ByteArray) : Bool := decide (v.size ≤ 60)
theorem specValOk_any (v : ByteArray) (w : World) : Calls Tryd.prog 54 #[.string v] w fun e w' => e = .returned (.bool (vOk v)) ∧ w = w' := by
  have HE : Hid (vOk v = decide ((v.size : Int) ≤ 60)) := by
    show decide (v.size ≤ 60) = decide ((v.size : Int) ≤ 60)
    rw [decide_eq_decide]; omega
  go_enter Tryd.func54, Tryd.ntmps54
  go_wp2
  go_ret
  exact ⟨by rw [HE.out]; rfl, rfl⟩
theorem specKeyOk_is (k : ByteArray) (b : Bool) (h : kOk k = b) (w : World) : Calls Tryd.prog 53 #[.string k] w fun e w' => e = .returned (.bool b) ∧ w' = w := by
  subst h
  exact (specKeyOk_any k w).mono fun _ _ ⟨h1, h2⟩ => ⟨h1, h2.symm⟩
theorem specValOk_is (k : ByteArray) (b : Bool) (h : vOk k = b) (w : World) : Calls Tryd.prog 54 #[.string k] w fun e w' => e = .returned (.bool b) ∧ w' = w := by
  subst h
  exact (specValOk_any k w).mono fun _ _ ⟨h1, h2⟩ => ⟨h1, h2.symm⟩
end Go.Proofs.YtcpdedpgjaimkaaDoor
/-
  Trees as plain data: pairs at leaves, kids of branches; their least key, all pairs, depth, fullness, their nodes in the walk's order; and what reading a list of nodes gives, in the program's way and in the specification's.
-/
namespace Go.Proofs.YtcpdedpgjaimkaaDoor
open Go.RowKit

abbrev PB := ByteArray × ByteArray
structure NB where
  ps : List PB
  keys : List ByteArray
  kids : List Int
inductive T where
  | mk (ps : List PB) (ks : List T)
instance : Inhabited T := ⟨.mk [] []⟩
instance : Inhabited NB := ⟨⟨[], [], []⟩⟩
def T.ps : T → List PB | .mk ps _ => ps
def T.ks : T → List T | .mk _ ks => ks
theorem T.ind {P : T → Prop} (h : ∀ ps ks, (∀ k ∈ ks, P k) → P (.mk ps ks)) : ∀ t, P t := by
  intro t
  refine T.rec (motive_1 := P) (motive_2 := fun ks => ∀ k ∈ ks, P k) (fun ps ks ih => h ps ks ih) (by simp) ?_ t
  intro k ks h1 h2 x hx
  rcases List.mem_cons.1 hx with rfl | hx
  · exact h1
  · exact h2 x hx
mutual
def T.size : T → Nat | .mk _ ks => 1 + szL ks
def szL : List T → Nat | [] => 0 | k :: ks => k.size + szL ks
end
mutual
def T.all : T → List PB | .mk ps ks => ps ++ allL ks
def allL : List T → List PB | [] => [] | k :: ks => k.all ++ allL ks
end
def T.least : T → ByteArray
  | .mk ps [] => (ps.head?.map (·.1)).getD ⟨#[]⟩
  | .mk _ (k :: _) => k.least
/-- How far the first leaf is down. -/
def T.lv : T → Nat
  | .mk _ [] => 1
  | .mk _ (k :: _) => k.lv + 1
mutual
def T.dp : T → Int | .mk _ ks => if ks = [] then 1 else dpL true 0 ks
def dpL : Bool → Int → List T → Int
  | _, d, [] => d
  | f, d, k :: ks => if k.dp < 0 ∨ (f = false ∧ k.dp + 1 ≠ d) then -1 else dpL false (k.dp + 1) ks
end
mutual
def T.full : Bool → T → Bool | root, .mk ps ks => if ks = [] then decide (ps.length ≤ 4) && (decide (2 ≤ ps.length) || root && decide (ps.length = 1)) else decide (2 ≤ ks.length) && decide (ks.length ≤ 4) && decide (ps.length = 0) && fullL ks
def fullL : List T → Bool | [] => true | k :: ks => k.full false && fullL ks
end
def places : Nat → List T → List Int
  | _, [] => []
  | a, k :: ks => (a : Int) :: places (a + k.size) ks
mutual
def lay : Nat → T → List NB | a, .mk ps ks => if ks = [] then [⟨ps, [], []⟩] else ⟨[], ks.tail.map T.least, places (a + 1) ks⟩ :: layL (a + 1) ks
def layL : Nat → List T → List NB | _, [] => [] | a, k :: ks => lay a k ++ layL (a + k.size) ks
end
/-- All leaves are h down. -/
def Ev : Nat → T → Prop
  | 0, _ => False
  | h + 1, .mk _ ks => (ks = [] ∧ h = 0) ∨ (ks ≠ [] ∧ ∀ k ∈ ks, Ev h k)
def nAt (ns : List NB) (i : Nat) : NB := ns[i]?.getD ⟨[], [], []⟩
/-- At place a of ns lie the nodes l. -/
def Pre (ns : List NB) (a : Nat) (l : List NB) : Prop := ∀ i, i < l.length → ns[a + i]? = l[i]?
theorem pre_append {ns : List NB} {a : Nat} {l m : List NB} : Pre ns a (l ++ m) ↔ Pre ns a l ∧ Pre ns (a + l.length) m := by
  constructor
  · intro h
    refine ⟨fun i hi => ?_, fun i hi => ?_⟩
    · rw [h i (by simp; omega), List.getElem?_append_left hi]
    · have := h (l.length + i) (by simp; omega)
      rw [List.getElem?_append_right (by omega)] at this
      rw [Nat.add_assoc, this]
      congr 1
      omega
  · rintro ⟨h1, h2⟩ i hi
    by_cases hl : i < l.length
    · rw [h1 i hl, List.getElem?_append_left hl]
    · have := h2 (i - l.length) (by simp at hi; omega)
      rw [List.getElem?_append_right (by omega), ← this]
      congr 1
      omega
mutual
theorem lay_length : ∀ (t : T) (a : Nat), (lay a t).length = t.size
  | .mk ps ks, a => by
    by_cases h : ks = []
    · subst h; simp [lay, T.size, szL]
    · simp [lay, h, T.size, layL_length ks (a + 1)]; omega
theorem layL_length : ∀ (ks : List T) (a : Nat), (layL a ks).length = szL ks
  | [], a => by simp [layL, szL]
  | k :: ks, a => by simp [layL, szL, lay_length k a, layL_length ks (a + k.size)]
end

/-- What the specification's reading of the kids gives. -/
def rdSL (rd : Int → Option (T × Nat)) : List Int → Nat → Option (List T × Nat)
  | [], nx => some ([], nx)
  | k :: kids, nx => if k ≠ (nx : Int) then none else match rd k with
    | none => none
    | some (t, n1) => match rdSL rd kids n1 with
      | none => none
      | some (ts, n2) => some (t :: ts, n2)
def rdS (ns : List NB) : Nat → Int → Option (T × Nat)
  | 0, _ => none
  | f + 1, a => if a < 0 ∨ (ns.length : Int) ≤ a then none else match rdSL (rdS ns f) (nAt ns a.toNat).kids (a.toNat + 1) with
    | none => none
    | some (ts, n) => some (.mk (nAt ns a.toNat).ps ts, n)
/-- What the program's reading of the kids gives: ts0 have been read. -/
def rdIL (rd : Int → Nat → Option (T × Nat)) (keys : List ByteArray) : List T → List Int → Nat → Option (List T × Nat)
  | ts0, [], nx => some (ts0, nx)
  | ts0, k :: kids, nx => match rd k nx with
    | none => none
    | some (t, n1) => if 0 < ts0.length ∧ (t.least ≠ keys[ts0.length - 1]?.getD ⟨#[]⟩ ∨ t.lv ≠ (ts0[0]?.getD default).lv) then none else rdIL rd keys (ts0 ++ [t]) kids n1
def leafOk (n : NB) (root : Bool) : Bool := !(decide (n.ps.length = 0) || decide (4 < n.ps.length) || (decide (n.ps.length < 2) && !root) || !decide (n.keys.length = 0))
def brOk (n : NB) : Bool := !(decide (n.kids.length < 2) || decide (4 < n.kids.length) || !decide ((n.keys.length : Int) = (n.kids.length : Int) - 1) || !decide (n.ps.length = 0))
def rdI (ns : List NB) : Nat → Int → Nat → Option (T × Nat)
  | 0, _, _ => none
  | f + 1, pl, nx => if pl ≠ (nx : Int) ∨ (ns.length : Int) ≤ pl then none else
    if (nAt ns nx).kids.length = 0 then (if leafOk (nAt ns nx) (decide (pl = 0)) = true then some (.mk (nAt ns nx).ps [], nx + 1) else none)
    else if brOk (nAt ns nx) = true then (match rdIL (rdI ns f) (nAt ns nx).keys [] (nAt ns nx).kids (nx + 1) with
      | none => none
      | some (ts, n) => some (.mk [] ts, n)) else none
end Go.Proofs.YtcpdedpgjaimkaaDoor
/-
  Reading: the program reads just the trees that are full, evenly deep and laid in the walk's order; the specification reads these too.
-/
namespace Go.Proofs.YtcpdedpgjaimkaaDoor
open Go.RowKit

theorem ev_lv : ∀ (h : Nat) (t : T), Ev h t → t.lv = h
  | 0, _, e => e.elim
  | h + 1, .mk ps [], e => by
    rcases e with ⟨_, rfl⟩ | ⟨e, _⟩
    · rfl
    · exact absurd rfl e
  | h + 1, .mk ps (k :: ks), e => by
    rcases e with ⟨e, _⟩ | ⟨_, e⟩
    · cases e
    · simp [T.lv, ev_lv h k (e k (by simp))]
theorem ev_dpL (h : Nat) (ih : ∀ t, Ev h t → t.dp = h) : ∀ (ks : List T), (∀ k ∈ ks, Ev h k) → ∀ f, ks ≠ [] ∨ f = false → dpL f (if f then 0 else (h : Int) + 1) ks = h + 1
  | [], _, f, hf => by
    rcases hf with hf | rfl
    · exact absurd rfl hf
    · simp [dpL]
  | k :: ks, hk, f, _ => by
    have e := ih k (hk k (by simp))
    have := ev_dpL h ih ks (fun x hx => hk x (by simp [hx])) false (.inr rfl)
    simp only [dpL, e]
    rw [if_neg]
    · simpa using this
    · rintro (h1 | ⟨rfl, h1⟩)
      · omega
      · simp at h1
theorem ev_dp : ∀ (h : Nat) (t : T), Ev h t → t.dp = h
  | 0, _, e => e.elim
  | h + 1, .mk ps ks, e => by
    rcases e with ⟨rfl, rfl⟩ | ⟨e1, e2⟩
    · simp [T.dp]
    · have := ev_dpL h (ev_dp h) ks e2 true (.inl e1)
      simpa [T.dp, e1] using this
theorem dpL_neg_or (ks : List T) : ∀ (f : Bool) (d : Int), (dpL f d ks = -1) ∨ (∀ k ∈ ks, 0 ≤ k.dp ∧ k.dp + 1 = dpL f d ks) ∧ (f = false → ks ≠ [] → dpL f d ks = d) ∧ (ks = [] → dpL f d ks = d) := by
  induction ks with
  | nil => intro f d; right; simp [dpL]
  | cons k ks ih =>
    intro f d
    simp only [dpL]
    split
    · exact .inl rfl
    · rename_i h
      rcases ih false (k.dp + 1) with h1 | ⟨h1, h2, h3⟩
      · exact .inl h1
      · have hv : dpL false (k.dp + 1) ks = k.dp + 1 := by
          by_cases hk : ks = []
          · exact h3 hk
          · exact h2 rfl hk
        refine .inr ⟨fun x hx => ?_, fun hf _ => ?_, fun h => by cases h⟩
        · rcases List.mem_cons.1 hx with rfl | hx
          · exact ⟨by omega, hv.symm⟩
          · exact h1 x hx
        · rw [hv]
          by_cases e : k.dp + 1 = d
          · exact e
          · exact absurd (.inr ⟨hf, e⟩) h
theorem dp_ev : ∀ (t : T), 0 ≤ t.dp → Ev t.dp.toNat t := by
  refine T.ind ?_
  intro ps ks ih h0
  by_cases hk : ks = []
  · subst hk
    simp [T.dp, Ev]
  · have e : (T.mk ps ks).dp = dpL true 0 ks := by simp [T.dp, hk]
    rw [e] at h0 ⊢
    rcases dpL_neg_or ks true 0 with h1 | ⟨h1, _, _⟩
    · omega
    · obtain ⟨k, hk'⟩ := List.exists_mem_of_ne_nil ks hk
      have := h1 k hk'
      obtain ⟨m, hm⟩ : ∃ m : Nat, dpL true 0 ks = m + 1 := ⟨(dpL true 0 ks).toNat - 1, by omega⟩
      rw [hm]
      show Ev (m + 1) _
      refine .inr ⟨hk, fun x hx => ?_⟩
      have hx' := h1 x hx
      have := ih x hx hx'.1
      rwa [show x.dp.toNat = m by omega] at this
theorem pre_cons {ns : List NB} {a : Nat} {n : NB} {l : List NB} : Pre ns a (n :: l) ↔ ns[a]? = some n ∧ Pre ns (a + 1) l := by
  rw [show n :: l = [n] ++ l from rfl, pre_append]
  constructor
  · rintro ⟨h1, h2⟩; exact ⟨by simpa using h1 0 (by simp), h2⟩
  · rintro ⟨h1, h2⟩; refine ⟨fun i hi => ?_, h2⟩; simp at hi; subst hi; simpa using h1
theorem pre_lt {ns : List NB} {a : Nat} {n : NB} (h : ns[a]? = some n) : a < ns.length ∧ nAt ns a = n := by
  obtain ⟨h1, h2⟩ := List.getElem?_eq_some_iff.1 h
  exact ⟨h1, by simp [nAt, h]⟩
theorem nAt_some {ns : List NB} {a : Nat} (h : a < ns.length) : ns[a]? = some (nAt ns a) := by simp [nAt, h]
theorem T.size_pos (t : T) : 0 < t.size := by cases t; simp [T.size]; omega

theorem fullL_iff (ks : List T) : fullL ks = true ↔ ∀ k ∈ ks, k.full false = true := by
  induction ks with
  | nil => simp [fullL]
  | cons k ks ih => simp [fullL, ih]
theorem full_br {r : Bool} {ps : List PB} {ks : List T} (h : (T.mk ps ks).full r = true) (hk : ks ≠ []) : 2 ≤ ks.length ∧ ks.length ≤ 4 ∧ ps = [] ∧ ∀ k ∈ ks, k.full false = true := by
  simp only [T.full, hk, if_false, Bool.and_eq_true, decide_eq_true_eq] at h
  exact ⟨h.1.1.1, h.1.1.2, List.eq_nil_of_length_eq_zero h.1.2, (fullL_iff ks).1 h.2⟩
theorem full_lf {r : Bool} {ps : List PB} (h : (T.mk ps []).full r = true) : ps.length ≤ 4 ∧ (2 ≤ ps.length ∨ r = true ∧ ps.length = 1) := by
  simpa [T.full] using h

/-- The specification reads what lies there. -/
theorem rdSL_some (ns : List NB) (f : Nat) (ih : ∀ (t : T) (h a : Nat) (r : Bool), Ev h t → t.full r = true → h ≤ f → Pre ns a (lay a t) → rdS ns f a = some (t, a + t.size)) (h : Nat) (hf : h ≤ f) :
    ∀ (ks : List T) (a : Nat), (∀ k ∈ ks, Ev h k) → (∀ k ∈ ks, k.full false = true) → Pre ns a (layL a ks) → rdSL (rdS ns f) (places a ks) a = some (ks, a + szL ks)
  | [], a, _, _, _ => by simp [places, rdSL, szL]
  | k :: ks, a, he, hu, hp => by
    rw [layL, pre_append, lay_length] at hp
    have h1 := ih k h a false (he k (by simp)) (hu k (by simp)) hf hp.1
    have h2 := rdSL_some ns f ih h hf ks (a + k.size) (fun x hx => he x (by simp [hx])) (fun x hx => hu x (by simp [hx])) hp.2
    simp [places, rdSL, h1, h2, szL, Nat.add_assoc]
theorem rdS_some (ns : List NB) : ∀ (f : Nat) (t : T) (h a : Nat) (r : Bool), Ev h t → t.full r = true → h ≤ f → Pre ns a (lay a t) → rdS ns f a = some (t, a + t.size)
  | 0, t, h, a, r, he, hu, hf, hp => by obtain rfl : h = 0 := by omega
                                        exact he.elim
  | f + 1, .mk ps ks, 0, a, r, he, hu, hf, hp => he.elim
  | f + 1, .mk ps ks, h + 1, a, r, he, hu, hf, hp => by
    by_cases hk : ks = []
    · subst hk
      simp only [lay, if_true] at hp
      obtain ⟨h1, h2⟩ := pre_lt (pre_cons.1 hp).1
      simp [rdS, h2, rdSL, T.size, szL]
      omega
    · simp only [lay, hk, if_false] at hp
      obtain ⟨h0, h3⟩ := pre_cons.1 hp
      obtain ⟨h1, h2⟩ := pre_lt h0
      obtain ⟨_, _, rfl, hu'⟩ := full_br hu hk
      rcases he with ⟨e, _⟩ | ⟨_, e⟩
      · exact absurd e hk
      · have := rdSL_some ns f (rdS_some ns f) h (by omega) ks (a + 1) e hu' h3
        simp [rdS, h2, this, T.size]
        omega
/-- The program reads what lies there. -/
theorem rdIL_some (ns : List NB) (f : Nat) (ih : ∀ (t : T) (h a : Nat), Ev h t → t.full (decide (a = 0)) = true → h ≤ f → Pre ns a (lay a t) → rdI ns f a a = some (t, a + t.size)) (h : Nat) (hf : h ≤ f) (keys : List ByteArray) :
    ∀ (ks ts0 : List T) (a : Nat), 0 < a → (∀ k ∈ ts0, Ev h k) → (∀ k ∈ ks, Ev h k) → (∀ k ∈ ks, k.full false = true) → (∀ i, 0 < i → i < (ts0 ++ ks).length → keys[i - 1]?.getD ⟨#[]⟩ = ((ts0 ++ ks)[i]?.getD default).least) →
      Pre ns a (layL a ks) → rdIL (rdI ns f) keys ts0 (places a ks) a = some (ts0 ++ ks, a + szL ks)
  | [], ts0, a, _, _, _, _, _, _ => by simp [places, rdIL, szL]
  | k :: ks, ts0, a, ha, hz, he, hu, hkey, hp => by
    rw [layL, pre_append, lay_length] at hp
    have h1 := ih k h a (he k (by simp)) (by rw [decide_eq_false (by omega)]; exact hu k (by simp)) hf hp.1
    have h2 := rdIL_some ns f ih h hf keys ks (ts0 ++ [k]) (a + k.size) (by omega) (by
        intro x hx
        rcases List.mem_append.1 hx with hx | hx
        · exact hz x hx
        · simp at hx; subst hx; exact he x (by simp)) (fun x hx => he x (by simp [hx])) (fun x hx => hu x (by simp [hx])) (by simpa using hkey) hp.2
    simp only [places, rdIL, h1]
    rw [if_neg]
    · rw [h2]; simp [szL, Nat.add_assoc]
    · rintro ⟨h0, h3 | h3⟩
      · have := hkey ts0.length h0 (by simp)
        simp at this
        exact h3 (by rw [this])
      · apply h3
        rw [ev_lv h k (he k (by simp))]
        obtain ⟨x, hx⟩ : ∃ x, ts0[0]? = some x := ⟨ts0[0], by simp⟩
        rw [hx]
        exact (ev_lv h x (hz x (List.mem_of_getElem? hx))).symm
theorem rdI_some (ns : List NB) : ∀ (f : Nat) (t : T) (h a : Nat), Ev h t → t.full (decide (a = 0)) = true → h ≤ f → Pre ns a (lay a t) → rdI ns f a a = some (t, a + t.size)
  | 0, t, h, a, he, hu, hf, hp => by obtain rfl : h = 0 := by omega
                                     exact he.elim
  | f + 1, .mk ps ks, 0, a, he, hu, hf, hp => he.elim
  | f + 1, .mk ps ks, h + 1, a, he, hu, hf, hp => by
    by_cases hk : ks = []
    · subst hk
      simp only [lay, if_true] at hp
      obtain ⟨h1, h2⟩ := pre_lt (pre_cons.1 hp).1
      obtain ⟨u1, u2⟩ := full_lf hu
      have hl : leafOk ⟨ps, [], []⟩ (decide ((a : Int) = 0)) = true := by
        have e1 : ps.length ≠ 0 := by rcases u2 with u2 | ⟨_, u2⟩ <;> omega
        have e2 : ps.length < 2 → a = 0 := by
          intro h; rcases u2 with u2 | ⟨u2, _⟩
          · omega
          · exact of_decide_eq_true u2
        simp only [leafOk, Bool.not_eq_true', Bool.or_eq_false_iff, decide_eq_false_iff_not, Bool.and_eq_false_iff, List.length_nil, decide_true, Bool.not_true]
        refine ⟨⟨⟨e1, by omega⟩, ?_⟩, trivial⟩
        by_cases h2 : ps.length < 2
        · right; simp [e2 h2]
        · left; exact h2
      rw [rdI, if_neg (by omega), h2, if_pos (by rfl), if_pos hl]
      simp [T.size, szL]
    · simp only [lay, hk, if_false] at hp
      obtain ⟨h0, h3⟩ := pre_cons.1 hp
      obtain ⟨h1, h2⟩ := pre_lt h0
      obtain ⟨u1, u2, rfl, hu'⟩ := full_br hu hk
      rcases he with ⟨e, _⟩ | ⟨_, e⟩
      · exact absurd e hk
      · have := rdIL_some ns f (rdI_some ns f) h (by omega) (ks.tail.map T.least) ks [] (a + 1) (by omega) (by simp) e hu' (by
          intro i hi hlt
          obtain ⟨j, rfl⟩ : ∃ j, i = j + 1 := ⟨i - 1, by omega⟩
          simp at hlt ⊢
          simp [hlt]) h3
        have hpl : ∀ (ks : List T) (a : Nat), (places a ks).length = ks.length := by
          intro ks; induction ks with
          | nil => intro a; rfl
          | cons k ks ih => intro a; simp [places, ih]
        have hb : brOk ⟨[], ks.tail.map T.least, places (a + 1) ks⟩ = true := by
          simp only [brOk, hpl, Bool.not_eq_true', Bool.or_eq_false_iff, decide_eq_false_iff_not, Bool.not_eq_false', decide_eq_true_eq, List.length_nil, List.length_map, List.length_tail]
          refine ⟨⟨⟨by omega, by omega⟩, by omega⟩, trivial⟩
        rw [rdI, if_neg (by omega), h2, if_neg (by simp only [hpl]; omega), if_pos hb]
        simp only [this]
        simp [T.size]
        omega
theorem rdIL_sound (ns : List NB) (f : Nat) (ih : ∀ (pl : Int) (nx : Nat) (t : T) (n1 : Nat), rdI ns f pl nx = some (t, n1) → pl = nx ∧ nx < ns.length ∧ t.full (decide (nx = 0)) = true ∧ (∃ h, Ev h t) ∧ Pre ns nx (lay nx t) ∧ n1 = nx + t.size)
    (keys : List ByteArray) (h : Nat) : ∀ (kids : List Int) (ts0 : List T) (nx : Nat) (ts : List T) (n : Nat), 0 < nx → 0 < ts0.length → (∀ k ∈ ts0, Ev h k) → rdIL (rdI ns f) keys ts0 kids nx = some (ts, n) →
      ∃ ks, ts = ts0 ++ ks ∧ kids = places nx ks ∧ (∀ k ∈ ks, Ev h k) ∧ (∀ k ∈ ks, k.full false = true) ∧ (∀ i, ts0.length ≤ i → i < ts.length → keys[i - 1]?.getD ⟨#[]⟩ = (ts[i]?.getD default).least) ∧ Pre ns nx (layL nx ks) ∧ n = nx + szL ks
  | [], ts0, nx, ts, n, hnx, hl, hz, hr => by
    simp only [rdIL, Option.some.injEq, Prod.mk.injEq] at hr
    obtain ⟨rfl, rfl⟩ := hr
    exact ⟨[], by simp, rfl, by simp, by simp, fun i h1 h2 => by omega, fun i hi => by simp [layL] at hi, rfl⟩
  | k :: kids, ts0, nx, ts, n, hnx, hl, hz, hr => by
    simp only [rdIL] at hr
    cases e : rdI ns f k nx with
    | none => simp [e] at hr
    | some x =>
      obtain ⟨t, n1⟩ := x
      obtain ⟨rfl, i2, i3, ⟨h', i4⟩, i5, rfl⟩ := ih _ _ _ _ e
      simp only [e] at hr
      split at hr
      · cases hr
      · rename_i hc
        have hl0 : t.least = keys[ts0.length - 1]?.getD ⟨#[]⟩ := by
          by_cases q : t.least = keys[ts0.length - 1]?.getD ⟨#[]⟩
          · exact q
          · exact absurd ⟨hl, .inl q⟩ hc
        have hl1 : t.lv = (ts0[0]?.getD default).lv := by
          by_cases q : t.lv = (ts0[0]?.getD default).lv
          · exact q
          · exact absurd ⟨hl, .inr q⟩ hc
        obtain ⟨x, hx⟩ : ∃ x, ts0[0]? = some x := ⟨ts0[0], by simp⟩
        have hh : h' = h := by
          rw [← ev_lv h' t i4, hl1, hx]
          exact ev_lv h x (hz x (List.mem_of_getElem? hx))
        subst hh
        obtain ⟨ks, rfl, rfl, k3, k4, k5, k6, rfl⟩ := rdIL_sound ns f ih keys h' kids (ts0 ++ [t]) (nx + t.size) ts n (by omega) (by simp) (by
          intro y hy
          rcases List.mem_append.1 hy with hy | hy
          · exact hz y hy
          · simp at hy; subst hy; exact i4) hr
        refine ⟨t :: ks, by simp, rfl, ?_, ?_, ?_, ?_, by simp [szL, Nat.add_assoc]⟩
        · intro y hy
          rcases List.mem_cons.1 hy with rfl | hy
          · exact i4
          · exact k3 y hy
        · intro y hy
          rcases List.mem_cons.1 hy with rfl | hy
          · rwa [decide_eq_false (by omega)] at i3
          · exact k4 y hy
        · intro i h1 h2
          by_cases hi : i = ts0.length
          · subst hi
            rw [← hl0]
            simp
          · exact k5 i (by simp; omega) h2
        · rw [layL, pre_append, lay_length]
          exact ⟨i5, k6⟩
theorem rdI_sound (ns : List NB) : ∀ (f : Nat) (pl : Int) (nx : Nat) (t : T) (n1 : Nat), rdI ns f pl nx = some (t, n1) → pl = nx ∧ nx < ns.length ∧ t.full (decide (nx = 0)) = true ∧ (∃ h, Ev h t) ∧ Pre ns nx (lay nx t) ∧ n1 = nx + t.size
  | 0, pl, nx, t, n1, h => by simp [rdI] at h
  | f + 1, pl, nx, t, n1, h => by
    rw [rdI] at h
    split at h
    · cases h
    · rename_i h0
      have hpl : pl = nx := by omega
      subst hpl
      have hlt : nx < ns.length := by omega
      have hn := nAt_some hlt
      generalize nAt ns nx = N at h hn
      obtain ⟨nps, nkeys, nkids⟩ := N
      refine ⟨rfl, hlt, ?_⟩
      split at h
      · rename_i hk
        have hk := List.eq_nil_of_length_eq_zero hk
        simp only at hk
        subst hk
        split at h
        · rename_i hl
          simp only [Option.some.injEq, Prod.mk.injEq] at h
          obtain ⟨rfl, rfl⟩ := h
          simp only [leafOk, Bool.not_eq_true', Bool.or_eq_false_iff, decide_eq_false_iff_not, Bool.and_eq_false_iff, Bool.not_eq_false', decide_eq_true_eq] at hl
          obtain ⟨⟨⟨l1, l2⟩, l3⟩, l4⟩ := hl
          have l4 := List.eq_nil_of_length_eq_zero l4
          subst l4
          refine ⟨?_, ⟨1, by simp [Ev]⟩, ?_, by simp [T.size, szL]⟩
          · simp only [T.full, if_true, Bool.and_eq_true, decide_eq_true_eq, Bool.or_eq_true]
            refine ⟨by omega, ?_⟩
            rcases l3 with l3 | l3
            · left; omega
            · by_cases h2 : 2 ≤ nps.length
              · exact .inl h2
              · right; exact ⟨by omega, by omega⟩
          · simp only [lay, if_true]
            exact pre_cons.2 ⟨hn, fun i hi => by simp at hi⟩
        · cases h
      · rename_i hk
        split at h
        · rename_i hb
          simp only [brOk, Bool.not_eq_true', Bool.or_eq_false_iff, decide_eq_false_iff_not, Bool.not_eq_false', decide_eq_true_eq] at hb
          obtain ⟨⟨⟨b1, b2⟩, b3⟩, b4⟩ := hb
          have b4 := List.eq_nil_of_length_eq_zero b4
          subst b4
          cases nkids with
          | nil => simp at b1
          | cons k kids =>
            cases e : rdIL (rdI ns f) nkeys [] (k :: kids) (nx + 1) with
            | none => simp [e] at h
            | some x =>
              obtain ⟨ts, n⟩ := x
              simp only [e, Option.some.injEq, Prod.mk.injEq] at h
              obtain ⟨rfl, rfl⟩ := h
              simp only [rdIL] at e
              cases e1 : rdI ns f k (nx + 1) with
              | none => simp [e1] at e
              | some y =>
                obtain ⟨t0, n1⟩ := y
                simp only [e1, List.length_nil, Nat.lt_irrefl, false_and, if_false, List.nil_append] at e
                obtain ⟨rfl, i2, i3, ⟨h', i4⟩, i5, rfl⟩ := rdI_sound ns f _ _ _ _ e1
                rw [decide_eq_false (by omega)] at i3
                obtain ⟨ks, rfl, rfl, k3, k4, k5, k6, rfl⟩ := rdIL_sound ns f (rdI_sound ns f) nkeys h' kids [t0] (nx + 1 + t0.size) ts n (by omega) (by simp) (by simp; exact i4) e
                have hpl : ∀ (ks : List T) (a : Nat), (places a ks).length = ks.length := by
                  intro ks; induction ks with
                  | nil => intro a; rfl
                  | cons k ks ih => intro a; simp [places, ih]
                simp only [List.length_cons, hpl] at b1 b2 b3
                have hkeys : nkeys = ks.map T.least := by
                  apply List.ext_getElem
                  · simp; omega
                  · intro i h1 h2
                    have := k5 (i + 1) (by simp) (by simp at h2 ⊢; omega)
                    simp at h2
                    simp [h1, h2] at this
                    simpa using this
                refine ⟨?_, ⟨h' + 1, .inr ⟨by simp, ?_⟩⟩, ?_, by simp [T.size, szL]; omega⟩
                · simp only [T.full, List.singleton_append, reduceCtorEq, if_false, Bool.and_eq_true, decide_eq_true_eq, List.length_cons, List.length_nil]
                  refine ⟨⟨⟨by omega, by omega⟩, trivial⟩, ?_⟩
                  simp only [fullL, i3, Bool.true_and]
                  exact (fullL_iff ks).2 k4
                · intro y hy
                  rcases List.mem_cons.1 hy with rfl | hy
                  · exact i4
                  · exact k3 y hy
                · simp only [lay, List.singleton_append, reduceCtorEq, if_false, List.tail_cons]
                  refine pre_cons.2 ⟨by rw [hn, hkeys]; rfl, ?_⟩
                  rw [layL, pre_append, lay_length]
                  exact ⟨i5, k6⟩
        · cases h
end Go.Proofs.YtcpdedpgjaimkaaDoor
/-
  Which lists of nodes are right trees, said once for the program's way of reading and the specification's.
-/
namespace Go.Proofs.YtcpdedpgjaimkaaDoor
open Go.RowKit

def pAtB (l : List PB) (i : Nat) : PB := l[i]?.getD (⟨#[]⟩, ⟨#[]⟩)
/-- The pairs are right from place k on. -/
def pOkF (l : List PB) : Nat → Nat → Bool
  | 0, _ => true
  | f + 1, k => kOk (pAtB l k).1 && vOk (pAtB l k).2 && (decide (k = 0) || Op.bytesLess (pAtB l (k - 1)).1.toList (pAtB l k).1.toList) && pOkF l f (k + 1)
def pOk (l : List PB) : Bool := decide (l.length ≤ 200) && pOkF l l.length 0
theorem pOk_len {l : List PB} (h : pOk l = true) : l.length ≤ 200 := by simp [pOk] at h; exact h.1
mutual
theorem full_all : ∀ (t : T), t.full false = true → t.size + 1 ≤ t.all.length
  | .mk ps ks, h => by
    by_cases hk : ks = []
    · subst hk
      have := full_lf h
      simp at this
      simp [T.size, szL, T.all, allL]
      omega
    · obtain ⟨h1, h2, rfl, h3⟩ := full_br h hk
      have := fullL_all ks h3
      simp [T.size, T.all]
      omega
theorem fullL_all : ∀ (ks : List T), (∀ k ∈ ks, k.full false = true) → szL ks + ks.length ≤ (allL ks).length
  | [], _ => by simp [szL]
  | k :: ks, h => by
    have h1 := full_all k (h k (by simp))
    have h2 := fullL_all ks (fun x hx => h x (by simp [hx]))
    simp [szL, allL]
    omega
end
theorem full_root {t : T} (h : t.full true = true) : t.size ≤ t.all.length := by
  obtain ⟨ps, ks⟩ := t
  by_cases hk : ks = []
  · subst hk
    have := full_lf h
    simp [T.size, szL, T.all, allL]
    omega
  · obtain ⟨h1, h2, rfl, h3⟩ := full_br h hk
    have := fullL_all ks h3
    simp [T.size, T.all]
    omega
theorem ev_size : ∀ (h : Nat) (t : T) (r : Bool), Ev h t → t.full r = true → 2 ^ h ≤ t.size + 1
  | 0, t, r, e, _ => e.elim
  | h + 1, .mk ps ks, r, e, hu => by
    rcases e with ⟨rfl, rfl⟩ | ⟨hk, e⟩
    · simp [T.size, szL]
    · obtain ⟨h1, h2, rfl, h3⟩ := full_br hu hk
      have : ∀ (l : List T), (∀ k ∈ l, k ∈ ks) → l.length * (2 ^ h - 1) ≤ szL l := by
        intro l
        induction l with
        | nil => simp [szL]
        | cons k l ih =>
          intro hl
          have a1 := ev_size h k false (e k (hl k (by simp))) (h3 k (hl k (by simp)))
          have a2 := ih (fun x hx => hl x (by simp [hx]))
          simp only [szL, List.length_cons, Nat.add_mul, Nat.one_mul]
          omega
      have a1 := this ks (fun _ h => h)
      have a2 : 2 * (2 ^ h - 1) ≤ ks.length * (2 ^ h - 1) := Nat.mul_le_mul_right _ h1
      have a3 : 0 < 2 ^ h := Nat.pos_of_ne_zero (by simp)
      simp only [T.size]
      rw [Nat.pow_succ]
      omega
theorem ev_le_size {h : Nat} {t : T} {r : Bool} (e : Ev h t) (hu : t.full r = true) : h ≤ t.size := by
  have h1 := ev_size h t r e hu
  have h2 : h < 2 ^ h := Nat.lt_two_pow_self
  omega
/-- The nodes ns are the right tree t. -/
structure Good (ns : List NB) (t : T) : Prop where
  full : t.full true = true
  even : ∃ h, Ev h t
  ok : pOk t.all = true
  laid : lay 0 t = ns
def okT (ns : List NB) : Option T :=
  if ns.length = 0 then some (.mk [] []) else if 400 ≤ ns.length then none else match rdI ns ns.length 0 0 with
    | none => none
    | some (t, n) => if n = ns.length ∧ pOk t.all = true then some t else none
theorem pre_self (ns : List NB) : Pre ns 0 ns := fun i _ => by simp
theorem pre_all {ns l : List NB} (h : Pre ns 0 l) (hl : l.length = ns.length) : l = ns := by
  apply List.ext_getElem?
  intro i
  by_cases hi : i < l.length
  · have := h i hi; simpa using this.symm
  · rw [List.getElem?_eq_none (by omega), List.getElem?_eq_none (by omega)]
theorem Good.len {ns : List NB} {t : T} (g : Good ns t) : ns.length = t.size ∧ ns.length ≤ 200 := by
  have h1 := full_root g.full
  have h2 := pOk_len g.ok
  have h3 := lay_length t 0
  rw [g.laid] at h3
  omega
theorem okT_good {ns : List NB} {t : T} (hne : ns.length ≠ 0) : okT ns = some t ↔ Good ns t := by
  constructor
  · intro h
    rw [okT, if_neg hne] at h
    split at h
    · cases h
    · split at h
      · cases h
      · rename_i x t' n hr
        split at h
        · rename_i hc
          cases h
          obtain ⟨_, _, h3, h4, h5, rfl⟩ := rdI_sound ns _ _ _ _ _ hr
          exact ⟨h3, h4, hc.2, pre_all h5 (by rw [lay_length]; omega)⟩
        · cases h
  · intro g
    obtain ⟨h, hh⟩ := g.even
    have hl := g.len
    have := rdI_some ns ns.length t h 0 hh g.full (by have := ev_le_size hh g.full; omega) (by rw [g.laid]; exact pre_self ns)
    rw [okT, if_neg hne, if_neg (by omega)]
    rw [show rdI ns ns.length 0 0 = some (t, 0 + t.size) from this]
    simp only
    rw [if_pos ⟨by omega, g.ok⟩]
instance : DecidableEq NB := fun a b => decidable_of_iff (a.ps = b.ps ∧ a.keys = b.keys ∧ a.kids = b.kids) (by cases a; cases b; simp)
/-- What the specification asks of the nodes. -/
def spOk (ns : List NB) : Bool :=
  if ns.length = 0 then true else if 400 < ns.length then false else match rdS ns 13 0 with
    | none => false
    | some (t, n) => decide (n = ns.length) && t.full true && decide (0 ≤ t.dp) && pOk t.all && decide (lay 0 t = ns)
theorem Good.read {ns : List NB} {t : T} (g : Good ns t) : rdS ns 13 0 = some (t, ns.length) := by
  obtain ⟨h, hh⟩ := g.even
  have hl := g.len
  have h1 := ev_size h t true hh g.full
  have h2 : h ≤ 13 := by
    rcases Nat.lt_or_ge 13 h with h3 | h3
    · have : 2 ^ 13 ≤ 2 ^ h := Nat.pow_le_pow_right (by omega) (by omega)
      have e : 2 ^ 13 = 8192 := by decide
      omega
    · exact h3
  have := rdS_some ns 13 t h 0 true hh g.full h2 (by rw [g.laid]; exact pre_self ns)
  rw [show rdS ns 13 0 = some (t, 0 + t.size) from this]
  simp; omega
theorem Good.dp {ns : List NB} {t : T} (g : Good ns t) : t.dp = t.lv := by
  obtain ⟨h, hh⟩ := g.even
  rw [ev_dp h t hh, ev_lv h t hh]
theorem spOk_eq (ns : List NB) : spOk ns = (okT ns).isSome := by
  by_cases hne : ns.length = 0
  · simp [spOk, okT, hne]
  · cases e : okT ns with
    | some t =>
      have g := (okT_good hne).1 e
      have hl := g.len
      have hd := g.dp
      simp only [spOk, hne, if_false, g.read, g.full, g.ok, g.laid]
      rw [if_neg (by omega)]
      simp
      omega
    | none =>
      rw [Option.isSome_none, Bool.eq_false_iff]
      intro h
      simp only [spOk, hne, if_false] at h
      split at h
      · cases h
      · split at h
        · cases h
        · rename_i x t n hr
          simp only [Bool.and_eq_true, decide_eq_true_eq] at h
          obtain ⟨⟨⟨⟨h1, h2⟩, h3⟩, h4⟩, h5⟩ := h
          have := (okT_good hne).2 ⟨h2, ⟨_, dp_ev t h3⟩, h4, h5⟩
          rw [e] at this
          cases this
end Go.Proofs.YtcpdedpgjaimkaaDoor
/-
  What is read through a slice value, and in which blocks it lies; which blocks a stretch of the program may have turned.
-/
namespace Go.Proofs.YtcpdedpgjaimkaaDoor
open Go.RowKit

/-- Of the blocks of w only those of R have turned in w'. -/
structure Only (R : Nat → Prop) (w w' : World) : Prop where
  os : w'.os = w.os
  tape : w'.tape = w.tape
  output : w'.output = w.output
  size : w.heap.size ≤ w'.heap.size
  block : ∀ b, b < w.heap.size → ¬ R b → w'.heap[b]? = w.heap[b]?
theorem Only.refl (R : Nat → Prop) (w : World) : Only R w w := ⟨rfl, rfl, rfl, Nat.le_refl _, fun _ _ _ => rfl⟩
theorem Only.trans {R : Nat → Prop} {a b c : World} (h : Only R a b) (k : Only R b c) : Only R a c :=
  ⟨k.os.trans h.os, k.tape.trans h.tape, k.output.trans h.output, Nat.le_trans h.size k.size, fun i hi hr => (k.block i (Nat.lt_of_lt_of_le hi h.size) hr).trans (h.block i hi hr)⟩
/-- What was made since a may turn. -/
theorem Only.then {R R' : Nat → Prop} {a b c : World} (h : Only R a b) (k : Only R' b c) (hr : ∀ i, i < a.heap.size → R' i → R i) : Only R a c :=
  ⟨k.os.trans h.os, k.tape.trans h.tape, k.output.trans h.output, Nat.le_trans h.size k.size, fun i hi hn => (k.block i (Nat.lt_of_lt_of_le hi h.size) (fun h' => hn (hr i hi h'))).trans (h.block i hi hn)⟩
theorem Only.mono {R R' : Nat → Prop} {a b : World} (h : Only R a b) (hr : ∀ i, i < a.heap.size → R i → R' i) : Only R' a b :=
  ⟨h.os, h.tape, h.output, h.size, fun i hi hn => h.block i hi (fun h' => hn (hr i hi h'))⟩
theorem only_of_below {w w' : World} (h : Below w.heap.size w w') (R : Nat → Prop) : Only R w w' := ⟨h.os, h.tape, h.output, h.size, fun b hb _ => h.block b hb⟩
theorem only_of_grown {w w' : World} {row : Option Nat} (h : w.grownBy w' row) {R : Nat → Prop} (hr : ∀ k, row = some k → R k) : Only R w w' :=
  ⟨h.os, h.tape, h.output, h.size, fun b hb hn => h.block b hb (fun e => hn (hr b e.symm))⟩
theorem Only.below {R : Nat → Prop} {w w' : World} {B : Nat} (h : Only R w w') (hB : B ≤ w.heap.size) (hr : ∀ b, b < B → ¬ R b) : Below B w w' := ⟨h.os, h.tape, h.output, h.size, fun b hb => h.block b (by omega) (hr b hb)⟩
theorem only_alloc (R : Nat → Prop) (w : World) (o : Obj) : Only R w (w.alloc o) := ⟨rfl, rfl, rfl, by simp, fun b hb _ => Below.heap_alloc _ _ _ hb⟩
theorem only_set {R : Nat → Prop} {w : World} {p : Addr} (h : R p.block) (u : Value) : Only R w (w.setCell p u) := ⟨rfl, rfl, rfl, by simp [World.setCell], fun b _ hn => Below.heap_setCell _ _ _ _ (fun e => hn (e ▸ h))⟩
theorem only_drew (R : Nat → Prop) (w : World) (q : Nat) : Only R w (w.drewN q) := ⟨rfl, rfl, rfl, Nat.le_refl _, fun _ _ _ => rfl⟩

/-- The slice value v leads in w to n elements whose cells are xs, in a block of S. -/
def Rw (w : World) (S : Nat → Prop) (v : Value) (n : Nat) (xs : List Value) : Prop :=
  ∃ a c, v = .slice a n c ∧ n ≤ c ∧ c ≤ 9223372036854775807 ∧ (n = 0 → xs = []) ∧ (a = none → c = 0) ∧ (0 < n → ∃ b off, a = some ⟨b, off, none⟩ ∧ b < w.heap.size ∧ S b ∧ ∀ j u, xs[j]? = some u → w.cell? ⟨b, off + j, none⟩ = some u)
theorem Rw.to {w w' : World} {S R : Nat → Prop} {v : Value} {n : Nat} {xs : List Value} (h : Rw w S v n xs) (ho : Only R w w') (hd : ∀ b, S b → b < w.heap.size → ¬ R b) : Rw w' S v n xs := by
  obtain ⟨a, c, h1, h2, h3, h4, hn, h5⟩ := h
  refine ⟨a, c, h1, h2, h3, h4, hn, fun hp => ?_⟩
  obtain ⟨b, off, h6, h7, h8, h9⟩ := h5 hp
  refine ⟨b, off, h6, Nat.lt_of_lt_of_le h7 ho.size, h8, fun j u hu => ?_⟩
  rw [← h9 j u hu]
  exact World.cell?_of_block (w := w) (ho.block b h7 (hd b h8 h7))
theorem Rw.mono {w : World} {S R : Nat → Prop} {v : Value} {n : Nat} {xs : List Value} (h : Rw w S v n xs) (hd : ∀ b, S b → b < w.heap.size → R b) : Rw w R v n xs := by
  obtain ⟨a, c, h1, h2, h3, h4, hn, h5⟩ := h
  refine ⟨a, c, h1, h2, h3, h4, hn, fun hp => ?_⟩
  obtain ⟨b, off, h6, h7, h8, h9⟩ := h5 hp
  exact ⟨b, off, h6, h7, hd b h8 h7, h9⟩
theorem rw_nil (w : World) (S : Nat → Prop) : Rw w S (.slice none 0 0) 0 [] := ⟨none, 0, rfl, Nat.le_refl _, by omega, fun _ => rfl, fun _ => rfl, fun h => by omega⟩
/-- What one owns is read. -/
theorem rw_own {w : World} {base : Nat} {e : TypeId} {size : Nat} {v : Value} {n : Nat} {xs : List Value} (h : w.ownsRow base e size v n xs) {S : Nat → Prop} (hS : ∀ k, v.ownBlock = some k → base ≤ k → k < w.heap.size → S k) : Rw w S v n xs := by
  have hlt := World.ownsRow.lt h
  have hc := fun g hg => World.ownsRow.cells h (g := g) hg
  obtain ⟨h1, h2⟩ := h
  rcases h2 with ⟨rfl, rfl⟩ | ⟨g, cap, cur, rfl, h3, h4, h5, h6, h7, h8⟩
  · have : xs = [] := List.eq_nil_of_length_eq_zero (by omega)
    subst this
    exact rw_nil w S
  · refine ⟨_, cap, rfl, h5, by unfold maxLen at h6; omega, fun h0 => List.eq_nil_of_length_eq_zero (by rw [h1, h0]; omega), fun h => by (cases h), fun _ => ⟨g, 0, rfl, (hlt g rfl).2, hS g rfl h3 (hlt g rfl).2, fun j u hu => ?_⟩⟩
    have := hc g rfl j u hu
    rwa [Addr.add_lit] at this
theorem own_kept {w w' : World} {R : Nat → Prop} {base : Nat} {e : TypeId} {size : Nat} {v : Value} {n : Nat} {xs : List Value} (h : w.ownsRow base e size v n xs) (ho : Only R w w') (hR : ∀ k, v.ownBlock = some k → ¬ R k) : w'.ownsRow base e size v n xs := by
  have hlt := World.ownsRow.lt h
  obtain ⟨h1, h2⟩ := h
  refine ⟨h1, ?_⟩
  rcases h2 with h2 | ⟨g, cap, cur, rfl, h3, h4, h5⟩
  · exact .inl h2
  · exact .inr ⟨g, cap, cur, rfl, h3, (ho.block g (hlt g rfl).2 (hR g rfl)).trans h4, h5⟩
theorem own_shape {w : World} {base : Nat} {e : TypeId} {size : Nat} {v : Value} {n : Nat} {xs : List Value} (h : w.ownsRow base e size v n xs) : ∃ a c, v = .slice a n c := by
  rcases h.2 with ⟨rfl, rfl⟩ | ⟨g, cap, cur, rfl, _⟩
  · exact ⟨none, 0, rfl⟩
  · exact ⟨_, cap, rfl⟩

/-- append(dst, src...): dst a row of one's own, src any row. -/
theorem run_append_row {P : Program} {w : World} (base : Nat) (t ty e : TypeId) (i : TypeInfo) (z : Value) (size bytes : Nat) (ht : P.underlying t = some (.slice e)) (hi : P.info? e = some i) (hz : i.zero = some z)
    (hsize : i.size = size) (hby : i.bytes = bytes) (hzs : z.cells.size = size) (hsz : 0 < size) (v : Value) (n : Nat) (xs : List Value) (hown : w.ownsRow base e size v n xs)
    (S : Nat → Prop) (src : Value) (m : Nat) (news : List Value) (hsrc : Rw w S src m news) (hl : news.length = m * size) (h1 : ∀ u ∈ news, u.oneCell' = true)
    (h63 : n + m ≤ maxLen) (hbytes : (n + m) * bytes ≤ 140737488355328) (hbase : base ≤ w.heap.size) :
    ∃ v' w', (Builtin.append_ #[t, t] ty #[v, src]).run P w = .ok v' w' ∧ w'.ownsRow base e size v' (n + m) (xs ++ news) ∧ w.grownBy w' v.ownBlock := by
  obtain ⟨a, c, rfl, h2, h3, h4, hn, h5⟩ := hsrc
  by_cases hm : 0 < m
  · obtain ⟨b, off, rfl, hb, hS, hc⟩ := h5 hm
    obtain ⟨v', w', hr, ho, hg, _⟩ := run_append_own w base t ty e i z size bytes ht hi hz hsize hby hzs hsz v n xs hown ⟨b, off, none⟩ m c news hl (fun j u hu => by rw [Addr.add_lit]; exact hc j u hu) h1 h63 hbytes hbase
    exact ⟨v', w', hr, ho, hg⟩
  · obtain rfl : m = 0 := by omega
    obtain rfl := h4 rfl
    cases a with
    | some ad =>
      obtain ⟨v', w', hr, ho, hg, _⟩ := run_append_own w base t ty e i z size bytes ht hi hz hsize hby hzs hsz v n xs hown ad 0 c [] hl (fun j u hu => by simp at hu) h1 h63 hbytes hbase
      exact ⟨v', w', hr, ho, hg⟩
    | none =>
      obtain rfl := hn rfl
      have hrun := run_append_owned_none (P := P) (w := w) base t ty e i size ht hi v n xs hown
      exact ⟨v, w, hrun, by simpa using hown, ⟨rfl, rfl, rfl, Nat.le_refl _, fun _ _ _ => rfl⟩⟩
theorem wpList_append_row {P : Program} {w : World} {ops : Array Oper} {rest : List Oper} {o : Oper} {a : Act} {Q : Exit → Act → World → Prop} (hgd : o.guard = none) (s x : Operand) (t : TypeId)
    (ho : o.op = .call { callee := .builtin .append, args := #[s, x], argTypes := #[t, t] })
    (base : Nat) (e : TypeId) (i : TypeInfo) (z : Value) (size bytes : Nat) (ht : P.underlying t = some (.slice e)) (hi : P.info? e = some i) (hz : i.zero = some z)
    (hsize : i.size = size) (hby : i.bytes = bytes) (hzs : z.cells.size = size) (hsz : 0 < size) (v : Value) (n : Nat) (xs : List Value) (hs : a.eval s = v) (hown : w.ownsRow base e size v n xs)
    (S : Nat → Prop) (src : Value) (m : Nat) (news : List Value) (hx : a.eval x = src) (hsrc : Rw w S src m news) (hl : news.length = m * size) (h1 : ∀ u ∈ news, u.oneCell' = true)
    (h63 : n + m ≤ maxLen) (hbytes : (n + m) * bytes ≤ 140737488355328) (hbase : base ≤ w.heap.size)
    (h : ∀ v' w', w'.ownsRow base e size v' (n + m) (xs ++ news) → w.grownBy w' v.ownBlock → wpList P ops Q rest (a.put o.dst v') w') : wpList P ops Q (o :: rest) a w := by
  refine wpList_plain hgd fun K hK => ?_
  obtain ⟨v', w', hr, h2, h3⟩ := run_append_row (P := P) (w := w) base t o.type e i z size bytes ht hi hz hsize hby hzs hsz v n xs hown S src m news hsrc hl h1 h63 hbytes hbase
  unfold Oper.wp execOp
  simp only [ho, resolve, invoke, builtin, Sem.run_bind, Sem.run_pure, Result.andThen_ok, List.map_toArray, List.map_cons, List.map_nil, hs, hx, hr]
  exact hK _ _ (h v' w' h2 h3)

/-- The cells of a list of pairs. -/
def pcs : List PB → List Value
  | [] => []
  | p :: ps => .string p.1 :: .string p.2 :: pcs ps
theorem pcs_length (ps : List PB) : (pcs ps).length = ps.length * 2 := by
  induction ps with
  | nil => rfl
  | cons p ps ih => simp only [pcs, List.length_cons, ih]; omega
theorem pcs_append (ps qs : List PB) : pcs (ps ++ qs) = pcs ps ++ pcs qs := by
  induction ps with
  | nil => rfl
  | cons p ps ih => simp only [pcs, List.cons_append, ih]
theorem pcs_one (ps : List PB) : ∀ u ∈ pcs ps, u.oneCell' = true := by
  induction ps with
  | nil => intro u hu; cases hu
  | cons p ps ih =>
    intro u hu
    simp only [pcs, List.mem_cons] at hu
    rcases hu with rfl | rfl | hu
    · rfl
    · rfl
    · exact ih u hu
theorem pcs_at (ps : List PB) : ∀ i, i < ps.length → (pcs ps)[i * 2]? = some (.string (pAtB ps i).1) ∧ (pcs ps)[i * 2 + 1]? = some (.string (pAtB ps i).2) := by
  induction ps with
  | nil => intro i h; exact absurd h (Nat.not_lt_zero _)
  | cons p ps ih =>
    intro i h
    cases i with
    | zero => exact ⟨rfl, rfl⟩
    | succ i =>
      have := ih i (by simpa using h)
      have e : (i + 1) * 2 = i * 2 + 2 := by omega
      rw [e]
      exact this
/-- The slice value v leads to the pairs ps. -/
def Pr (w : World) (S : Nat → Prop) (v : Value) (ps : List PB) : Prop := Rw w S v ps.length (pcs ps)
theorem Pr.cell {w : World} {S : Nat → Prop} {v : Value} {ps : List PB} (h : Pr w S v ps) (hp : 0 < ps.length) : ∃ b off c, v = .slice (some ⟨b, off, none⟩) ps.length c ∧ S b ∧ b < w.heap.size ∧
    ∀ i, i < ps.length → w.cell? ⟨b, off + i * 2, none⟩ = some (.string (pAtB ps i).1) ∧ w.cell? ⟨b, off + i * 2 + 1, none⟩ = some (.string (pAtB ps i).2) := by
  obtain ⟨a, c, rfl, h2, h3, h4, hn, h5⟩ := h
  obtain ⟨b, off, rfl, h7, h8, h9⟩ := h5 hp
  refine ⟨b, off, c, rfl, h8, h7, fun i hi => ?_⟩
  obtain ⟨e1, e2⟩ := pcs_at ps i hi
  exact ⟨h9 _ _ e1, h9 _ _ e2⟩
theorem Rw.shape {w : World} {S : Nat → Prop} {v : Value} {n : Nat} {xs : List Value} (h : Rw w S v n xs) : ∃ a c, v = .slice a n c ∧ n ≤ c ∧ c ≤ 9223372036854775807 := by
  obtain ⟨a, c, h1, h2, h3, _⟩ := h
  exact ⟨a, c, h1, h2, h3⟩
theorem Rw.len {w : World} {S : Nat → Prop} {a : Option Addr} {n m c : Nat} {xs : List Value} (h : Rw w S (.slice a n c) m xs) : n = m ∧ n ≤ c ∧ c ≤ 9223372036854775807 := by
  obtain ⟨a', c', h1, h2, h3, _⟩ := h
  cases h1
  exact ⟨rfl, h2, h3⟩
theorem Pr.shape {w : World} {S : Nat → Prop} {v : Value} {ps : List PB} (h : Pr w S v ps) : ∃ a c, v = .slice a ps.length c ∧ ps.length ≤ c ∧ c ≤ 9223372036854775807 := Rw.shape h
theorem Pr.at {w : World} {S : Nat → Prop} {a : Option Addr} {n c : Nat} {ps : List PB} (h : Pr w S (.slice a n c) ps) (hp : 0 < n) : ∃ b off, a = some ⟨b, off, none⟩ ∧ S b ∧ b < w.heap.size ∧
    ∀ i, i < n → w.cell? ⟨b, off + i * 2, none⟩ = some (.string (pAtB ps i).1) ∧ w.cell? ⟨b, off + i * 2 + 1, none⟩ = some (.string (pAtB ps i).2) := by
  have hn := (Rw.len h).1
  obtain ⟨b, off, c', hv, h1, h2, h3⟩ := h.cell (by omega)
  cases hv
  exact ⟨b, off, rfl, h1, h2, h3⟩
end Go.Proofs.YtcpdedpgjaimkaaDoor
/-
  PairsOk of the program and of the specification: both answer pOk.
-/
namespace Go.Proofs.YtcpdedpgjaimkaaDoor
open Go.RowKit

theorem pOkF_k (l : List PB) (f k : Nat) (h : kOk (pAtB l k).1 = false) : pOkF l (f + 1) k = false := by simp [pOkF, h]
theorem pOkF_v (l : List PB) (f k : Nat) (h : vOk (pAtB l k).2 = false) : pOkF l (f + 1) k = false := by simp [pOkF, h]
theorem pOkF_0 (l : List PB) (f : Nat) (h : kOk (pAtB l 0).1 = true) (h2 : vOk (pAtB l 0).2 = true) : pOkF l (f + 1) 0 = pOkF l f 1 := by simp [pOkF, h, h2]
theorem pOkF_s (l : List PB) (f j : Nat) (h : kOk (pAtB l (j + 1)).1 = true) (h2 : vOk (pAtB l (j + 1)).2 = true) (b : Bool) (h3 : Op.bytesLess (pAtB l j).1.toList (pAtB l (j + 1)).1.toList = b) : pOkF l (f + 1) (j + 1) = (b && pOkF l f (j + 1 + 1)) := by
  simp only [pOkF, h, h2, Nat.add_sub_cancel, h3]; simp
theorem Pr.below {w w' : World} {S : Nat → Prop} {v : Value} {ps : List PB} (h : Pr w S v ps) (hb : Below w.heap.size w w') : Pr w' S v ps := Rw.to h (only_of_below hb (fun _ => False)) (fun _ _ _ h => h)
set_option maxHeartbeats 4000000 in
theorem specPairsOk_at (S : Nat → Prop) (a : Option Addr) (n c : Nat) (l : List PB) (w : World) (h : Pr w S (.slice a n c) l) :
    Calls Tryd.prog 65 #[.slice a n c] w fun e w' => e = .returned (.bool (pOk l)) ∧ Below w.heap.size w w' := by
  obtain ⟨hn, hnc, hc⟩ := Rw.len h
  have H0 := hid h
  clear h
  have HN := hid hn
  clear hn
  by_cases hbig : 200 < n
  · have hb : (200 : Int) < (n : Int) := by omega
    have HR : Hid (pOk l = false) := by show pOk l = false; have := HN.out; simp [pOk]; omega
    go_enter Tryd.func65, Tryd.ntmps65
    go_wp2
    go_ret
    exact ⟨by rw [HR.out]; rfl, Below.refl _ _⟩
  · have hb : ¬ (200 : Int) < (n : Int) := by omega
    have HR : Hid (pOk l = pOkF l n 0) := by show pOk l = pOkF l n 0; have := HN.out; rw [this]; simp [pOk]; omega
    go_enter Tryd.func65, Tryd.ntmps65
    go_wp2_with fail
    go_loopw [3, 4, 10] (fun x y i wr => ∃ k : Nat, k ≤ n ∧ i = .int .i64 k ∧ Hid (Below w.heap.size w wr) ∧ Hid (pOkF l (n - k) k = pOkF l n 0)) (fun _ _ i _ => n - (intOf i).toNat)
    case atStart => exact ⟨0, Nat.zero_le _, rfl, Below.refl _ _, rfl⟩
    case round =>
      obtain ⟨k, hk, rfl, HB, HS⟩ := hrel
      by_cases hlt : k < n
      · have hlt' : (k : Int) < (n : Int) := by omega
        have HP := hid (H0.out.below HB.out)
        obtain ⟨b, off, rfl, _, hbw, hcell⟩ := HP.out.at (by omega)
        have hck := (hcell k hlt).1
        have hck1 := (hcell k hlt).2
        have e1 : n - k = (n - (k + 1)) + 1 := by omega
        have HE1 := hid e1
        clear e1
        rw [HE1.out] at HS
        cases k with
        | zero =>
          clear hcell
          simp only [Nat.zero_mul, Nat.add_zero] at hck hck1
          generalize hcur : pAtB l 0 = cur at hck hck1
          obtain ⟨ck, cv⟩ := cur
          have HC := hid hcur
          clear hcur
          cases h1 : kOk ck
          · have HZ : Hid (pOkF l n 0 = false) := by show pOkF l n 0 = false; rw [← HS.out]; exact pOkF_k l _ _ (by rw [HC.out]; exact h1)
            have C1 := specKeyOk_is ck _ h1
            clear h1
            go_wp2_with fail
            go_quiet (first | (go_at_call 53; exact Calls.quiet_of_same (C1 _)) | fail)
            go_wp2
            go_ret
            exact ⟨by rw [HR.out, HZ.out]; rfl, Below.then' HB.out (Below.drewN' (below_new (Below.refl _ _)) _) (Nat.le_refl _)⟩
          · cases h2 : vOk cv
            · have HZ : Hid (pOkF l n 0 = false) := by show pOkF l n 0 = false; rw [← HS.out]; exact pOkF_v l _ _ (by rw [HC.out]; exact h2)
              have C1 := specKeyOk_is ck _ h1
              have C2 := specValOk_is cv _ h2
              clear h1 h2
              go_wp2_with fail
              go_quiet (first | (go_at_call 53; exact Calls.quiet_of_same (C1 _)) | (go_at_call 54; exact Calls.quiet_of_same (C2 _)) | fail)
              go_wp2
              go_ret
              exact ⟨by rw [HR.out, HZ.out]; rfl, Below.then' HB.out (Below.drewN' (below_new (Below.refl _ _)) _) (Nat.le_refl _)⟩
            · have HZ : Hid (pOkF l (n - 1) 1 = pOkF l n 0) := by
                show pOkF l (n - 1) 1 = pOkF l n 0
                rw [← HS.out]; exact (pOkF_0 l _ (by rw [HC.out]; exact h1) (by rw [HC.out]; exact h2)).symm
              have C1 := specKeyOk_is ck _ h1
              have C2 := specValOk_is cv _ h2
              clear h1 h2
              go_wp2_with fail
              go_quiet (first | (go_at_call 53; exact Calls.quiet_of_same (C1 _)) | (go_at_call 54; exact Calls.quiet_of_same (C2 _)) | fail)
              go_wp2
              go_roundw
              case rel => exact ⟨1, by omega, by go_num, Below.then' HB.out (Below.drewN' (below_new (Below.refl _ _)) _) (Nat.le_refl _), HZ⟩
              case measure => simp [intOf]; omega
        | succ j =>
          have hcj := (hcell j (by omega)).1
          have hj1 : (0 : Int) < (j : Int) + 1 := by omega
          clear hcell
          generalize hcur : pAtB l (j + 1) = cur at hck hck1
          obtain ⟨ck, cv⟩ := cur
          generalize hprev : (pAtB l j).1 = prev at hcj
          have HC := hid hcur
          have HQ := hid hprev
          clear hcur hprev
          cases h1 : kOk ck
          · have HZ : Hid (pOkF l n 0 = false) := by show pOkF l n 0 = false; rw [← HS.out]; exact pOkF_k l _ _ (by rw [HC.out]; exact h1)
            have C1 := specKeyOk_is ck _ h1
            clear h1
            go_wp2_with fail
            go_quiet (first | (go_at_call 53; exact Calls.quiet_of_same (C1 _)) | fail)
            go_wp2
            go_ret
            exact ⟨by rw [HR.out, HZ.out]; rfl, Below.then' HB.out (Below.drewN' (below_new (Below.refl _ _)) _) (Nat.le_refl _)⟩
          · cases h2 : vOk cv
            · have HZ : Hid (pOkF l n 0 = false) := by show pOkF l n 0 = false; rw [← HS.out]; exact pOkF_v l _ _ (by rw [HC.out]; exact h2)
              have C1 := specKeyOk_is ck _ h1
              have C2 := specValOk_is cv _ h2
              clear h1 h2
              go_wp2_with fail
              go_quiet (first | (go_at_call 53; exact Calls.quiet_of_same (C1 _)) | (go_at_call 54; exact Calls.quiet_of_same (C2 _)) | fail)
              go_wp2
              go_ret
              exact ⟨by rw [HR.out, HZ.out]; rfl, Below.then' HB.out (Below.drewN' (below_new (Below.refl _ _)) _) (Nat.le_refl _)⟩
            · have HG : Hid (∀ b, Op.bytesLess prev.toList ck.toList = b → (b && pOkF l (n - (j + 1 + 1)) (j + 1 + 1)) = pOkF l n 0) := by
                intro b hb
                rw [← HS.out]
                exact (pOkF_s l _ j (by rw [HC.out]; exact h1) (by rw [HC.out]; exact h2) b (by rw [HQ.out, HC.out]; exact hb)).symm
              have C1 := specKeyOk_is ck _ h1
              have C2 := specValOk_is cv _ h2
              clear h1 h2
              rcases tri prev ck with ⟨t1, t2, t3, t4⟩ | rfl | ⟨t1, t2, t3, t4⟩
              · have HZ : Hid (pOkF l (n - (j + 1 + 1)) (j + 1 + 1) = pOkF l n 0) := by show pOkF l (n - (j + 1 + 1)) (j + 1 + 1) = pOkF l n 0; have := HG.out _ t1; simpa using this
                go_wp2_with fail
                go_quiet (first | (go_at_call 53; exact Calls.quiet_of_same (C1 _)) | (go_at_call 54; exact Calls.quiet_of_same (C2 _)) | fail)
                go_wp2
                go_roundw
                case rel => exact ⟨j + 1 + 1, by omega, by go_num, Below.then' HB.out (Below.drewN' (below_new (Below.refl _ _)) _) (Nat.le_refl _), HZ⟩
                case measure => simp [intOf]; omega
              · have t1 := less_irrefl prev.toList
                have HZ : Hid (pOkF l n 0 = false) := by show pOkF l n 0 = false; have := HG.out _ t1; simpa using this.symm
                go_wp2_with fail
                go_quiet (first | (go_at_call 53; exact Calls.quiet_of_same (C1 _)) | (go_at_call 54; exact Calls.quiet_of_same (C2 _)) | fail)
                go_wp2
                go_ret
                exact ⟨by rw [HR.out, HZ.out]; rfl, Below.then' HB.out (Below.drewN' (below_new (Below.refl _ _)) _) (Nat.le_refl _)⟩
              · have HZ : Hid (pOkF l n 0 = false) := by show pOkF l n 0 = false; have := HG.out _ t1; simpa using this.symm
                go_wp2_with fail
                go_quiet (first | (go_at_call 53; exact Calls.quiet_of_same (C1 _)) | (go_at_call 54; exact Calls.quiet_of_same (C2 _)) | fail)
                go_wp2
                go_ret
                exact ⟨by rw [HR.out, HZ.out]; rfl, Below.then' HB.out (Below.drewN' (below_new (Below.refl _ _)) _) (Nat.le_refl _)⟩
      · have hk' : k = n := by omega
        have HZ : Hid (pOkF l n 0 = true) := by show pOkF l n 0 = true; rw [← HS.out, hk', Nat.sub_self]; rfl
        clear hk'
        go_wp2
        go_ret
        exact ⟨by rw [HR.out, HZ.out]; rfl, HB.out⟩
theorem specPairsOk_any (S : Nat → Prop) (v : Value) (l : List PB) (w : World) (h : Pr w S v l) :
    Calls Tryd.prog 65 #[v] w fun e w' => e = .returned (.bool (pOk l)) ∧ Below w.heap.size w w' := by
  obtain ⟨a, c, rfl, _⟩ := h.shape
  exact specPairsOk_at S a _ c l w h
end Go.Proofs.YtcpdedpgjaimkaaDoor
/-
  Cells that are kept, with all else that was there, while a stretch of the program reads and calls in an order that is not known.
-/
namespace Go.Proofs.YtcpdedpgjaimkaaDoor
open Go.RowKit
structure KC (u v : World) (cs : List (Addr × Value)) : Prop where
  cells : ∀ p ∈ cs, u.cell? p.1 = some p.2
  bel : Below u.heap.size u v
theorem KC.at {u v : World} {cs : List (Addr × Value)} (h : KC u v cs) {a : Addr} {x : Value} (hp : (a, x) ∈ cs) : v.cell? a = some x := by
  have hc := h.cells (a, x) hp
  rw [h.bel.cell (p := a) (block_lt hc)]
  exact hc
theorem KC.call {u v v' : World} {cs : List (Addr × Value)} (h : KC u v cs) (k : Below v.heap.size v v') : KC u v' cs := ⟨h.cells, h.bel.trans (k.mono h.bel.size)⟩
theorem kc2 {u v : World} {a0 a1 : Addr} {x0 x1 : Value} (h : KC u v [(a0, x0), (a1, x1)]) : v.cell? a0 = some x0 ∧ v.cell? a1 = some x1 ∧ KC u v [(a0, x0), (a1, x1)] := ⟨h.at (by simp), h.at (by simp), h⟩
theorem kc3 {u v : World} {a0 a1 a2 : Addr} {x0 x1 x2 : Value} (h : KC u v [(a0, x0), (a1, x1), (a2, x2)]) : v.cell? a0 = some x0 ∧ v.cell? a1 = some x1 ∧ v.cell? a2 = some x2 ∧ KC u v [(a0, x0), (a1, x1), (a2, x2)] := ⟨h.at (by simp), h.at (by simp), h.at (by simp), h⟩
theorem kc4 {u v : World} {a0 a1 a2 a3 : Addr} {x0 x1 x2 x3 : Value} (h : KC u v [(a0, x0), (a1, x1), (a2, x2), (a3, x3)]) : v.cell? a0 = some x0 ∧ v.cell? a1 = some x1 ∧ v.cell? a2 = some x2 ∧ v.cell? a3 = some x3 ∧ KC u v [(a0, x0), (a1, x1), (a2, x2), (a3, x3)] := ⟨h.at (by simp), h.at (by simp), h.at (by simp), h.at (by simp), h⟩
theorem kc5 {u v : World} {a0 a1 a2 a3 a4 : Addr} {x0 x1 x2 x3 x4 : Value} (h : KC u v [(a0, x0), (a1, x1), (a2, x2), (a3, x3), (a4, x4)]) : v.cell? a0 = some x0 ∧ v.cell? a1 = some x1 ∧ v.cell? a2 = some x2 ∧ v.cell? a3 = some x3 ∧ v.cell? a4 = some x4 ∧ KC u v [(a0, x0), (a1, x1), (a2, x2), (a3, x3), (a4, x4)] := ⟨h.at (by simp), h.at (by simp), h.at (by simp), h.at (by simp), h.at (by simp), h⟩
theorem kc6 {u v : World} {a0 a1 a2 a3 a4 a5 : Addr} {x0 x1 x2 x3 x4 x5 : Value} (h : KC u v [(a0, x0), (a1, x1), (a2, x2), (a3, x3), (a4, x4), (a5, x5)]) : v.cell? a0 = some x0 ∧ v.cell? a1 = some x1 ∧ v.cell? a2 = some x2 ∧ v.cell? a3 = some x3 ∧ v.cell? a4 = some x4 ∧ v.cell? a5 = some x5 ∧ KC u v [(a0, x0), (a1, x1), (a2, x2), (a3, x3), (a4, x4), (a5, x5)] := ⟨h.at (by simp), h.at (by simp), h.at (by simp), h.at (by simp), h.at (by simp), h.at (by simp), h⟩
theorem kc0_2 {u : World} {a0 a1 : Addr} {x0 x1 : Value} (h0 : u.cell? a0 = some x0) (h1 : u.cell? a1 = some x1) : KC u u [(a0, x0), (a1, x1)] :=
  ⟨fun p hp => by simp at hp; rcases hp with rfl | rfl <;> assumption, Below.refl _ _⟩
theorem kc0_3 {u : World} {a0 a1 a2 : Addr} {x0 x1 x2 : Value} (h0 : u.cell? a0 = some x0) (h1 : u.cell? a1 = some x1) (h2 : u.cell? a2 = some x2) : KC u u [(a0, x0), (a1, x1), (a2, x2)] :=
  ⟨fun p hp => by simp at hp; rcases hp with rfl | rfl | rfl <;> assumption, Below.refl _ _⟩
theorem kc0_4 {u : World} {a0 a1 a2 a3 : Addr} {x0 x1 x2 x3 : Value} (h0 : u.cell? a0 = some x0) (h1 : u.cell? a1 = some x1) (h2 : u.cell? a2 = some x2) (h3 : u.cell? a3 = some x3) : KC u u [(a0, x0), (a1, x1), (a2, x2), (a3, x3)] :=
  ⟨fun p hp => by simp at hp; rcases hp with rfl | rfl | rfl | rfl <;> assumption, Below.refl _ _⟩
theorem kc0_6 {u : World} {a0 a1 a2 a3 a4 a5 : Addr} {x0 x1 x2 x3 x4 x5 : Value} (h0 : u.cell? a0 = some x0) (h1 : u.cell? a1 = some x1) (h2 : u.cell? a2 = some x2) (h3 : u.cell? a3 = some x3) (h4 : u.cell? a4 = some x4) (h5 : u.cell? a5 = some x5) : KC u u [(a0, x0), (a1, x1), (a2, x2), (a3, x3), (a4, x4), (a5, x5)] :=
  ⟨fun p hp => by simp at hp; rcases hp with rfl | rfl | rfl | rfl | rfl | rfl <;> assumption, Below.refl _ _⟩
theorem kc2c {u v v' : World} {a0 a1 : Addr} {x0 x1 : Value} (k : Below v.heap.size v v') (h : v.cell? a0 = some x0 ∧ v.cell? a1 = some x1 ∧ KC u v [(a0, x0), (a1, x1)]) : v'.cell? a0 = some x0 ∧ v'.cell? a1 = some x1 ∧ KC u v' [(a0, x0), (a1, x1)] := kc2 (KC.call h.2.2 k)
theorem kc3c {u v v' : World} {a0 a1 a2 : Addr} {x0 x1 x2 : Value} (k : Below v.heap.size v v') (h : v.cell? a0 = some x0 ∧ v.cell? a1 = some x1 ∧ v.cell? a2 = some x2 ∧ KC u v [(a0, x0), (a1, x1), (a2, x2)]) : v'.cell? a0 = some x0 ∧ v'.cell? a1 = some x1 ∧ v'.cell? a2 = some x2 ∧ KC u v' [(a0, x0), (a1, x1), (a2, x2)] := kc3 (KC.call h.2.2.2 k)
theorem kc4c {u v v' : World} {a0 a1 a2 a3 : Addr} {x0 x1 x2 x3 : Value} (k : Below v.heap.size v v') (h : v.cell? a0 = some x0 ∧ v.cell? a1 = some x1 ∧ v.cell? a2 = some x2 ∧ v.cell? a3 = some x3 ∧ KC u v [(a0, x0), (a1, x1), (a2, x2), (a3, x3)]) : v'.cell? a0 = some x0 ∧ v'.cell? a1 = some x1 ∧ v'.cell? a2 = some x2 ∧ v'.cell? a3 = some x3 ∧ KC u v' [(a0, x0), (a1, x1), (a2, x2), (a3, x3)] := kc4 (KC.call h.2.2.2.2 k)
theorem kc5c {u v v' : World} {a0 a1 a2 a3 a4 : Addr} {x0 x1 x2 x3 x4 : Value} (k : Below v.heap.size v v') (h : v.cell? a0 = some x0 ∧ v.cell? a1 = some x1 ∧ v.cell? a2 = some x2 ∧ v.cell? a3 = some x3 ∧ v.cell? a4 = some x4 ∧ KC u v [(a0, x0), (a1, x1), (a2, x2), (a3, x3), (a4, x4)]) : v'.cell? a0 = some x0 ∧ v'.cell? a1 = some x1 ∧ v'.cell? a2 = some x2 ∧ v'.cell? a3 = some x3 ∧ v'.cell? a4 = some x4 ∧ KC u v' [(a0, x0), (a1, x1), (a2, x2), (a3, x3), (a4, x4)] := kc5 (KC.call h.2.2.2.2.2 k)
theorem kc6c {u v v' : World} {a0 a1 a2 a3 a4 a5 : Addr} {x0 x1 x2 x3 x4 x5 : Value} (k : Below v.heap.size v v') (h : v.cell? a0 = some x0 ∧ v.cell? a1 = some x1 ∧ v.cell? a2 = some x2 ∧ v.cell? a3 = some x3 ∧ v.cell? a4 = some x4 ∧ v.cell? a5 = some x5 ∧ KC u v [(a0, x0), (a1, x1), (a2, x2), (a3, x3), (a4, x4), (a5, x5)]) : v'.cell? a0 = some x0 ∧ v'.cell? a1 = some x1 ∧ v'.cell? a2 = some x2 ∧ v'.cell? a3 = some x3 ∧ v'.cell? a4 = some x4 ∧ v'.cell? a5 = some x5 ∧ KC u v' [(a0, x0), (a1, x1), (a2, x2), (a3, x3), (a4, x4), (a5, x5)] := kc6 (KC.call h.2.2.2.2.2.2 k)
end Go.Proofs.YtcpdedpgjaimkaaDoor
/-
  What the law's helpers do with pairs and slices of pairs: sizes summed, copied, held against each other.
-/
namespace Go.Proofs.YtcpdedpgjaimkaaDoor
open Go.RowKit

/-- Block g is a row with the cells xs. -/
def Bk (w : World) (g : Nat) (T : TypeId) (xs : List Value) : Prop := w.heap[g]? = some (.cells xs.toArray T (0, 0))
theorem Bk.lt {w : World} {g : Nat} {T : TypeId} {xs : List Value} (h : Bk w g T xs) : g < w.heap.size := (Array.getElem?_eq_some_iff.1 h).1
theorem Bk.to {w w' : World} {g : Nat} {T : TypeId} {xs : List Value} {R : Nat → Prop} (h : Bk w g T xs) (ho : Only R w w') (hR : ¬ R g) : Bk w' g T xs := (ho.block g h.lt hR).trans h
theorem Bk.below {w w' : World} {g : Nat} {T : TypeId} {xs : List Value} (h : Bk w g T xs) (hb : Below w.heap.size w w') : Bk w' g T xs := (hb.block g h.lt).trans h
theorem Bk.new (w : World) (T : TypeId) (xs : List Value) : Bk (w.alloc (.cells xs.toArray T)) w.heap.size T xs := heap_alloc_new w _
theorem Bk.cell {w : World} {g : Nat} {T : TypeId} {xs : List Value} (h : Bk w g T xs) {j : Nat} {u : Value} (hu : xs[j]? = some u) : w.cell? ⟨g, j, none⟩ = some u := by
  have h' : w.heap[g]? = some (.cells xs.toArray T (0, 0)) := h
  simp [World.cell?, h', hu]
theorem Bk.free {w : World} {g : Nat} {T : TypeId} {xs : List Value} (h : Bk w g T xs) (j : Nat) : w.frozen? ⟨g, j, none⟩ = false := by
  have h' : w.heap[g]? = some (.cells xs.toArray T (0, 0)) := h
  simp [World.frozen?, h']
theorem Bk.set {w : World} {g : Nat} {T : TypeId} {xs : List Value} (h : Bk w g T xs) (o : Nat) (x : Value) : Bk (w.setCell ⟨g, o, none⟩ x) g T (xs.set o x) := by
  have h' : w.heap[g]? = some (.cells xs.toArray T (0, 0)) := h
  show (w.setCell ⟨g, o, none⟩ x).heap[g]? = _
  simp [World.setCell, Array.getElem?_modify, h']
theorem Bk.setOther {w : World} {g : Nat} {T : TypeId} {xs : List Value} (h : Bk w g T xs) {b : Nat} (hb : g ≠ b) (o : Nat) (x : Value) : Bk (w.setCell ⟨b, o, none⟩ x) g T xs := by
  show (w.setCell ⟨b, o, none⟩ x).heap[g]? = _
  rw [Below.heap_setCell _ _ _ _ hb]
  exact h
theorem Bk.alloc {w : World} {g : Nat} {T : TypeId} {xs : List Value} (h : Bk w g T xs) (o : Obj) : Bk (w.alloc o) g T xs := by
  show (w.alloc o).heap[g]? = _
  rw [Below.heap_alloc _ _ _ h.lt]
  exact h
theorem Bk.rw {w : World} {g : Nat} {T : TypeId} {xs : List Value} {n c : Nat} (h : Bk w g T xs) (hn : n ≤ c) (hc : c ≤ 9223372036854775807) (h0 : n = 0 → xs = []) (S : Nat → Prop) (hS : S g) : Rw w S (.slice (some ⟨g, 0, none⟩) n c) n xs :=
  ⟨_, c, rfl, hn, hc, h0, fun h => by (cases h), fun _ => ⟨g, 0, rfl, h.lt, hS, fun j u hu => by rw [Nat.zero_add]; exact h.cell hu⟩⟩
theorem Bk.pr {w : World} {g n : Nat} {T : TypeId} {ps : List PB} (h : Bk w g T (pcs ps)) (hn : n = ps.length) (hc : n ≤ 9223372036854775807) (S : Nat → Prop) (hS : S g) : Pr w S (.slice (some ⟨g, 0, none⟩) n n) ps := by
  subst hn
  exact h.rw (Nat.le_refl _) hc (fun h0 => by rw [List.eq_nil_of_length_eq_zero h0]; rfl) S hS
theorem pcs_set (ps : List PB) (p : PB) : ∀ j, j < ps.length → pcs (ps.set j p) = ((pcs ps).set (j * 2) (.string p.1)).set (j * 2 + 1) (.string p.2) := by
  induction ps with
  | nil => intro j h; exact absurd h (Nat.not_lt_zero _)
  | cons q ps ih =>
    intro j h
    cases j with
    | zero => rfl
    | succ j =>
      have := ih j (by simpa using h)
      rw [show (j + 1) * 2 = j * 2 + 2 by omega, show j * 2 + 2 + 1 = j * 2 + 1 + 2 by omega]
      show Value.string q.1 :: Value.string q.2 :: pcs (ps.set j p) = _
      rw [this]
      rfl
theorem infoPairI : (Tryd.prog.info? 91).map (fun i => (i.zero, i.size, i.bytes)) = some (some (.agg #[.string ⟨#[]⟩, .string ⟨#[]⟩]), 2, 32) := by kernel_rfl
/-- make([]T, n). -/
theorem run_make_n {P : Program} (t e : TypeId) (z : Value) (size bytes : Nat) (ht : P.underlying t = some (.slice e)) (hinfo : (P.info? e).map (fun i => (i.zero, i.size, i.bytes)) = some (some z, size, bytes)) (n : Nat) (hb : bytes * n ≤ 281474976710656) (h63 : n ≤ 9223372036854775807) (w : World) :
    (Instr.makeSlice t (.int .i64 (n : Int)) (.int .i64 (n : Int))).run P w = .ok (.slice (some ⟨w.heap.size, 0, none⟩) n n) (w.alloc (.cells (madeCells z.cells (n * size)) e)) := by
  obtain ⟨i, hi, hz⟩ := Option.map_eq_some_iff.1 hinfo
  simp only [Prod.mk.injEq] at hz
  obtain ⟨hz, rfl, rfl⟩ := hz
  have hb' : (i.bytes : Int) * (n : Int) ≤ 281474976710656 := by
    have h : ((i.bytes * n : Nat) : Int) ≤ 281474976710656 := by omega
    rwa [Int.natCast_mul] at h
  have := run_make (P := P) w t e i z ht hi hz .i64 .i64 n n (by omega) (Int.le_refl _) hb' (by omega)
  simpa using this
theorem made_pairs (n : Nat) : madeCells (Value.agg #[.string ⟨#[]⟩, .string ⟨#[]⟩]).cells (n * 2) = (pcs (List.replicate n (⟨#[]⟩, ⟨#[]⟩))).toArray := by
  apply Array.ext
  · simp [madeCells, pcs_length]
  · intro i h1 h2
    simp [pcs_length] at h2
    simp only [madeCells, List.getElem_toArray]
    have h3 : (pcs (List.replicate n ((⟨#[]⟩, ⟨#[]⟩) : PB)))[i]? = some (.string ⟨#[]⟩) := by
      rcases Nat.mod_two_eq_zero_or_one i with e | e
      · have := (pcs_at (List.replicate n ((⟨#[]⟩, ⟨#[]⟩) : PB)) (i / 2) (by simp; omega)).1
        rw [show i / 2 * 2 = i by omega] at this
        rw [this]
        simp [pAtB, show i / 2 < n by omega]
      · have := (pcs_at (List.replicate n ((⟨#[]⟩, ⟨#[]⟩) : PB)) (i / 2) (by simp; omega)).2
        rw [show i / 2 * 2 + 1 = i by omega] at this
        rw [this]
        simp [pAtB, show i / 2 < n by omega]
    have h4 := List.getElem?_eq_some_iff.1 h3
    rw [h4.2]
    rcases Nat.mod_two_eq_zero_or_one i with e | e <;> simp [Value.cells, e]
/-- The pairs as far as copied. -/
def ptP (l : List PB) (k : Nat) : List PB := l.take k ++ List.replicate (l.length - k) (⟨#[]⟩, ⟨#[]⟩)
theorem ptP_length (l : List PB) (k : Nat) (h : k ≤ l.length) : (ptP l k).length = l.length := by simp [ptP]; omega
theorem ptP_set (l : List PB) (k : Nat) (h : k < l.length) : (ptP l k).set k (pAtB l k) = ptP l (k + 1) := by
  have e : pAtB l k = l[k] := by simp [pAtB, h]
  rw [e]
  have hl : (l.take k).length = k := by simp; omega
  simp only [ptP]
  rw [List.set_append_right _ _ (by omega), hl]
  have h2 : l.length - k = (l.length - (k + 1)) + 1 := by omega
  rw [List.take_succ_eq_append_getElem h, h2, List.replicate_succ, Nat.sub_self, List.set_cons_zero, List.append_assoc]
  rfl
theorem load_pair {w : World} {g : Nat} {k v : ByteArray} (c0 : w.cell? ⟨g, 0, none⟩ = some (.string k)) (c1 : w.cell? ⟨g, 1, none⟩ = some (.string v)) :
    (loadVar 91 ⟨g, 0, none⟩).run Tryd.prog w = .ok (.agg #[.string k, .string v]) w := by go_simp
theorem results_pair {fn : Func} {p : Tmp} (h : fn.results = #[.cell p 91]) (tmps : Array Value) (w : World) (g : Nat) {k v : ByteArray} (hp : tmps.getD p undef = .pointer (some ⟨g, 0, none⟩))
    (c0 : w.cell? ⟨g, 0, none⟩ = some (.string k)) (c1 : w.cell? ⟨g, 1, none⟩ = some (.string v)) : (results fn tmps).run Tryd.prog w = .ok (.agg #[.string k, .string v]) w := by
  have hp' : tmps[p]?.getD undef = .pointer (some ⟨g, 0, none⟩) := by simpa using hp
  simp [results, h, hp', asAddr, load_pair c0 c1]
def szOkP (l : List PB) : Prop := ∀ i, (pAtB l i).1.size ≤ 9223372036854775807 ∧ (pAtB l i).2.size ≤ 9223372036854775807
end Go.Proofs.YtcpdedpgjaimkaaDoor
/-
  Slices of strings, of numbers and of nodes: what is read through them.
-/
namespace Go.Proofs.YtcpdedpgjaimkaaDoor
open Go.RowKit

def Sr (w : World) (S : Nat → Prop) (v : Value) (ss : List ByteArray) : Prop := Rw w S v ss.length (ss.map Value.string)
def Ir (w : World) (S : Nat → Prop) (v : Value) (ks : List Int) : Prop := Rw w S v ks.length (ks.map (Value.int .i64))
def sAt (ss : List ByteArray) (i : Nat) : ByteArray := ss[i]?.getD ⟨#[]⟩
def iAt (ks : List Int) (i : Nat) : Int := ks[i]?.getD 0
theorem Sr.to {w w' : World} {S R : Nat → Prop} {v : Value} {ss : List ByteArray} (h : Sr w S v ss) (ho : Only R w w') (hd : ∀ b, S b → b < w.heap.size → ¬ R b) : Sr w' S v ss := Rw.to h ho hd
theorem Ir.to {w w' : World} {S R : Nat → Prop} {v : Value} {ss : List Int} (h : Ir w S v ss) (ho : Only R w w') (hd : ∀ b, S b → b < w.heap.size → ¬ R b) : Ir w' S v ss := Rw.to h ho hd
theorem Pr.to {w w' : World} {S R : Nat → Prop} {v : Value} {ss : List PB} (h : Pr w S v ss) (ho : Only R w w') (hd : ∀ b, S b → b < w.heap.size → ¬ R b) : Pr w' S v ss := Rw.to h ho hd
theorem Rw.below {w w' : World} {S : Nat → Prop} {v : Value} {n : Nat} {xs : List Value} (h : Rw w S v n xs) (hb : Below w.heap.size w w') : Rw w' S v n xs := Rw.to h (only_of_below hb (fun _ => False)) (fun _ _ _ h => h)
theorem Sr.below {w w' : World} {S : Nat → Prop} {v : Value} {ss : List ByteArray} (h : Sr w S v ss) (hb : Below w.heap.size w w') : Sr w' S v ss := Rw.below h hb
theorem Ir.below {w w' : World} {S : Nat → Prop} {v : Value} {ss : List Int} (h : Ir w S v ss) (hb : Below w.heap.size w w') : Ir w' S v ss := Rw.below h hb
theorem Sr.shape {w : World} {S : Nat → Prop} {v : Value} {ss : List ByteArray} (h : Sr w S v ss) : ∃ a c, v = .slice a ss.length c ∧ ss.length ≤ c ∧ c ≤ 9223372036854775807 := Rw.shape h
theorem Ir.shape {w : World} {S : Nat → Prop} {v : Value} {ss : List Int} (h : Ir w S v ss) : ∃ a c, v = .slice a ss.length c ∧ ss.length ≤ c ∧ c ≤ 9223372036854775807 := Rw.shape h
theorem Rw.at {w : World} {S : Nat → Prop} {a : Option Addr} {n c m : Nat} {xs : List Value} (h : Rw w S (.slice a n c) m xs) (hp : 0 < n) : ∃ b off, a = some ⟨b, off, none⟩ ∧ S b ∧ b < w.heap.size ∧ ∀ j u, xs[j]? = some u → w.cell? ⟨b, off + j, none⟩ = some u := by
  obtain ⟨a', c', h1, h2, h3, h4, hn, h5⟩ := h
  cases h1
  obtain ⟨b, off, h6, h7, h8, h9⟩ := h5 hp
  exact ⟨b, off, h6, h8, h7, h9⟩
theorem Sr.at {w : World} {S : Nat → Prop} {a : Option Addr} {n c : Nat} {ss : List ByteArray} (h : Sr w S (.slice a n c) ss) (hp : 0 < n) : ∃ b off, a = some ⟨b, off, none⟩ ∧ S b ∧ b < w.heap.size ∧ ∀ i, i < n → w.cell? ⟨b, off + i, none⟩ = some (.string (sAt ss i)) := by
  have hn := (Rw.len h).1
  obtain ⟨b, off, h1, h2, h3, h4⟩ := Rw.at h hp
  refine ⟨b, off, h1, h2, h3, fun i hi => h4 i _ ?_⟩
  simp [sAt, show i < ss.length by omega]
theorem Ir.at {w : World} {S : Nat → Prop} {a : Option Addr} {n c : Nat} {ss : List Int} (h : Ir w S (.slice a n c) ss) (hp : 0 < n) : ∃ b off, a = some ⟨b, off, none⟩ ∧ S b ∧ b < w.heap.size ∧ ∀ i, i < n → w.cell? ⟨b, off + i, none⟩ = some (.int .i64 (iAt ss i)) := by
  have hn := (Rw.len h).1
  obtain ⟨b, off, h1, h2, h3, h4⟩ := Rw.at h hp
  refine ⟨b, off, h1, h2, h3, fun i hi => h4 i _ ?_⟩
  simp [iAt, show i < ss.length by omega]
abbrev V3 := Value × Value × Value
/-- The cells of a list of nodes. -/
def ncs : List V3 → List Value
  | [] => []
  | p :: ps => p.1 :: p.2.1 :: p.2.2 :: ncs ps
def vAt (V : List V3) (i : Nat) : V3 := V[i]?.getD (.slice none 0 0, .slice none 0 0, .slice none 0 0)
theorem ncs_length (ps : List V3) : (ncs ps).length = ps.length * 3 := by
  induction ps with
  | nil => rfl
  | cons p ps ih => simp only [ncs, List.length_cons, ih]; omega
theorem ncs_append (ps qs : List V3) : ncs (ps ++ qs) = ncs ps ++ ncs qs := by
  induction ps with
  | nil => rfl
  | cons p ps ih => simp only [ncs, List.cons_append, ih]
theorem ncs_at (ps : List V3) : ∀ i, i < ps.length → (ncs ps)[i * 3]? = some (vAt ps i).1 ∧ (ncs ps)[i * 3 + 1]? = some (vAt ps i).2.1 ∧ (ncs ps)[i * 3 + 2]? = some (vAt ps i).2.2 := by
  induction ps with
  | nil => intro i h; exact absurd h (Nat.not_lt_zero _)
  | cons p ps ih =>
    intro i h
    cases i with
    | zero => exact ⟨rfl, rfl, rfl⟩
    | succ i =>
      have := ih i (by simpa using h)
      have e : (i + 1) * 3 = i * 3 + 3 := by omega
      rw [e]
      exact this
theorem ncs_set (ps : List V3) (p : V3) : ∀ j, j < ps.length → ncs (ps.set j p) = (((ncs ps).set (j * 3) p.1).set (j * 3 + 1) p.2.1).set (j * 3 + 2) p.2.2 := by
  induction ps with
  | nil => intro j h; exact absurd h (Nat.not_lt_zero _)
  | cons q ps ih =>
    intro j h
    cases j with
    | zero => rfl
    | succ j =>
      have := ih j (by simpa using h)
      rw [show (j + 1) * 3 = j * 3 + 3 by omega, show j * 3 + 3 + 1 = j * 3 + 1 + 3 by omega, show j * 3 + 3 + 2 = j * 3 + 2 + 3 by omega]
      show q.1 :: q.2.1 :: q.2.2 :: ncs (ps.set j p) = _
      rw [this]
      rfl
/-- A node's three values lead to what it holds. -/
def N1 (w : World) (S : Nat → Prop) (p : V3) (x : NB) : Prop := Pr w S p.1 x.ps ∧ Sr w S p.2.1 x.keys ∧ Ir w S p.2.2 x.kids
theorem N1.to {w w' : World} {S R : Nat → Prop} {p : V3} {x : NB} (h : N1 w S p x) (ho : Only R w w') (hd : ∀ b, S b → b < w.heap.size → ¬ R b) : N1 w' S p x := ⟨h.1.to ho hd, h.2.1.to ho hd, h.2.2.to ho hd⟩
theorem N1.mono {w : World} {S R : Nat → Prop} {p : V3} {x : NB} (h : N1 w S p x) (hd : ∀ b, S b → b < w.heap.size → R b) : N1 w R p x := ⟨Rw.mono h.1 hd, Rw.mono h.2.1 hd, Rw.mono h.2.2 hd⟩
theorem N1.below {w w' : World} {S : Nat → Prop} {p : V3} {x : NB} (h : N1 w S p x) (hb : Below w.heap.size w w') : N1 w' S p x := h.to (only_of_below hb (fun _ => False)) (fun _ _ _ h => h)
/-- The slice value v leads to the nodes ns. -/
def Nr (w : World) (S : Nat → Prop) (v : Value) (ns : List NB) : Prop := ∃ V : List V3, V.length = ns.length ∧ Rw w S v ns.length (ncs V) ∧ ∀ i, i < ns.length → N1 w S (vAt V i) (nAt ns i)
theorem Nr.to {w w' : World} {S R : Nat → Prop} {v : Value} {ns : List NB} (h : Nr w S v ns) (ho : Only R w w') (hd : ∀ b, S b → b < w.heap.size → ¬ R b) : Nr w' S v ns := by
  obtain ⟨V, h1, h2, h3⟩ := h
  exact ⟨V, h1, h2.to ho hd, fun i hi => (h3 i hi).to ho hd⟩
theorem Nr.mono {w : World} {S R : Nat → Prop} {v : Value} {ns : List NB} (h : Nr w S v ns) (hd : ∀ b, S b → b < w.heap.size → R b) : Nr w R v ns := by
  obtain ⟨V, h1, h2, h3⟩ := h
  exact ⟨V, h1, h2.mono hd, fun i hi => (h3 i hi).mono hd⟩
theorem Nr.below {w w' : World} {S : Nat → Prop} {v : Value} {ns : List NB} (h : Nr w S v ns) (hb : Below w.heap.size w w') : Nr w' S v ns := h.to (only_of_below hb (fun _ => False)) (fun _ _ _ h => h)
theorem Nr.shape {w : World} {S : Nat → Prop} {v : Value} {ns : List NB} (h : Nr w S v ns) : ∃ a c, v = .slice a ns.length c ∧ ns.length ≤ c ∧ c ≤ 9223372036854775807 := by
  obtain ⟨V, h1, h2, h3⟩ := h
  exact h2.shape
theorem Nr.len {w : World} {S : Nat → Prop} {a : Option Addr} {n c : Nat} {ns : List NB} (h : Nr w S (.slice a n c) ns) : n = ns.length ∧ n ≤ c ∧ c ≤ 9223372036854775807 := by
  obtain ⟨V, h1, h2, h3⟩ := h
  exact Rw.len h2
/-- The node at place i: its three values, the shapes of these, where they lie. -/
theorem Nr.at {w : World} {S : Nat → Prop} {a : Option Addr} {n c : Nat} {ns : List NB} (h : Nr w S (.slice a n c) ns) (hp : 0 < n) : ∃ b off, a = some ⟨b, off, none⟩ ∧ S b ∧ b < w.heap.size ∧ ∀ i, i < n → ∃ ap np cp ax nx cx ai ni ci,
    w.cell? ⟨b, off + i * 3, none⟩ = some (.slice ap np cp) ∧ w.cell? ⟨b, off + i * 3 + 1, none⟩ = some (.slice ax nx cx) ∧ w.cell? ⟨b, off + i * 3 + 2, none⟩ = some (.slice ai ni ci) ∧
      Pr w S (.slice ap np cp) (nAt ns i).ps ∧ Sr w S (.slice ax nx cx) (nAt ns i).keys ∧ Ir w S (.slice ai ni ci) (nAt ns i).kids := by
  obtain ⟨V, h1, h2, h3⟩ := h
  have hn := (Rw.len h2).1
  obtain ⟨b, off, e1, e2, e3, e4⟩ := h2.at hp
  refine ⟨b, off, e1, e2, e3, fun i hi => ?_⟩
  obtain ⟨k1, k2, k3⟩ := h3 i (by omega)
  obtain ⟨c0, c1, c2⟩ := ncs_at V i (by omega)
  have d0 := e4 _ _ c0
  have d1 := e4 _ _ c1
  have d2 := e4 _ _ c2
  generalize vAt V i = p at *
  obtain ⟨p0, p1, p2⟩ := p
  obtain ⟨ap, cp, g0, _⟩ := k1.shape
  obtain ⟨ax, cx, g1, _⟩ := k2.shape
  obtain ⟨ai, ci, g2, _⟩ := k3.shape
  simp only at g0 g1 g2
  subst g0 g1 g2
  exact ⟨ap, _, cp, ax, _, cx, ai, _, ci, d0, d1, d2, k1, k2, k3⟩
end Go.Proofs.YtcpdedpgjaimkaaDoor
/-
  Blocks that may be written.
-/
namespace Go.Proofs.YtcpdedpgjaimkaaDoor
open Go.RowKit
/-- Block b is a row that may be written. -/
def Uf (w : World) (b : Nat) : Prop := ∃ xs T, w.heap[b]? = some (.cells xs T (0, 0))
theorem Bk.uf {w : World} {g : Nat} {T : TypeId} {xs : List Value} (h : Bk w g T xs) : Uf w g := ⟨_, _, h⟩
theorem Uf.to {w w' : World} {b : Nat} {R : Nat → Prop} (h : Uf w b) (ho : Only R w w') (hR : ¬ R b) : Uf w' b := by
  obtain ⟨xs, T, h⟩ := h
  exact ⟨xs, T, (ho.block b (Array.getElem?_eq_some_iff.1 h).1 hR).trans h⟩
end Go.Proofs.YtcpdedpgjaimkaaDoor
/-
  The built-in append, onto a slice of bytes that the call owns, from any slice of bytes, the nil one too: it owns both behind it.
-/
namespace Go.Proofs.YtcpdedpgjaimkaaDoor
open Go.RowKit

/-- The slice value v owns a row of its own, from block number B on, whose first bytes are zs. -/
def Ob (w : World) (B : Nat) (v : Value) (zs : List Int) : Prop := w.ownsRow B 5 1 v zs.length (zs.map (Value.int .u8))

theorem run_append_own_nil {P : Program} {w : World} {base : Nat} {t ty e : TypeId} {i : TypeInfo} (ht : P.underlying t = some (.slice e)) (hi : P.info? e = some i)
    {v : Value} {n : Nat} {xs : List Value} (hown : w.ownsRow base e 1 v n xs) (c : Nat) :
    (Builtin.append_ #[t, t] ty #[v, .slice none 0 c]).run P w = .ok v w := by
  rcases hown.2 with ⟨rfl, rfl⟩ | ⟨g, cap, cur, rfl, hbg, hg, hnc, hcm, hcs, htake⟩
  · simp [Builtin.append_, run_underlying ht, sizeOf, typeInfo, hi, Builtin.lenOf, Builtin.firstCells]
  · have hr := run_append_room_src (P := P) w t t ty e i ht hi g 0 n cap (.slice none 0 c) 0 [] (Src.ofNil w ht c) (by omega) (by intro j hj; simp at hj) (by intro j hj; simp at hj)
    rw [hr]
    rfl

theorem run_append_rd {w : World} (ty : TypeId) (base : Nat) (v : Value) (zs : List Int) (hown : Ob w base v zs) (ao : Option Addr) (m c : Nat) (ys : List Int) (hsrc : Rd w ao m c ys)
    (hb : zs.length + ys.length ≤ 70368744177664) (hbase : base ≤ w.heap.size) :
    ∃ v' w', (Builtin.append_ #[22, 22] ty #[v, .slice ao m c]).run Tryd.prog w = .ok v' w' ∧ Ob w' base v' (zs ++ ys) ∧ w.grownBy w' v.ownBlock := by
  obtain ⟨i0, hi, hz0, hz1, hz2⟩ := info_parts infoU8
  obtain ⟨h1, h2, h3, h30, h4, h5⟩ := hsrc
  cases ao with
  | none =>
    have hm : m = 0 := by
      rcases Nat.eq_zero_or_pos m with h | h
      · exact h
      · obtain ⟨b, off, e, _⟩ := h5 h
        cases e
    subst hm
    have hy : ys = [] := List.eq_nil_of_length_eq_zero h1.symm
    subst hy
    exact ⟨v, w, run_append_own_nil Tryd.underlying22 hi hown c, by simpa using hown, ⟨rfl, rfl, rfl, Nat.le_refl _, fun _ _ _ => rfl⟩⟩
  | some ad =>
    obtain ⟨v', w', hr, ho, hg, _⟩ := run_append_own (P := Tryd.prog) w base 22 ty 5 i0 (.int .u8 0) 1 1 Tryd.underlying22 hi hz0 hz1 hz2 rfl (by decide) v zs.length (zs.map (Value.int .u8)) hown ad m c (ys.map (Value.int .u8))
      (by simp [h1]) (by
        intro j u hu
        have hj : j < ys.length := by
          have := (List.getElem?_eq_some_iff.1 hu).1
          simpa using this
        obtain ⟨b, off, e, _, hc⟩ := h5 (by omega)
        cases e
        have := hc j (by omega)
        rw [Addr.add_lit, this]
        simp [hj] at hu
        simp [hj, hu]) (by
        intro u hu
        obtain ⟨x, _, rfl⟩ := List.mem_map.1 hu
        rfl) (by unfold maxLen; omega) (by omega) hbase
    refine ⟨v', w', hr, ?_, hg⟩
    unfold Ob
    rw [List.length_append, List.map_append, ← h1]
    exact ho

theorem wpList_append_rd {w : World} {ops : Array Oper} {rest : List Oper} {o : Oper} {a : Act} {Q : Exit → Act → World → Prop} (hgd : o.guard = none) (s x : Operand)
    (ho : o.op = .call { callee := .builtin .append, args := #[s, x], argTypes := #[22, 22] }) (base : Nat) (v : Value) (zs : List Int) (hs : a.eval s = v) (hown : Ob w base v zs)
    (ao : Option Addr) (m c : Nat) (ys : List Int) (hx : a.eval x = .slice ao m c) (hsrc : Rd w ao m c ys) (hb : zs.length + ys.length ≤ 70368744177664) (hbase : base ≤ w.heap.size)
    (h : ∀ v' w', Ob w' base v' (zs ++ ys) → w.grownBy w' v.ownBlock → wpList Tryd.prog ops Q rest (a.put o.dst v') w') : wpList Tryd.prog ops Q (o :: rest) a w := by
  refine wpList_plain hgd fun K hK => ?_
  obtain ⟨v', w', hr, h2, h3⟩ := run_append_rd (w := w) o.type base v zs hown ao m c ys hsrc hb hbase
  unfold Oper.wp execOp
  simp only [ho, resolve, invoke, builtin, Sem.run_bind, Sem.run_pure, Result.andThen_ok, List.map_toArray, List.map_cons, List.map_nil, hs, hx, hr]
  exact hK _ _ (h v' w' h2 h3)

/-- An owned slice, read. -/
theorem Ob.rd {w : World} {B : Nat} {v : Value} {zs : List Int} (h : Ob w B v zs) (hl : ∀ i : Nat, 0 ≤ zs[i]?.getD 0 ∧ zs[i]?.getD 0 ≤ 255) (hb : zs.length ≤ 70368744177664) :
    ∃ a c, v = .slice a zs.length c ∧ Rd w a zs.length c zs ∧ ∀ x, a = some x → B ≤ x.block := by
  rcases h.2 with ⟨rfl, h0⟩ | ⟨g, cap, cur, rfl, hbg, hg, hnc, hcm, hcs, htake⟩
  · exact ⟨none, 0, by rw [h0], ⟨rfl, by omega, by omega, by omega, hl, fun hp => by omega⟩, fun x hx => by cases hx⟩
  · refine ⟨some ⟨g, 0, none⟩, cap, rfl, ⟨rfl, hnc, by unfold maxLen at hcm; omega, by omega, hl, fun _ => ⟨g, 0, rfl, ?_, fun i hi => ?_⟩⟩, fun x hx => by cases hx; exact hbg⟩
    · rcases Nat.lt_or_ge g w.heap.size with h | h
      · exact h
      · rw [Array.getElem?_eq_none h] at hg; cases hg
    · have hc := h.cells (g := g) rfl i (.int .u8 (zs[i]?.getD 0)) (by simp [hi])
      rw [Addr.add_lit] at hc
      exact hc
theorem Ob.shape {w : World} {B : Nat} {v : Value} {zs : List Int} (h : Ob w B v zs) : ∃ a c, v = .slice a zs.length c := by
  rcases h.2 with ⟨rfl, h0⟩ | ⟨g, cap, cur, rfl, _⟩
  · exact ⟨none, 0, by rw [h0]⟩
  · exact ⟨_, cap, rfl⟩
theorem Ob.alloc {w : World} {B : Nat} {v : Value} {zs : List Int} (h : Ob w B v zs) (o : Obj) : Ob (w.alloc o) B v zs := World.ownsRow.alloc h o
/-- The empty literal. -/
theorem ob_new (w : World) (B : Nat) (hB : B ≤ w.heap.size) : Ob (w.alloc (.cells #[] 5)) B (.slice (some ⟨w.heap.size, 0, none⟩) 0 0) [] :=
  ⟨rfl, .inr ⟨w.heap.size, 0, #[], rfl, hB, heap_alloc_new w _, Nat.le_refl _, by decide, rfl, rfl⟩⟩
/-- What append leaves, below. -/
theorem Ob.below {w w1 w2 : World} {B : Nat} {v : Value} {zs : List Int} (h : Ob w1 B v zs) (hb : Below B w w1) (hB : B ≤ w1.heap.size) (hg : w1.grownBy w2 v.ownBlock) : Below B w w2 :=
  hb.grown hg hB fun k hk => (World.ownsRow.lt h k hk).1
/-- One byte in a row of its own. -/
theorem rd_one (w : World) (z : Int) (h0 : 0 ≤ z) (h1 : z ≤ 255) : Rd (w.alloc (.cells #[.int .u8 z] 5)) (some ⟨w.heap.size, 0, none⟩) 1 1 [z] := by
  refine ⟨rfl, Nat.le_refl _, by omega, by omega, fun i => ?_, fun _ => ⟨w.heap.size, 0, rfl, by simp, fun i hi => ?_⟩⟩
  · match i with
    | 0 => exact ⟨h0, h1⟩
    | n + 1 => simp
  · have : i = 0 := by omega
    subst this
    rw [World.cell?_alloc_at (hn := rfl)]
    simp

end Go.Proofs.YtcpdedpgjaimkaaDoor
/-
  Disks as plain data, and what is read through the slices of a disk.
-/
namespace Go.Proofs.YtcpdedpgjaimkaaDoor
open Go.RowKit
abbrev DW := Int × List Int
def byt (zs : List Int) : Prop := ∀ i : Nat, 0 ≤ zs[i]?.getD 0 ∧ zs[i]?.getD 0 ≤ 255
def shAt (ss : List (List Int)) (i : Nat) : List Int := ss[i]?.getD []
def dwAt (ds : List DW) (i : Nat) : DW := ds[i]?.getD (0, [])
def uAt (V : List Value) (i : Nat) : Value := V[i]?.getD (.slice none 0 0)
def xAt (U : List (Int × Value)) (i : Nat) : Int × Value := U[i]?.getD (0, .slice none 0 0)
theorem uAt_some {V : List Value} {i : Nat} (h : i < V.length) : V[i]? = some (uAt V i) := by simp [uAt, h]
/-- The slice value v leads to the bytes zs. -/
def By (w : World) (S : Nat → Prop) (v : Value) (zs : List Int) : Prop := Rw w S v zs.length (zs.map (Value.int .u8)) ∧ byt zs
theorem By.to {w w' : World} {S R : Nat → Prop} {v : Value} {zs : List Int} (h : By w S v zs) (ho : Only R w w') (hd : ∀ b, S b → b < w.heap.size → ¬ R b) : By w' S v zs := ⟨h.1.to ho hd, h.2⟩
theorem By.mono {w : World} {S R : Nat → Prop} {v : Value} {zs : List Int} (h : By w S v zs) (hd : ∀ b, S b → b < w.heap.size → R b) : By w R v zs := ⟨h.1.mono hd, h.2⟩
theorem By.below {w w' : World} {S : Nat → Prop} {v : Value} {zs : List Int} (h : By w S v zs) (hb : Below w.heap.size w w') : By w' S v zs := ⟨h.1.below hb, h.2⟩
theorem By.len {w : World} {S : Nat → Prop} {a : Option Addr} {n c : Nat} {zs : List Int} (h : By w S (.slice a n c) zs) : n = zs.length ∧ n ≤ c ∧ c ≤ 9223372036854775807 := Rw.len h.1
theorem By.rd {w : World} {S : Nat → Prop} {a : Option Addr} {n c : Nat} {zs : List Int} (h : By w S (.slice a n c) zs) (hn : n ≤ 1048576) : Rd w a n c zs := by
  obtain ⟨h1, h2, h3⟩ := h.len
  refine ⟨h1, h2, h3, by omega, h.2, fun hp => ?_⟩
  obtain ⟨b, off, e, _, hb, hc⟩ := Rw.at h.1 hp
  exact ⟨b, off, e, hb, fun i hi => hc i _ (by simp [show i < zs.length by omega])⟩
theorem by_ob {w : World} {B : Nat} {v : Value} {zs : List Int} (h : Ob w B v zs) (hb : byt zs) {S : Nat → Prop} (hS : ∀ k, v.ownBlock = some k → B ≤ k → k < w.heap.size → S k) : By w S v zs := ⟨rw_own h hS, hb⟩
/-- The slice value v leads to the sheets ss. -/
def Shr (w : World) (S : Nat → Prop) (v : Value) (ss : List (List Int)) : Prop := ∃ V : List Value, V.length = ss.length ∧ Rw w S v ss.length V ∧ ∀ i, i < ss.length → By w S (uAt V i) (shAt ss i)
theorem Shr.to {w w' : World} {S R : Nat → Prop} {v : Value} {ss : List (List Int)} (h : Shr w S v ss) (ho : Only R w w') (hd : ∀ b, S b → b < w.heap.size → ¬ R b) : Shr w' S v ss := by
  obtain ⟨V, h1, h2, h3⟩ := h
  exact ⟨V, h1, h2.to ho hd, fun i hi => (h3 i hi).to ho hd⟩
theorem Shr.mono {w : World} {S R : Nat → Prop} {v : Value} {ss : List (List Int)} (h : Shr w S v ss) (hd : ∀ b, S b → b < w.heap.size → R b) : Shr w R v ss := by
  obtain ⟨V, h1, h2, h3⟩ := h
  exact ⟨V, h1, h2.mono hd, fun i hi => (h3 i hi).mono hd⟩
theorem Shr.below {w w' : World} {S : Nat → Prop} {v : Value} {ss : List (List Int)} (h : Shr w S v ss) (hb : Below w.heap.size w w') : Shr w' S v ss := h.to (only_of_below hb (fun _ => False)) (fun _ _ _ h => h)
theorem Shr.shape {w : World} {S : Nat → Prop} {v : Value} {ss : List (List Int)} (h : Shr w S v ss) : ∃ a c, v = .slice a ss.length c ∧ ss.length ≤ c ∧ c ≤ 9223372036854775807 := by
  obtain ⟨V, h1, h2, h3⟩ := h
  exact h2.shape
theorem Shr.len {w : World} {S : Nat → Prop} {a : Option Addr} {n c : Nat} {ss : List (List Int)} (h : Shr w S (.slice a n c) ss) : n = ss.length ∧ n ≤ c ∧ c ≤ 9223372036854775807 := by
  obtain ⟨V, h1, h2, h3⟩ := h
  exact Rw.len h2
theorem Rw.sliceOf {w : World} {S : Nat → Prop} {v : Value} {n : Nat} {xs : List Value} (h : Rw w S v n xs) : ∃ a c, v = .slice a n c := by
  obtain ⟨a, c, h, _⟩ := h
  exact ⟨a, c, h⟩
theorem Shr.at {w : World} {S : Nat → Prop} {a : Option Addr} {n c : Nat} {ss : List (List Int)} (h : Shr w S (.slice a n c) ss) (hp : 0 < n) : ∃ b off, a = some ⟨b, off, none⟩ ∧ S b ∧ b < w.heap.size ∧ ∀ i, i < n → ∃ ap np cp,
    w.cell? ⟨b, off + i, none⟩ = some (.slice ap np cp) ∧ By w S (.slice ap np cp) (shAt ss i) := by
  obtain ⟨V, h1, h2, h3⟩ := h
  have hn := (Rw.len h2).1
  obtain ⟨b, off, e1, e2, e3, e4⟩ := h2.at hp
  refine ⟨b, off, e1, e2, e3, fun i hi => ?_⟩
  have k1 := h3 i (by omega)
  have d0 := e4 i _ (uAt_some (by omega))
  obtain ⟨ap, cp, g0⟩ := k1.1.sliceOf
  rw [g0] at d0 k1
  exact ⟨ap, _, cp, d0, k1⟩
/-- The cells of a list of writes. -/
def wcs : List (Int × Value) → List Value
  | [] => []
  | p :: ps => .int .i64 p.1 :: p.2 :: wcs ps
theorem wcs_length (ps : List (Int × Value)) : (wcs ps).length = ps.length * 2 := by
  induction ps with
  | nil => rfl
  | cons p ps ih => simp only [wcs, List.length_cons, ih]; omega
theorem wcs_append (ps qs : List (Int × Value)) : wcs (ps ++ qs) = wcs ps ++ wcs qs := by
  induction ps with
  | nil => rfl
  | cons p ps ih => simp only [wcs, List.cons_append, ih]
theorem wcs_at (ps : List (Int × Value)) : ∀ i, i < ps.length → (wcs ps)[i * 2]? = some (.int .i64 (xAt ps i).1) ∧ (wcs ps)[i * 2 + 1]? = some (xAt ps i).2 := by
  induction ps with
  | nil => intro i h; exact absurd h (Nat.not_lt_zero _)
  | cons p ps ih =>
    intro i h
    cases i with
    | zero => exact ⟨rfl, rfl⟩
    | succ i =>
      have := ih i (by simpa using h)
      have e : (i + 1) * 2 = i * 2 + 2 := by omega
      rw [e]
      exact this
theorem wcs_set (ps : List (Int × Value)) (p : Int × Value) : ∀ j, j < ps.length → wcs (ps.set j p) = ((wcs ps).set (j * 2) (.int .i64 p.1)).set (j * 2 + 1) p.2 := by
  induction ps with
  | nil => intro j h; exact absurd h (Nat.not_lt_zero _)
  | cons q ps ih =>
    intro j h
    cases j with
    | zero => rfl
    | succ j =>
      have := ih j (by simpa using h)
      rw [show (j + 1) * 2 = j * 2 + 2 by omega, show j * 2 + 2 + 1 = j * 2 + 1 + 2 by omega]
      show .int .i64 q.1 :: q.2 :: wcs (ps.set j p) = _
      rw [this]
      rfl
/-- The slice value v leads to the writes ds. -/
def Wrr (w : World) (S : Nat → Prop) (v : Value) (ds : List DW) : Prop := ∃ U : List (Int × Value), U.length = ds.length ∧ Rw w S v ds.length (wcs U) ∧ ∀ i, i < ds.length → (xAt U i).1 = (dwAt ds i).1 ∧ By w S (xAt U i).2 (dwAt ds i).2
theorem Wrr.to {w w' : World} {S R : Nat → Prop} {v : Value} {ds : List DW} (h : Wrr w S v ds) (ho : Only R w w') (hd : ∀ b, S b → b < w.heap.size → ¬ R b) : Wrr w' S v ds := by
  obtain ⟨V, h1, h2, h3⟩ := h
  exact ⟨V, h1, h2.to ho hd, fun i hi => ⟨(h3 i hi).1, (h3 i hi).2.to ho hd⟩⟩
theorem Wrr.mono {w : World} {S R : Nat → Prop} {v : Value} {ds : List DW} (h : Wrr w S v ds) (hd : ∀ b, S b → b < w.heap.size → R b) : Wrr w R v ds := by
  obtain ⟨V, h1, h2, h3⟩ := h
  exact ⟨V, h1, h2.mono hd, fun i hi => ⟨(h3 i hi).1, (h3 i hi).2.mono hd⟩⟩
theorem Wrr.below {w w' : World} {S : Nat → Prop} {v : Value} {ds : List DW} (h : Wrr w S v ds) (hb : Below w.heap.size w w') : Wrr w' S v ds := h.to (only_of_below hb (fun _ => False)) (fun _ _ _ h => h)
theorem Wrr.shape {w : World} {S : Nat → Prop} {v : Value} {ds : List DW} (h : Wrr w S v ds) : ∃ a c, v = .slice a ds.length c ∧ ds.length ≤ c ∧ c ≤ 9223372036854775807 := by
  obtain ⟨V, h1, h2, h3⟩ := h
  exact h2.shape
theorem Wrr.len {w : World} {S : Nat → Prop} {a : Option Addr} {n c : Nat} {ds : List DW} (h : Wrr w S (.slice a n c) ds) : n = ds.length ∧ n ≤ c ∧ c ≤ 9223372036854775807 := by
  obtain ⟨V, h1, h2, h3⟩ := h
  exact Rw.len h2
theorem Wrr.at {w : World} {S : Nat → Prop} {a : Option Addr} {n c : Nat} {ds : List DW} (h : Wrr w S (.slice a n c) ds) (hp : 0 < n) : ∃ b off, a = some ⟨b, off, none⟩ ∧ S b ∧ b < w.heap.size ∧ ∀ i, i < n → ∃ ap np cp,
    w.cell? ⟨b, off + i * 2, none⟩ = some (.int .i64 (dwAt ds i).1) ∧ w.cell? ⟨b, off + i * 2 + 1, none⟩ = some (.slice ap np cp) ∧ By w S (.slice ap np cp) (dwAt ds i).2 := by
  obtain ⟨V, h1, h2, h3⟩ := h
  have hn := (Rw.len h2).1
  obtain ⟨b, off, e1, e2, e3, e4⟩ := h2.at hp
  refine ⟨b, off, e1, e2, e3, fun i hi => ?_⟩
  obtain ⟨k0, k1⟩ := h3 i (by omega)
  obtain ⟨c0, c1⟩ := wcs_at V i (by omega)
  have d0 := e4 _ _ c0
  have d1 := e4 _ _ c1
  obtain ⟨ap, cp, g0⟩ := k1.1.sliceOf
  rw [g0] at d1 k1
  rw [k0] at d0
  exact ⟨ap, _, cp, d0, d1, k1⟩
/-- A disk as plain data: its sheets, what waits. -/
structure DK where
  sh : List (List Int)
  dw : List DW
instance : DecidableEq DK := fun a b => decidable_of_iff (a.sh = b.sh ∧ a.dw = b.dw) (by cases a; cases b; simp)
/-- The two slices of a disk lead to d. -/
structure Dk (w : World) (S : Nat → Prop) (sa : Option Addr) (sn sc : Nat) (da : Option Addr) (dn dc : Nat) (d : DK) : Prop where
  hs : Shr w S (.slice sa sn sc) d.sh
  hd : Wrr w S (.slice da dn dc) d.dw
theorem Dk.to {w w' : World} {S R : Nat → Prop} {sa : Option Addr} {sn sc : Nat} {da : Option Addr} {dn dc : Nat} {d : DK} (h : Dk w S sa sn sc da dn dc d) (ho : Only R w w') (hd : ∀ b, S b → b < w.heap.size → ¬ R b) : Dk w' S sa sn sc da dn dc d := ⟨h.hs.to ho hd, h.hd.to ho hd⟩
theorem Dk.mono {w : World} {S R : Nat → Prop} {sa : Option Addr} {sn sc : Nat} {da : Option Addr} {dn dc : Nat} {d : DK} (h : Dk w S sa sn sc da dn dc d) (hd : ∀ b, S b → b < w.heap.size → R b) : Dk w R sa sn sc da dn dc d := ⟨h.hs.mono hd, h.hd.mono hd⟩
theorem Dk.below {w w' : World} {S : Nat → Prop} {sa : Option Addr} {sn sc : Nat} {da : Option Addr} {dn dc : Nat} {d : DK} (h : Dk w S sa sn sc da dn dc d) (hb : Below w.heap.size w w') : Dk w' S sa sn sc da dn dc d := ⟨h.hs.below hb, h.hd.below hb⟩
/-- All its lists are small. -/
def smallD (d : DK) : Prop := (∀ i, i < d.sh.length → (shAt d.sh i).length ≤ 1048576) ∧ ∀ i, i < d.dw.length → (dwAt d.dw i).2.length ≤ 1048576
/-- When a disk is right. -/
def shtOk (l : List Int) : Bool := decide (l.length = 0) || decide (l.length = 512)
def wrtOk (n : Nat) (p : DW) : Bool := decide (0 ≤ p.1) && decide (p.1 < (n : Int)) && decide (p.2.length = 512)
def dkOk (d : DK) : Bool := decide (2 ≤ d.sh.length) && decide (d.sh.length ≤ 400) && decide (d.dw.length ≤ 500) && d.sh.all shtOk && d.dw.all (wrtOk d.sh.length)
theorem allD_at {α : Type} {f : α → Bool} {l : List α} (z : α) : l.all f = true ↔ ∀ i, i < l.length → f (l[i]?.getD z) = true := by
  rw [List.all_eq_true]
  constructor
  · intro h i hi
    rw [List.getElem?_eq_getElem hi]
    exact h _ (List.getElem_mem hi)
  · intro h x hx
    obtain ⟨i, hi, rfl⟩ := List.mem_iff_getElem.1 hx
    have := h i hi
    rwa [List.getElem?_eq_getElem hi] at this
theorem all_not {α : Type} {f : α → Bool} {l : List α} (z : α) {i : Nat} (hi : i < l.length) (h : f (l[i]?.getD z) = false) : l.all f = false := by
  cases e : l.all f with
  | false => rfl
  | true => rw [(allD_at z).1 e i hi] at h; cases h
end Go.Proofs.YtcpdedpgjaimkaaDoor
/-
  Disks whose lists are their own and apart from each other.
-/
namespace Go.Proofs.YtcpdedpgjaimkaaDoor
open Go.RowKit
theorem ownD_base {w : World} {B B' : Nat} {e : TypeId} {size : Nat} {v : Value} {n : Nat} {xs : List Value} (h : w.ownsRow B e size v n xs) (hB : B' ≤ B) : w.ownsRow B' e size v n xs := by
  refine ⟨h.1, h.2.imp id ?_⟩
  rintro ⟨g, cap, cur, k1, k2, k3⟩
  exact ⟨g, cap, cur, k1, by omega, k3⟩
theorem bk_own {w : World} {g B : Nat} {T : TypeId} {xs : List Value} {n size : Nat} (h : Bk w g T xs) (hl : xs.length = n * size) (hn : n ≤ 1048576) (hB : B ≤ g) : w.ownsRow B T size (.slice (some ⟨g, 0, none⟩) n n) n xs :=
  ⟨hl, .inr ⟨g, n, xs.toArray, rfl, hB, h, Nat.le_refl _, by unfold maxLen; omega, by simpa using hl, by simp [← hl]⟩⟩
theorem bk_ob {w : World} {g B : Nat} {zs : List Int} (h : Bk w g 5 (zs.map (Value.int .u8))) (hn : zs.length ≤ 1048576) (hB : B ≤ g) : Ob w B (.slice (some ⟨g, 0, none⟩) zs.length zs.length) zs :=
  bk_own h (by simp) hn hB
theorem ownD_set {w : World} {B : Nat} {E : TypeId} {s g n c m : Nat} {xs : List Value} (h : w.ownsRow B E s (.slice (some ⟨g, 0, none⟩) n c) m xs) (j : Nat) (u : Value) : (w.setCell ⟨g, j, none⟩ u).ownsRow B E s (.slice (some ⟨g, 0, none⟩) n c) m (xs.set j u) := by
  obtain ⟨k1, k2⟩ := h
  rcases k2 with ⟨k2, _⟩ | ⟨g', cap, cur, e, k3, k4, k5, k6, k7, k8⟩
  · cases k2
  · cases e
    refine ⟨by simpa using k1, .inr ⟨g, c, cur.setIfInBounds j u, rfl, k3, ?_, k5, k6, by simpa using k7, ?_⟩⟩
    · simp [World.setCell, Array.getElem?_modify, k4]
    · rw [← k8]
      simp only [Array.toList_setIfInBounds, List.take_set]
theorem own_at {w : World} {B : Nat} {E : TypeId} {s : Nat} {a : Option Addr} {n c m : Nat} {xs : List Value} (h : w.ownsRow B E s (.slice a n c) m xs) : n = m ∧ n ≤ c ∧ c ≤ 9223372036854775807 ∧ (0 < n → ∃ g, a = some ⟨g, 0, none⟩ ∧ B ≤ g ∧ g < w.heap.size ∧ (∀ o, w.frozen? ⟨g, o, none⟩ = false) ∧ ∀ (j : Nat) u, xs[j]? = some u → w.cell? ⟨g, j, none⟩ = some u) := by
  have hc := fun g hg => World.ownsRow.cells h (g := g) hg
  have hlt := World.ownsRow.lt h
  rcases h.2 with ⟨e, e2⟩ | ⟨g, cap, cur, e, hB, hg, k5, k6, k7, k8⟩
  · cases e; exact ⟨e2.symm, Nat.le_refl _, by omega, fun h => by omega⟩
  · have e2 : a = some ⟨g, 0, none⟩ ∧ n = m ∧ c = cap := by cases e; exact ⟨rfl, rfl, rfl⟩
    obtain ⟨rfl, rfl, rfl⟩ := e2
    refine ⟨rfl, k5, by unfold maxLen at k6; omega, fun _ => ⟨g, rfl, hB, (hlt g rfl).2, fun o => by simp [World.frozen?, hg], fun j u hu => ?_⟩⟩
    have := hc g rfl j u hu
    rwa [Addr.add_lit, Nat.zero_add] at this
/-- A row of sheets, all of it its own and apart. -/
structure SOw (w : World) (B : Nat) (v : Value) (V : List Value) (ss : List (List Int)) : Prop where
  len : V.length = ss.length
  row : w.ownsRow B 40 1 v ss.length V
  own : ∀ i, i < ss.length → Ob w B (uAt V i) (shAt ss i) ∧ byt (shAt ss i)
  apart : ∀ i j, i < ss.length → j < ss.length → i ≠ j → ∀ y, (uAt V i).ownBlock = some y → (uAt V j).ownBlock ≠ some y
  off : ∀ i, i < ss.length → ∀ y, (uAt V i).ownBlock = some y → v.ownBlock ≠ some y
def sbl (v : Value) (V : List Value) (y : Nat) : Prop := v.ownBlock = some y ∨ ∃ i, i < V.length ∧ (uAt V i).ownBlock = some y
theorem SOw.to {w w' : World} {B : Nat} {R : Nat → Prop} {v : Value} {V : List Value} {ss : List (List Int)} (h : SOw w B v V ss) (ho : Only R w w') (hR : ∀ y, sbl v V y → ¬ R y) : SOw w' B v V ss :=
  ⟨h.len, own_kept h.row ho (fun y e => hR y (.inl e)), fun i hi => ⟨own_kept (h.own i hi).1 ho (fun y e => hR y (.inr ⟨i, by rw [h.len]; exact hi, e⟩)), (h.own i hi).2⟩, h.apart, h.off⟩
theorem SOw.below {w w' : World} {B : Nat} {v : Value} {V : List Value} {ss : List (List Int)} (h : SOw w B v V ss) (hb : Below w.heap.size w w') : SOw w' B v V ss := h.to (only_of_below hb (fun _ => False)) (fun _ _ h => h)
theorem SOw.base {w : World} {B B' : Nat} {v : Value} {V : List Value} {ss : List (List Int)} (h : SOw w B v V ss) (hB : B' ≤ B) : SOw w B' v V ss :=
  ⟨h.len, ownD_base h.row hB, fun i hi => ⟨ownD_base (h.own i hi).1 hB, (h.own i hi).2⟩, h.apart, h.off⟩
theorem SOw.lt {w : World} {B : Nat} {v : Value} {V : List Value} {ss : List (List Int)} (h : SOw w B v V ss) {y : Nat} (hy : sbl v V y) : B ≤ y ∧ y < w.heap.size := by
  rcases hy with e | ⟨i, hi, e⟩
  · exact World.ownsRow.lt h.row y e
  · exact World.ownsRow.lt (h.own i (by rw [← h.len]; exact hi)).1 y e
theorem SOw.shr {w : World} {B : Nat} {v : Value} {V : List Value} {ss : List (List Int)} (h : SOw w B v V ss) {S : Nat → Prop} (hS : ∀ y, sbl v V y → S y) : Shr w S v ss :=
  ⟨V, h.len, rw_own h.row (fun k e _ _ => hS k (.inl e)), fun i hi => by_ob (h.own i hi).1 (h.own i hi).2 (fun k e _ _ => hS k (.inr ⟨i, by rw [h.len]; exact hi, e⟩))⟩
theorem so_nil (w : World) (B : Nat) : SOw w B (.slice none 0 0) [] [] := ⟨rfl, World.ownsRow_nil _ _ _ _, fun i hi => by simp at hi, fun i j hi => by simp at hi, fun i hi => by simp at hi⟩
theorem uAt_left {V : List Value} {p : Value} {i : Nat} (h : i < V.length) : uAt (V ++ [p]) i = uAt V i := by simp [uAt, List.getElem?_append_left h]
theorem uAt_end (V : List Value) (p : Value) : uAt (V ++ [p]) V.length = p := by simp [uAt]
theorem shAt_left {V : List (List Int)} {p : List Int} {i : Nat} (h : i < V.length) : shAt (V ++ [p]) i = shAt V i := by simp [shAt, List.getElem?_append_left h]
theorem shAt_end (V : List (List Int)) (p : List Int) : shAt (V ++ [p]) V.length = p := by simp [shAt]
theorem uAt_set {V : List Value} {p : Value} {i : Nat} (h : i < V.length) : uAt (V.set i p) i = p := by simp [uAt, h]
theorem uAt_other {V : List Value} {p : Value} {i j : Nat} (h : i ≠ j) : uAt (V.set j p) i = uAt V i := by simp [uAt, Ne.symm h]
theorem shAt_set {V : List (List Int)} {p : List Int} {i : Nat} (h : i < V.length) : shAt (V.set i p) i = p := by simp [shAt, h]
theorem shAt_other {V : List (List Int)} {p : List Int} {i j : Nat} (h : i ≠ j) : shAt (V.set j p) i = shAt V i := by simp [shAt, Ne.symm h]
/-- append(sheets, a sheet). -/
theorem SOw.push {u w2 : World} {B : Nat} {v v' : Value} {V : List Value} {ss : List (List Int)} (h : SOw u B v V ss) (x : List Int) (p : Value) (hx : Ob u B p x) (hxb : byt x) (hd : ∀ y, p.ownBlock = some y → ¬ sbl v V y)
    (ho : w2.ownsRow B 40 1 v' (ss.length + 1) (V ++ [p])) (hg : u.grownBy w2 v.ownBlock) (ha : v'.ownBlock = v.ownBlock ∨ v'.ownBlock = some u.heap.size) :
    SOw w2 B v' (V ++ [p]) (ss ++ [x]) := by
  have o : Only (fun y => v.ownBlock = some y) u w2 := only_of_grown hg (fun k e => e)
  have hl := h.len
  have hat : ∀ i, i < (ss ++ [x]).length → (i < ss.length ∧ uAt (V ++ [p]) i = uAt V i ∧ shAt (ss ++ [x]) i = shAt ss i) ∨ (i = ss.length ∧ uAt (V ++ [p]) i = p ∧ shAt (ss ++ [x]) i = x) := by
    intro i hi
    simp at hi
    by_cases e : i < ss.length
    · exact .inl ⟨e, uAt_left (by omega), shAt_left e⟩
    · obtain rfl : i = ss.length := by omega
      exact .inr ⟨rfl, by rw [← hl, uAt_end], shAt_end _ _⟩
  refine ⟨by simp [hl], by rw [List.length_append]; exact ho, fun i hi => ?_, fun i j hi hj hij y hy hz => ?_, fun i hi y hy hv => ?_⟩
  · rcases hat i hi with ⟨e, e1, e2⟩ | ⟨e, e1, e2⟩
    · rw [e1, e2]; exact ⟨own_kept (h.own i e).1 o (h.off i e), (h.own i e).2⟩
    · rw [e1, e2]; exact ⟨own_kept hx o (fun y hy e => hd y hy (.inl e)), hxb⟩
  · rcases hat i hi with ⟨e, e1, _⟩ | ⟨e, e1, _⟩
    · rw [e1] at hy
      rcases hat j hj with ⟨d, d1, _⟩ | ⟨d, d1, _⟩
      · rw [d1] at hz; exact h.apart i j e d hij y hy hz
      · rw [d1] at hz; exact hd y hz (.inr ⟨i, by omega, hy⟩)
    · rw [e1] at hy
      rcases hat j hj with ⟨d, d1, _⟩ | ⟨d, d1, _⟩
      · rw [d1] at hz; exact hd y hy (.inr ⟨j, by omega, hz⟩)
      · omega
  · have : y < u.heap.size ∧ v.ownBlock ≠ some y := by
      rcases hat i hi with ⟨e, e1, _⟩ | ⟨e, e1, _⟩
      · rw [e1] at hy; exact ⟨(World.ownsRow.lt (h.own i e).1 y hy).2, h.off i e y hy⟩
      · rw [e1] at hy; exact ⟨(World.ownsRow.lt hx y hy).2, fun e => hd y hy (.inl e)⟩
    rcases ha with ha | ha
    · rw [ha] at hv; exact this.2 hv
    · rw [ha] at hv; cases hv; omega
/-- One sheet gets other bytes. -/
theorem SOw.upd {u w2 w3 : World} {B : Nat} {v : Value} {V : List Value} {ss : List (List Int)} {k : Nat} {p : Value} {x : List Int} {g : Nat} (h : SOw u B v V ss) (hk : k < ss.length) (hv : v.ownBlock = some g) (hb : Below u.heap.size u w2) (hx : Ob w2 u.heap.size p x) (hxb : byt x) (hB : B ≤ u.heap.size)
    (o3 : Only (fun y => y = g) w2 w3) (hrow : w3.ownsRow B 40 1 v ss.length (V.set k p)) : SOw w3 B v (V.set k p) (ss.set k x) := by
  have hl := h.len
  have hg : g < u.heap.size := (World.ownsRow.lt h.row g hv).2
  have hp : ∀ y, p.ownBlock = some y → u.heap.size ≤ y := fun y e => (World.ownsRow.lt hx y e).1
  have hold : ∀ i, i < ss.length → ∀ y, (uAt V i).ownBlock = some y → y < u.heap.size := fun i hi y e => (World.ownsRow.lt (h.own i hi).1 y e).2
  refine ⟨by simp [hl], by rw [List.length_set]; exact hrow, fun i hi => ?_, fun i j hi hj hij y hy hz => ?_, fun i hi y hy hv' => ?_⟩
  · rw [List.length_set] at hi
    by_cases e : i = k
    · subst e
      rw [uAt_set (by omega), shAt_set hi]
      exact ⟨ownD_base (own_kept hx o3 (fun y e e2 => by have := hp y e; omega)) hB, hxb⟩
    · rw [uAt_other e, shAt_other e]
      exact ⟨own_kept (own_kept (h.own i hi).1 (only_of_below hb (fun _ => False)) (fun _ _ h => h)) o3 (fun y hy e2 => h.off i hi y hy (by rw [hv, e2])), (h.own i hi).2⟩
  · rw [List.length_set] at hi hj
    by_cases e : i = k
    · subst e
      rw [uAt_set (by omega)] at hy
      rw [uAt_other (Ne.symm hij)] at hz
      have := hp y hy
      have := hold j hj y hz
      omega
    · rw [uAt_other e] at hy
      by_cases e2 : j = k
      · subst e2
        rw [uAt_set (by omega)] at hz
        have := hp y hz
        have := hold i hi y hy
        omega
      · rw [uAt_other e2] at hz; exact h.apart i j hi hj hij y hy hz
  · rw [List.length_set] at hi
    rw [hv] at hv'
    cases hv'
    by_cases e : i = k
    · subst e
      rw [uAt_set (by omega)] at hy
      have := hp _ hy
      omega
    · rw [uAt_other e] at hy; exact h.off i hi _ hy hv
/-- A row of writes, all of it its own and apart. -/
structure WO (w : World) (B : Nat) (v : Value) (U : List (Int × Value)) (ds : List DW) : Prop where
  len : U.length = ds.length
  row : w.ownsRow B 43 2 v ds.length (wcs U)
  own : ∀ i, i < ds.length → (xAt U i).1 = (dwAt ds i).1 ∧ Ob w B (xAt U i).2 (dwAt ds i).2 ∧ byt (dwAt ds i).2
  apart : ∀ i j, i < ds.length → j < ds.length → i ≠ j → ∀ y, (xAt U i).2.ownBlock = some y → (xAt U j).2.ownBlock ≠ some y
  off : ∀ i, i < ds.length → ∀ y, (xAt U i).2.ownBlock = some y → v.ownBlock ≠ some y
def wbl (v : Value) (U : List (Int × Value)) (y : Nat) : Prop := v.ownBlock = some y ∨ ∃ i, i < U.length ∧ (xAt U i).2.ownBlock = some y
theorem WO.to {w w' : World} {B : Nat} {R : Nat → Prop} {v : Value} {U : List (Int × Value)} {ds : List DW} (h : WO w B v U ds) (ho : Only R w w') (hR : ∀ y, wbl v U y → ¬ R y) : WO w' B v U ds :=
  ⟨h.len, own_kept h.row ho (fun y e => hR y (.inl e)), fun i hi => ⟨(h.own i hi).1, own_kept (h.own i hi).2.1 ho (fun y e => hR y (.inr ⟨i, by rw [h.len]; exact hi, e⟩)), (h.own i hi).2.2⟩, h.apart, h.off⟩
theorem WO.below {w w' : World} {B : Nat} {v : Value} {U : List (Int × Value)} {ds : List DW} (h : WO w B v U ds) (hb : Below w.heap.size w w') : WO w' B v U ds := h.to (only_of_below hb (fun _ => False)) (fun _ _ h => h)
theorem WO.base {w : World} {B B' : Nat} {v : Value} {U : List (Int × Value)} {ds : List DW} (h : WO w B v U ds) (hB : B' ≤ B) : WO w B' v U ds :=
  ⟨h.len, ownD_base h.row hB, fun i hi => ⟨(h.own i hi).1, ownD_base (h.own i hi).2.1 hB, (h.own i hi).2.2⟩, h.apart, h.off⟩
theorem WO.lt {w : World} {B : Nat} {v : Value} {U : List (Int × Value)} {ds : List DW} (h : WO w B v U ds) {y : Nat} (hy : wbl v U y) : B ≤ y ∧ y < w.heap.size := by
  rcases hy with e | ⟨i, hi, e⟩
  · exact World.ownsRow.lt h.row y e
  · exact World.ownsRow.lt (h.own i (by rw [← h.len]; exact hi)).2.1 y e
theorem WO.wrr {w : World} {B : Nat} {v : Value} {U : List (Int × Value)} {ds : List DW} (h : WO w B v U ds) {S : Nat → Prop} (hS : ∀ y, wbl v U y → S y) : Wrr w S v ds :=
  ⟨U, h.len, rw_own h.row (fun k e _ _ => hS k (.inl e)), fun i hi => ⟨(h.own i hi).1, by_ob (h.own i hi).2.1 (h.own i hi).2.2 (fun k e _ _ => hS k (.inr ⟨i, by rw [h.len]; exact hi, e⟩))⟩⟩
theorem wo_nil (w : World) (B : Nat) : WO w B (.slice none 0 0) [] [] := ⟨rfl, World.ownsRow_nil _ _ _ _, fun i hi => by simp at hi, fun i j hi => by simp at hi, fun i hi => by simp at hi⟩
theorem xAt_left {U : List (Int × Value)} {p : Int × Value} {i : Nat} (h : i < U.length) : xAt (U ++ [p]) i = xAt U i := by simp [xAt, List.getElem?_append_left h]
theorem xAt_end (U : List (Int × Value)) (p : Int × Value) : xAt (U ++ [p]) U.length = p := by simp [xAt]
theorem wAt_left {U : List DW} {p : DW} {i : Nat} (h : i < U.length) : dwAt (U ++ [p]) i = dwAt U i := by simp [dwAt, List.getElem?_append_left h]
theorem wAt_end (U : List DW) (p : DW) : dwAt (U ++ [p]) U.length = p := by simp [dwAt]
theorem xAt_set {V : List (Int × Value)} {p : Int × Value} {i : Nat} (h : i < V.length) : xAt (V.set i p) i = p := by simp [xAt, h]
theorem xAt_other {V : List (Int × Value)} {p : Int × Value} {i j : Nat} (h : i ≠ j) : xAt (V.set j p) i = xAt V i := by simp [xAt, Ne.symm h]
/-- append(writes, a write). -/
theorem WO.push {u w2 : World} {B : Nat} {v v' : Value} {U : List (Int × Value)} {ds : List DW} (h : WO u B v U ds) (t : Int) (x : List Int) (p : Value) (hx : Ob u B p x) (hxb : byt x) (hd : ∀ y, p.ownBlock = some y → ¬ wbl v U y)
    (ho : w2.ownsRow B 43 2 v' (ds.length + 1) (wcs U ++ [.int .i64 t, p])) (hg : u.grownBy w2 v.ownBlock) (ha : v'.ownBlock = v.ownBlock ∨ v'.ownBlock = some u.heap.size) :
    WO w2 B v' (U ++ [(t, p)]) (ds ++ [(t, x)]) := by
  have o : Only (fun y => v.ownBlock = some y) u w2 := only_of_grown hg (fun k e => e)
  have hl := h.len
  have hat : ∀ i, i < (ds ++ [(t, x)]).length → (i < ds.length ∧ xAt (U ++ [(t, p)]) i = xAt U i ∧ dwAt (ds ++ [(t, x)]) i = dwAt ds i) ∨ (i = ds.length ∧ xAt (U ++ [(t, p)]) i = (t, p) ∧ dwAt (ds ++ [(t, x)]) i = (t, x)) := by
    intro i hi
    simp at hi
    by_cases e : i < ds.length
    · exact .inl ⟨e, xAt_left (by omega), wAt_left e⟩
    · obtain rfl : i = ds.length := by omega
      exact .inr ⟨rfl, by rw [← hl, xAt_end], wAt_end _ _⟩
  refine ⟨by simp [hl], by rw [List.length_append, wcs_append]; exact ho, fun i hi => ?_, fun i j hi hj hij y hy hz => ?_, fun i hi y hy hv => ?_⟩
  · rcases hat i hi with ⟨e, e1, e2⟩ | ⟨e, e1, e2⟩
    · rw [e1, e2]; exact ⟨(h.own i e).1, own_kept (h.own i e).2.1 o (h.off i e), (h.own i e).2.2⟩
    · rw [e1, e2]; exact ⟨rfl, own_kept hx o (fun y hy e => hd y hy (.inl e)), hxb⟩
  · rcases hat i hi with ⟨e, e1, _⟩ | ⟨e, e1, _⟩
    · rw [e1] at hy
      rcases hat j hj with ⟨d, d1, _⟩ | ⟨d, d1, _⟩
      · rw [d1] at hz; exact h.apart i j e d hij y hy hz
      · rw [d1] at hz; exact hd y hz (.inr ⟨i, by omega, hy⟩)
    · rw [e1] at hy
      rcases hat j hj with ⟨d, d1, _⟩ | ⟨d, d1, _⟩
      · rw [d1] at hz; exact hd y hy (.inr ⟨j, by omega, hz⟩)
      · omega
  · have : y < u.heap.size ∧ v.ownBlock ≠ some y := by
      rcases hat i hi with ⟨e, e1, _⟩ | ⟨e, e1, _⟩
      · rw [e1] at hy; exact ⟨(World.ownsRow.lt (h.own i e).2.1 y hy).2, h.off i e y hy⟩
      · rw [e1] at hy; exact ⟨(World.ownsRow.lt hx y hy).2, fun e => hd y hy (.inl e)⟩
    rcases ha with ha | ha
    · rw [ha] at hv; exact this.2 hv
    · rw [ha] at hv; cases hv; omega
/-- A disk, all of it its own and apart. -/
structure DO (w : World) (B : Nat) (sv : Value) (V : List Value) (dv : Value) (U : List (Int × Value)) (d : DK) : Prop where
  hs : SOw w B sv V d.sh
  hd : WO w B dv U d.dw
  ap : ∀ y, sbl sv V y → ¬ wbl dv U y
def dbl (sv : Value) (V : List Value) (dv : Value) (U : List (Int × Value)) (y : Nat) : Prop := sbl sv V y ∨ wbl dv U y
theorem DO.to {w w' : World} {B : Nat} {R : Nat → Prop} {sv dv : Value} {V : List Value} {U : List (Int × Value)} {d : DK} (h : DO w B sv V dv U d) (ho : Only R w w') (hR : ∀ y, dbl sv V dv U y → ¬ R y) : DO w' B sv V dv U d := ⟨h.hs.to ho (fun y e => hR y (.inl e)), h.hd.to ho (fun y e => hR y (.inr e)), h.ap⟩
theorem DO.below {w w' : World} {B : Nat} {sv dv : Value} {V : List Value} {U : List (Int × Value)} {d : DK} (h : DO w B sv V dv U d) (hb : Below w.heap.size w w') : DO w' B sv V dv U d := ⟨h.hs.below hb, h.hd.below hb, h.ap⟩
theorem DO.base {w : World} {B B' : Nat} {sv dv : Value} {V : List Value} {U : List (Int × Value)} {d : DK} (h : DO w B sv V dv U d) (hB : B' ≤ B) : DO w B' sv V dv U d := ⟨h.hs.base hB, h.hd.base hB, h.ap⟩
theorem DO.lt {w : World} {B : Nat} {sv dv : Value} {V : List Value} {U : List (Int × Value)} {d : DK} (h : DO w B sv V dv U d) {y : Nat} (hy : dbl sv V dv U y) : B ≤ y ∧ y < w.heap.size := hy.elim h.hs.lt h.hd.lt
theorem DO.dk {w : World} {B : Nat} {sa da : Option Addr} {sn sc dn dc : Nat} {V : List Value} {U : List (Int × Value)} {d : DK} (h : DO w B (.slice sa sn sc) V (.slice da dn dc) U d) {S : Nat → Prop} (hS : ∀ y, dbl (.slice sa sn sc) V (.slice da dn dc) U y → S y) : Dk w S sa sn sc da dn dc d := ⟨h.hs.shr (fun y e => hS y (.inl e)), h.hd.wrr (fun y e => hS y (.inr e))⟩
theorem do_nil (w : World) (B : Nat) : DO w B (.slice none 0 0) [] (.slice none 0 0) [] ⟨[], []⟩ := ⟨so_nil w B, wo_nil w B, fun y hy => by
  rcases hy with e | ⟨i, hi, _⟩
  · cases e
  · simp at hi⟩
theorem DO.shape {w : World} {B : Nat} {sv dv : Value} {V : List Value} {U : List (Int × Value)} {d : DK} (h : DO w B sv V dv U d) : ∃ sa sc da dc, sv = .slice sa d.sh.length sc ∧ dv = .slice da d.dw.length dc := by
  obtain ⟨sa, sc, e⟩ := own_shape h.hs.row
  obtain ⟨da, dc, e2⟩ := own_shape h.hd.row
  exact ⟨sa, sc, da, dc, e, e2⟩
end Go.Proofs.YtcpdedpgjaimkaaDoor
/-
  What the law's helpers do with slices of strings and of numbers: copied, held against each other, sizes summed.
-/
namespace Go.Proofs.YtcpdedpgjaimkaaDoor
open Go.RowKit

def szOkS (l : List ByteArray) : Prop := ∀ i, (sAt l i).size ≤ 9223372036854775807
end Go.Proofs.YtcpdedpgjaimkaaDoor
/-
  What the law's helpers do with nodes and trees: copied, sizes summed, held against each other.
-/
namespace Go.Proofs.YtcpdedpgjaimkaaDoor
open Go.RowKit

theorem load_node {w : World} {g : Nat} {x y z : Value} (c0 : w.cell? ⟨g, 0, none⟩ = some x) (c1 : w.cell? ⟨g, 1, none⟩ = some y) (c2 : w.cell? ⟨g, 2, none⟩ = some z) :
    (loadVar 112 ⟨g, 0, none⟩).run Tryd.prog w = .ok (.agg #[x, y, z]) w := by go_simp
theorem results_node {fn : Func} {p : Tmp} (h : fn.results = #[.cell p 112]) (tmps : Array Value) (w : World) (g : Nat) {x y z : Value} (hp : tmps.getD p undef = .pointer (some ⟨g, 0, none⟩))
    (c0 : w.cell? ⟨g, 0, none⟩ = some x) (c1 : w.cell? ⟨g, 1, none⟩ = some y) (c2 : w.cell? ⟨g, 2, none⟩ = some z) : (results fn tmps).run Tryd.prog w = .ok (.agg #[x, y, z]) w := by
  have hp' : tmps[p]?.getD undef = .pointer (some ⟨g, 0, none⟩) := by simpa using hp
  simp [results, h, hp', asAddr, load_node c0 c1 c2]
end Go.Proofs.YtcpdedpgjaimkaaDoor
/-
  DiskOk of the specification and of the program.
-/
namespace Go.Proofs.YtcpdedpgjaimkaaDoor
open Go.RowKit
set_option linter.unusedVariables false
theorem shtOk_iff (l : List Int) : shtOk l = true ↔ l.length = 0 ∨ l.length = 512 := by simp only [shtOk, Bool.or_eq_true, decide_eq_true_eq]
theorem wrtOk_iff (n : Nat) (p : DW) : wrtOk n p = true ↔ 0 ≤ p.1 ∧ p.1 < (n : Int) ∧ p.2.length = 512 := by simp only [wrtOk, Bool.and_eq_true, decide_eq_true_eq, and_assoc]
theorem dkOk_iff (d : DK) : dkOk d = true ↔ 2 ≤ d.sh.length ∧ d.sh.length ≤ 400 ∧ d.dw.length ≤ 500 ∧ (∀ i, i < d.sh.length → shtOk (shAt d.sh i) = true) ∧ ∀ i, i < d.dw.length → wrtOk d.sh.length (dwAt d.dw i) = true := by
  simp only [dkOk, Bool.and_eq_true, decide_eq_true_eq, and_assoc, allD_at (l := d.sh) (z := []), allD_at (l := d.dw) (z := ((0, []) : DW)), shAt, dwAt]
theorem dk_no {d : DK} (h : ¬ (2 ≤ d.sh.length ∧ d.sh.length ≤ 400 ∧ d.dw.length ≤ 500)) : dkOk d = false := by
  rw [Bool.eq_false_iff]
  intro e
  have := (dkOk_iff d).1 e
  exact h ⟨this.1, this.2.1, this.2.2.1⟩
theorem dk_no_sheet {d : DK} {i : Nat} (hi : i < d.sh.length) (h : ¬ shtOk (shAt d.sh i) = true) : dkOk d = false := by
  rw [Bool.eq_false_iff]
  intro e
  exact h (((dkOk_iff d).1 e).2.2.2.1 i hi)
theorem dk_no_write {d : DK} {i : Nat} (hi : i < d.dw.length) (h : ¬ wrtOk d.sh.length (dwAt d.dw i) = true) : dkOk d = false := by
  rw [Bool.eq_false_iff]
  intro e
  exact h (((dkOk_iff d).1 e).2.2.2.2 i hi)
set_option maxHeartbeats 4000000 in
theorem specDiskOk_any (S : Nat → Prop) (sa : Option Addr) (sn sc : Nat) (da : Option Addr) (dn dc : Nat) (d : DK) (w : World) (h : Dk w S sa sn sc da dn dc d) :
    Calls Tryd.prog 6 #[.agg #[.slice sa sn sc, .slice da dn dc]] w fun e w' => e = .returned (.bool (dkOk d)) ∧ Below w.heap.size w w' := by
  have HS := hid h.hs
  have HD := hid h.hd
  obtain ⟨ns, hsc, hsc'⟩ := h.hs.len
  obtain ⟨nd, hdc, hdc'⟩ := h.hd.len
  have HNS := hid ns
  have HND := hid nd
  have HB0 : Hid (Below w.heap.size w (w.alloc (.cells #[.slice sa sn sc, .slice da dn dc] 26))) := below_new (Below.refl _ _)
  have KP : Hid (Bk (w.alloc (.cells #[.slice sa sn sc, .slice da dn dc] 26)) w.heap.size 26 [.slice sa sn sc, .slice da dn dc]) := Bk.new w 26 [.slice sa sn sc, .slice da dn dc]
  clear h
  have c0 := KP.out.cell (j := 0) rfl
  have c1 := KP.out.cell (j := 1) rfl
  by_cases q1 : sn < 2
  · have q1' : (sn : Int) < 2 := by omega
    have HF := hid (dk_no (d := d) (by omega))
    clear ns nd
    go_enter Tryd.func6, Tryd.ntmps6
    go_wp2
    go_ret
    exact ⟨by rw [HF.out]; rfl, HB0.out⟩
  · have q1' : ¬ (sn : Int) < 2 := by omega
    by_cases q2 : 400 < sn
    · have q2' : (400 : Int) < (sn : Int) := by omega
      have HF := hid (dk_no (d := d) (by omega))
      clear ns nd
      go_enter Tryd.func6, Tryd.ntmps6
      go_wp2
      go_ret
      exact ⟨by rw [HF.out]; rfl, HB0.out⟩
    · have q2' : ¬ (400 : Int) < (sn : Int) := by omega
      by_cases q3 : 500 < dn
      · have q3' : (500 : Int) < (dn : Int) := by omega
        have HF := hid (dk_no (d := d) (by omega))
        clear ns nd
        go_enter Tryd.func6, Tryd.ntmps6
        go_wp2
        go_ret
        exact ⟨by rw [HF.out]; rfl, HB0.out⟩
      · have q3' : ¬ (500 : Int) < (dn : Int) := by omega
        have HQ : Hid (2 ≤ d.sh.length ∧ d.sh.length ≤ 400 ∧ d.dw.length ≤ 500) := ⟨by omega, by omega, by omega⟩
        clear ns nd
        go_enter Tryd.func6, Tryd.ntmps6
        go_wp2_with fail
        clear c0 c1
        go_loopw [26] (fun i wr => ∃ k : Nat, k ≤ sn ∧ i = .int .i64 k ∧ Hid (∀ i, i < k → shtOk (shAt d.sh i) = true) ∧ Hid (Bk wr w.heap.size 26 [.slice sa sn sc, .slice da dn dc]) ∧ Hid (Below w.heap.size w wr)) (fun i _ => sn - (intOf i).toNat)
        case atStart => exact ⟨0, Nat.zero_le _, rfl, fun i hi => absurd hi (Nat.not_lt_zero _), KP.out, HB0.out⟩
        case round =>
          obtain ⟨k, hk, rfl, HT, HK, HB⟩ := hrel
          clear KP HB0
          by_cases hlt : k < sn
          · have hlt' : (k : Int) < (sn : Int) := by omega
            obtain ⟨b, off, rfl, _, hbw, hcell⟩ := (HS.out.below HB.out).at (by omega)
            obtain ⟨ap, np, cp, m0, hp⟩ := hcell k hlt
            have l0 := hp.len.1
            have hkl : k < d.sh.length := by rw [← HNS.out]; exact hlt
            have HB1 : Hid (Below w.heap.size w (wr.alloc (.cells #[.slice ap np cp] 40))) := HB.out.alloc HB.out.size _
            have HK1 := hid (HK.out.alloc (.cells #[.slice ap np cp] 40))
            clear hcell hbw hp
            by_cases n0 : np = 0
            · have HT1 : Hid (∀ i, i < k + 1 → shtOk (shAt d.sh i) = true) := by
                intro i hi
                by_cases e : i = k
                · subst e; exact (shtOk_iff _).2 (by omega)
                · exact HT.out i (by omega)
              have n0' : ((np : Int) != 0) = false := by simp; omega
              subst n0
              clear l0 HT
              go_wp2
              go_roundw
              case rel => exact ⟨k + 1, by omega, by go_num, HT1.out, HK1.out, HB1.out⟩
              case measure => simp [intOf]; omega
            · have n0' : ((np : Int) != 0) = true := by simp; omega
              have n0'' : ¬ (np : Int) = 0 := by omega
              by_cases n5 : np = 512
              · have HT1 : Hid (∀ i, i < k + 1 → shtOk (shAt d.sh i) = true) := by
                  intro i hi
                  by_cases e : i = k
                  · subst e; exact (shtOk_iff _).2 (by omega)
                  · exact HT.out i (by omega)
                subst n5
                clear l0 HT
                go_wp2
                go_roundw
                case rel => exact ⟨k + 1, by omega, by go_num, HT1.out, HK1.out, HB1.out⟩
                case measure => simp [intOf]; omega
              · have n5' : ((np : Int) != 512) = true := by simp; omega
                have n5'' : ¬ (np : Int) = 512 := by omega
                have HF := hid (dk_no_sheet hkl (fun e => by have := (shtOk_iff _).1 e; omega))
                clear l0 hkl HT
                go_wp2
                go_ret
                exact ⟨by rw [HF.out]; rfl, HB1.out⟩
          · have hkn : k = sn := by omega
            have HT0 : Hid (∀ i, i < d.sh.length → shtOk (shAt d.sh i) = true) := by rw [← HNS.out, ← hkn]; exact HT.out
            clear HT hkn
            have c1 := HK.out.cell (j := 1) rfl
            go_wp2_with fail
            clear c1
            go_loopw [44] (fun i wr => ∃ k : Nat, k ≤ dn ∧ i = .int .i64 k ∧ Hid (∀ i, i < k → wrtOk d.sh.length (dwAt d.dw i) = true) ∧ Hid (Bk wr w.heap.size 26 [.slice sa sn sc, .slice da dn dc]) ∧ Hid (Below w.heap.size w wr)) (fun i _ => dn - (intOf i).toNat)
            case atStart => exact ⟨0, Nat.zero_le _, rfl, fun i hi => absurd hi (Nat.not_lt_zero _), HK.out, HB.out⟩
            case round =>
              clear HK HB
              obtain ⟨j, hj, rfl, HT, HK, HB⟩ := hrel
              by_cases hlt : j < dn
              · have hlt' : (j : Int) < (dn : Int) := by omega
                obtain ⟨b, off, rfl, _, hbw, hcell⟩ := (HD.out.below HB.out).at (by omega)
                obtain ⟨ap, np, cp, mt, m0, hp⟩ := hcell j hlt
                have l0 := hp.len.1
                have hkl : j < d.dw.length := by rw [← HND.out]; exact hlt
                generalize htt : (dwAt d.dw j).1 = tt at *
                have HB1 : Hid (Below w.heap.size w (wr.alloc (.cells #[.int .i64 tt, .slice ap np cp] 43))) := HB.out.alloc HB.out.size _
                have HK1 := hid (HK.out.alloc (.cells #[.int .i64 tt, .slice ap np cp] 43))
                have c0 := HK1.out.cell (j := 0) rfl
                have HX : Hid (wrtOk d.sh.length (dwAt d.dw j) = true ↔ 0 ≤ tt ∧ tt < (sn : Int) ∧ np = 512) := by
                  show _ ↔ _
                  rw [wrtOk_iff, htt, ← l0, HNS.out]
                clear hcell hbw hp htt l0
                by_cases t0 : tt < 0
                · have HF := hid (dk_no_write hkl (fun e => by have := HX.out.1 e; omega))
                  clear hkl HT HX
                  go_wp2
                  go_ret
                  exact ⟨by rw [HF.out]; rfl, HB1.out⟩
                · by_cases t1 : (sn : Int) ≤ tt
                  · have HF := hid (dk_no_write hkl (fun e => by have := HX.out.1 e; omega))
                    clear hkl HT HX
                    go_wp2
                    go_ret
                    exact ⟨by rw [HF.out]; rfl, HB1.out⟩
                  · by_cases n5 : np = 512
                    · have HT1 : Hid (∀ i, i < j + 1 → wrtOk d.sh.length (dwAt d.dw i) = true) := by
                        intro i hi
                        by_cases e : i = j
                        · subst e; exact HX.out.2 ⟨by omega, by omega, n5⟩
                        · exact HT.out i (by omega)
                      subst n5
                      clear HT HX hkl
                      go_wp2
                      go_roundw
                      case rel => exact ⟨j + 1, by omega, by go_num, HT1.out, HK1.out, HB1.out⟩
                      case measure => simp [intOf]; omega
                    · have n5' : ((np : Int) != 512) = true := by simp; omega
                      have n5'' : ¬ (np : Int) = 512 := by omega
                      have HF := hid (dk_no_write hkl (fun e => by have := HX.out.1 e; omega))
                      clear hkl HT HX
                      go_wp2
                      go_ret
                      exact ⟨by rw [HF.out]; rfl, HB1.out⟩
              · have hjn : j = dn := by omega
                have HF : Hid (dkOk d = true) := (dkOk_iff d).2 ⟨HQ.out.1, HQ.out.2.1, HQ.out.2.2, HT0.out, by rw [← HND.out, ← hjn]; exact HT.out⟩
                clear HT HT0 hjn
                go_wp2
                go_ret
                exact ⟨by rw [HF.out]; rfl, HB.out⟩
def szOk (n : Int) : Bool := decide (2 ≤ n) && decide (n ≤ 400)
set_option maxHeartbeats 1000000 in
theorem sizeOk_any (n : Int) (w : World) : Calls Tryd.prog 15 #[.int .i64 n] w fun e w' => e = .returned (.bool (szOk n)) ∧ w' = w := by
  by_cases q1 : n < 2
  · have HF : Hid (szOk n = false) := by show _ = _; rw [szOk, decide_eq_false (show ¬ 2 ≤ n by omega)]; rfl
    have q1' : ¬ 2 ≤ n := by omega
    go_enter Tryd.func15, Tryd.ntmps15
    go_wp2
    go_ret
    exact ⟨by rw [HF.out]; rfl, rfl⟩
  · have q1' : 2 ≤ n := by omega
    by_cases q2 : n ≤ 400
    · have HF : Hid (szOk n = true) := by show _ = _; rw [szOk, decide_eq_true q1', decide_eq_true q2]; rfl
      go_enter Tryd.func15, Tryd.ntmps15
      go_wp2
      go_ret
      exact ⟨by rw [HF.out]; rfl, rfl⟩
    · have HF : Hid (szOk n = false) := by show _ = _; rw [szOk, decide_eq_false q2]; simp
      go_enter Tryd.func15, Tryd.ntmps15
      go_wp2
      go_ret
      exact ⟨by rw [HF.out]; rfl, rfl⟩
set_option maxHeartbeats 1000000 in
theorem shtOk_any (a : Option Addr) (n c : Nat) (zs : List Int) (w : World) (h : n = zs.length) (hn : n ≤ 9223372036854775807) :
    Calls Tryd.prog 16 #[.slice a n c] w fun e w' => e = .returned (.bool (shtOk zs)) ∧ w' = w := by
  by_cases h0 : n = 0
  · have HV : Hid (shtOk zs = true) := (shtOk_iff zs).2 (by omega)
    subst h0
    clear h
    go_enter Tryd.func16, Tryd.ntmps16
    go_wp2
    go_ret
    exact ⟨by rw [HV.out]; rfl, rfl⟩
  · have h0' : ((n : Int) == 0) = false := by simp; omega
    have h0'' : ¬ (n : Int) = 0 := by omega
    by_cases h5 : n = 512
    · have HV : Hid (shtOk zs = true) := (shtOk_iff zs).2 (by omega)
      subst h5
      clear h
      go_enter Tryd.func16, Tryd.ntmps16
      go_wp2
      go_ret
      exact ⟨by rw [HV.out]; rfl, rfl⟩
    · have h5' : ((n : Int) == 512) = false := by simp; omega
      have h5'' : ¬ (n : Int) = 512 := by omega
      have HV : Hid (shtOk zs = false) := by
        show _ = false
        rw [Bool.eq_false_iff]
        intro e
        have := (shtOk_iff zs).1 e
        omega
      clear h
      go_enter Tryd.func16, Tryd.ntmps16
      go_wp2
      go_ret
      exact ⟨by rw [HV.out]; rfl, rfl⟩
set_option maxHeartbeats 1000000 in
theorem writeOk_any (t : Int) (a : Option Addr) (n c : Nat) (zs : List Int) (m : Nat) (w : World) (h : n = zs.length) (hn : n ≤ 9223372036854775807) :
    Calls Tryd.prog 17 #[.agg #[.int .i64 t, .slice a n c], .int .i64 (m : Int)] w fun e w' => e = .returned (.bool (wrtOk m (t, zs))) ∧ Below w.heap.size w w' := by
  have HB0 : Hid (Below w.heap.size w (w.alloc (.cells #[.int .i64 t, .slice a n c] 43))) := below_new (Below.refl _ _)
  have HN := hid h
  clear h
  by_cases q1 : t < 0
  · have q1' : ¬ 0 ≤ t := by omega
    have HV : Hid (wrtOk m (t, zs) = false) := by
      show _ = false
      rw [Bool.eq_false_iff]
      intro e
      exact q1' ((wrtOk_iff _ _).1 e).1
    go_enter Tryd.func17, Tryd.ntmps17
    go_wp2
    go_ret
    exact ⟨by rw [HV.out]; rfl, HB0.out⟩
  · have q1' : 0 ≤ t := by omega
    by_cases q2 : t < (m : Int)
    · by_cases h5 : n = 512
      · have HV : Hid (wrtOk m (t, zs) = true) := (wrtOk_iff _ _).2 ⟨q1', q2, by rw [← HN.out]; exact h5⟩
        subst h5
        go_enter Tryd.func17, Tryd.ntmps17
        go_wp2
        go_ret
        exact ⟨by rw [HV.out]; rfl, HB0.out⟩
      · have h5' : ((n : Int) == 512) = false := by simp; omega
        have h5'' : ¬ (n : Int) = 512 := by omega
        have HV : Hid (wrtOk m (t, zs) = false) := by
          show _ = false
          rw [Bool.eq_false_iff]
          intro e
          exact h5 (HN.out.trans ((wrtOk_iff _ _).1 e).2.2)
        go_enter Tryd.func17, Tryd.ntmps17
        go_wp2
        go_ret
        exact ⟨by rw [HV.out]; rfl, HB0.out⟩
    · have HV : Hid (wrtOk m (t, zs) = false) := by
        show _ = false
        rw [Bool.eq_false_iff]
        intro e
        exact q2 ((wrtOk_iff _ _).1 e).2.1
      go_enter Tryd.func17, Tryd.ntmps17
      go_wp2
      go_ret
      exact ⟨by rw [HV.out]; rfl, HB0.out⟩
set_option maxHeartbeats 4000000 in
theorem implDiskOk_any (S : Nat → Prop) (sa : Option Addr) (sn sc : Nat) (da : Option Addr) (dn dc : Nat) (d : DK) (w : World) (h : Dk w S sa sn sc da dn dc d) :
    Calls Tryd.prog 7 #[.agg #[.slice sa sn sc, .slice da dn dc]] w fun e w' => e = .returned (.bool (dkOk d)) ∧ Below w.heap.size w w' := by
  have HS := hid h.hs
  have HD := hid h.hd
  obtain ⟨ns, hsc, hsc'⟩ := h.hs.len
  obtain ⟨nd, hdc, hdc'⟩ := h.hd.len
  have HNS := hid ns
  have HND := hid nd
  have HB0 : Hid (Below w.heap.size w (w.alloc (.cells #[.slice sa sn sc, .slice da dn dc] 26))) := below_new (Below.refl _ _)
  have KP : Hid (Bk (w.alloc (.cells #[.slice sa sn sc, .slice da dn dc] 26)) w.heap.size 26 [.slice sa sn sc, .slice da dn dc]) := Bk.new w 26 [.slice sa sn sc, .slice da dn dc]
  clear h
  have c0 := KP.out.cell (j := 0) rfl
  have c1 := KP.out.cell (j := 1) rfl
  have HZ : Hid (szOk (sn : Int) = true ↔ 2 ≤ sn ∧ sn ≤ 400) := by
    show _ ↔ _
    simp only [szOk, Bool.and_eq_true, decide_eq_true_eq]
    omega
  clear ns nd
  go_enter Tryd.func7, Tryd.ntmps7
  go_wp2_with fail
  refine (sizeOk_any (sn : Int) _).mono ?_
  rintro e w0 ⟨rfl, rfl⟩
  cases hz : szOk (sn : Int) with
  | false =>
    have HF := hid (dk_no (d := d) (fun e => by have ns := HNS.out; have := HZ.out.2 (by omega); rw [hz] at this; cases this))
    clear hz HZ
    go_wp2
    go_ret
    exact ⟨by rw [HF.out]; rfl, HB0.out⟩
  | true =>
    have hz2 := HZ.out.1 hz
    by_cases q3 : 500 < dn
    · have q3' : (500 : Int) < (dn : Int) := by omega
      have HF := hid (dk_no (d := d) (by have nd := HND.out; omega))
      clear hz HZ hz2
      go_wp2
      go_ret
      exact ⟨by rw [HF.out]; rfl, HB0.out⟩
    · have q3' : ¬ (500 : Int) < (dn : Int) := by omega
      have HQ : Hid (2 ≤ d.sh.length ∧ d.sh.length ≤ 400 ∧ d.dw.length ≤ 500) := by have ns := HNS.out; have nd := HND.out; exact ⟨by omega, by omega, by omega⟩
      clear hz HZ hz2
      go_wp2_with fail
      clear c0 c1
      go_loopw [23] (fun i wr => ∃ k : Nat, k ≤ sn ∧ i = .int .i64 k ∧ Hid (∀ i, i < k → shtOk (shAt d.sh i) = true) ∧ Hid (Bk wr w.heap.size 26 [.slice sa sn sc, .slice da dn dc]) ∧ Hid (Below w.heap.size w wr)) (fun i _ => sn - (intOf i).toNat)
      case atStart => exact ⟨0, Nat.zero_le _, rfl, fun i hi => absurd hi (Nat.not_lt_zero _), KP.out, HB0.out⟩
      case round =>
        obtain ⟨k, hk, rfl, HT, HK, HB⟩ := hrel
        clear KP HB0
        by_cases hlt : k < sn
        · have hlt' : (k : Int) < (sn : Int) := by omega
          obtain ⟨b, off, rfl, _, hbw, hcell⟩ := (HS.out.below HB.out).at (by omega)
          obtain ⟨ap, np, cp, m0, hp⟩ := hcell k hlt
          have hkl : k < d.sh.length := by rw [← HNS.out]; exact hlt
          have HB1 : Hid (Below w.heap.size w (wr.alloc (.cells #[.slice ap np cp] 40))) := HB.out.alloc HB.out.size _
          have HK1 := hid (HK.out.alloc (.cells #[.slice ap np cp] 40))
          have HC := hid (shtOk_any ap np cp (shAt d.sh k) (wr.alloc (.cells #[.slice ap np cp] 40)) hp.len.1 (by have := hp.len.2; omega))
          have HT1 : Hid (shtOk (shAt d.sh k) = true → ∀ i, i < k + 1 → shtOk (shAt d.sh i) = true) := by
            intro hh i hi
            by_cases e : i = k
            · subst e; exact hh
            · exact HT.out i (by omega)
          have HF : Hid (shtOk (shAt d.sh k) = false → dkOk d = false) := fun e => dk_no_sheet hkl (by rw [e]; exact Bool.false_ne_true)
          clear hcell hbw hp hkl HT
          generalize shtOk (shAt d.sh k) = Z at *
          go_wp2_with fail
          refine HC.out.mono ?_
          rintro e w1 ⟨rfl, rfl⟩
          cases Z with
          | true =>
            have HT2 := hid (HT1.out rfl)
            clear HT1 HF
            go_wp2
            go_roundw
            case rel => exact ⟨k + 1, by omega, by go_num, HT2.out, HK1.out, HB1.out⟩
            case measure => simp [intOf]; omega
          | false =>
            have HF2 := hid (HF.out rfl)
            clear HT1 HF
            go_wp2
            go_ret
            exact ⟨by rw [HF2.out]; rfl, HB1.out⟩
        · have hkn : k = sn := by omega
          have HT0 : Hid (∀ i, i < d.sh.length → shtOk (shAt d.sh i) = true) := by rw [← HNS.out, ← hkn]; exact HT.out
          clear HT hkn
          have c1 := HK.out.cell (j := 1) rfl
          go_wp2_with fail
          clear c1
          go_loopw [35] (fun i wr => ∃ k : Nat, k ≤ dn ∧ i = .int .i64 k ∧ Hid (∀ i, i < k → wrtOk d.sh.length (dwAt d.dw i) = true) ∧ Hid (Below w.heap.size w wr)) (fun i _ => dn - (intOf i).toNat)
          case atStart => exact ⟨0, Nat.zero_le _, rfl, fun i hi => absurd hi (Nat.not_lt_zero _), HB.out⟩
          case round =>
            clear HK HB
            obtain ⟨j, hj, rfl, HT, HB⟩ := hrel
            by_cases hlt : j < dn
            · have hlt' : (j : Int) < (dn : Int) := by omega
              obtain ⟨b, off, rfl, _, hbw, hcell⟩ := (HD.out.below HB.out).at (by omega)
              obtain ⟨ap, np, cp, mt, m0, hp⟩ := hcell j hlt
              have hkl : j < d.dw.length := by rw [← HND.out]; exact hlt
              generalize htt : (dwAt d.dw j).1 = tt at *
              have HB1 : Hid (Below w.heap.size w (wr.alloc (.cells #[.int .i64 tt, .slice ap np cp] 43))) := HB.out.alloc HB.out.size _
              have HC := hid (writeOk_any tt ap np cp (dwAt d.dw j).2 sn (wr.alloc (.cells #[.int .i64 tt, .slice ap np cp] 43)) hp.len.1 (by have := hp.len.2; omega))
              have hpe : (tt, (dwAt d.dw j).2) = dwAt d.dw j := by rw [← htt]
              rw [hpe, HNS.out] at HC
              have HT1 : Hid (wrtOk d.sh.length (dwAt d.dw j) = true → ∀ i, i < j + 1 → wrtOk d.sh.length (dwAt d.dw i) = true) := by
                intro hh i hi
                by_cases e : i = j
                · subst e; exact hh
                · exact HT.out i (by omega)
              have HF : Hid (wrtOk d.sh.length (dwAt d.dw j) = false → dkOk d = false) := fun e => dk_no_write hkl (by rw [e]; exact Bool.false_ne_true)
              rw [← HNS.out] at HC
              clear hcell hbw hp htt hpe HT hkl
              rw [HNS.out] at HC
              generalize wrtOk d.sh.length (dwAt d.dw j) = Z at *
              rw [← HNS.out] at HC
              go_wp2_with fail
              refine HC.out.mono ?_
              rintro e w1 ⟨rfl, hb1⟩
              have HB2 := hid (HB1.out.trans (hb1.mono HB1.out.size))
              clear hb1
              cases Z with
              | true =>
                have HT2 := hid (HT1.out rfl)
                clear HT1 HF
                go_wp2
                go_roundw
                case rel => exact ⟨j + 1, by omega, by go_num, HT2.out, HB2.out⟩
                case measure => simp [intOf]; omega
              | false =>
                have HF2 := hid (HF.out rfl)
                clear HT1 HF
                go_wp2
                go_ret
                exact ⟨by rw [HF2.out]; rfl, HB2.out⟩
            · have hjn : j = dn := by omega
              have HF : Hid (dkOk d = true) := (dkOk_iff d).2 ⟨HQ.out.1, HQ.out.2.1, HQ.out.2.2, HT0.out, by rw [← HND.out, ← hjn]; exact HT.out⟩
              clear HT HT0 hjn
              go_wp2
              go_ret
              exact ⟨by rw [HF.out]; rfl, HB.out⟩
end Go.Proofs.YtcpdedpgjaimkaaDoor
/-
  What the law's helpers do with disks: copied, sizes summed.
-/
namespace Go.Proofs.YtcpdedpgjaimkaaDoor
open Go.RowKit
theorem load_sht {w : World} {g : Nat} {x : Value} (c0 : w.cell? ⟨g, 0, none⟩ = some x) : (loadVar 40 ⟨g, 0, none⟩).run Tryd.prog w = .ok (.agg #[x]) w := by go_simp
theorem results_sht {fn : Func} {p : Tmp} (h : fn.results = #[.cell p 40]) (tmps : Array Value) (w : World) (g : Nat) {x : Value} (hp : tmps.getD p undef = .pointer (some ⟨g, 0, none⟩))
    (c0 : w.cell? ⟨g, 0, none⟩ = some x) : (results fn tmps).run Tryd.prog w = .ok (.agg #[x]) w := by
  have hp' : tmps[p]?.getD undef = .pointer (some ⟨g, 0, none⟩) := by simpa using hp
  simp [results, h, hp', asAddr, load_sht c0]
theorem load_wrt {w : World} {g : Nat} {x y : Value} (c0 : w.cell? ⟨g, 0, none⟩ = some x) (c1 : w.cell? ⟨g, 1, none⟩ = some y) : (loadVar 43 ⟨g, 0, none⟩).run Tryd.prog w = .ok (.agg #[x, y]) w := by go_simp
theorem results_wrt {fn : Func} {p : Tmp} (h : fn.results = #[.cell p 43]) (tmps : Array Value) (w : World) (g : Nat) {x y : Value} (hp : tmps.getD p undef = .pointer (some ⟨g, 0, none⟩))
    (c0 : w.cell? ⟨g, 0, none⟩ = some x) (c1 : w.cell? ⟨g, 1, none⟩ = some y) : (results fn tmps).run Tryd.prog w = .ok (.agg #[x, y]) w := by
  have hp' : tmps[p]?.getD undef = .pointer (some ⟨g, 0, none⟩) := by simpa using hp
  simp [results, h, hp', asAddr, load_wrt c0 c1]
theorem load_dsk {w : World} {g : Nat} {x y : Value} (c0 : w.cell? ⟨g, 0, none⟩ = some x) (c1 : w.cell? ⟨g, 1, none⟩ = some y) : (loadVar 26 ⟨g, 0, none⟩).run Tryd.prog w = .ok (.agg #[x, y]) w := by go_simp
theorem results_dsk {fn : Func} {p : Tmp} (h : fn.results = #[.cell p 26]) (tmps : Array Value) (w : World) (g : Nat) {x y : Value} (hp : tmps.getD p undef = .pointer (some ⟨g, 0, none⟩))
    (c0 : w.cell? ⟨g, 0, none⟩ = some x) (c1 : w.cell? ⟨g, 1, none⟩ = some y) : (results fn tmps).run Tryd.prog w = .ok (.agg #[x, y]) w := by
  have hp' : tmps[p]?.getD undef = .pointer (some ⟨g, 0, none⟩) := by simpa using hp
  simp [results, h, hp', asAddr, load_dsk c0 c1]
theorem infoSheetI : (Tryd.prog.info? 40).map (fun i => (i.zero, i.size, i.bytes)) = some (some (.agg #[.slice none 0 0]), 1, 24) := by kernel_rfl
theorem infoWriteI : (Tryd.prog.info? 43).map (fun i => (i.zero, i.size, i.bytes)) = some (some (.agg #[.int .i64 0, .slice none 0 0]), 2, 32) := by kernel_rfl
theorem made_sheets (n : Nat) : madeCells (Value.agg #[.slice none 0 0]).cells (n * 1) = (List.replicate n (Value.slice none 0 0)).toArray := by
  apply Array.ext
  · simp [madeCells]
  · intro i h1 h2; simp [madeCells, Value.cells, Nat.mod_one]
theorem made_writes (n : Nat) : madeCells (Value.agg #[.int .i64 0, .slice none 0 0]).cells (n * 2) = (wcs (List.replicate n (0, .slice none 0 0))).toArray := by
  apply Array.ext
  · simp [madeCells, wcs_length]
  · intro i h1 h2
    simp [wcs_length] at h2
    simp only [madeCells, List.getElem_toArray]
    obtain ⟨c0, c1⟩ := wcs_at (List.replicate n ((0, .slice none 0 0) : Int × Value)) (i / 2) (by simp; omega)
    simp [xAt, show i / 2 < n by omega] at c0 c1
    have : i % 2 = 0 ∨ i % 2 = 1 := by omega
    rcases this with e | e
    · rw [show i / 2 * 2 = i by omega] at c0
      rw [(List.getElem?_eq_some_iff.1 c0).2]
      simp [Value.cells, e]
    · rw [show i / 2 * 2 + 1 = i by omega] at c1
      rw [(List.getElem?_eq_some_iff.1 c1).2]
      simp [Value.cells, e]
end Go.Proofs.YtcpdedpgjaimkaaDoor
/-
  What the law's helpers do with disks: copied whole.
-/
namespace Go.Proofs.YtcpdedpgjaimkaaDoor
open Go.RowKit
set_option linter.unusedVariables false
/-- Of the byte lists behind a row's cells the first k are there, each its own and apart. -/
structure SL (w : World) (B k : Nat) (V : List Value) (ss : List (List Int)) : Prop where
  own : ∀ i, i < k → Ob w B (uAt V i) (shAt ss i) ∧ byt (shAt ss i)
  apart : ∀ i j, i < k → j < k → i ≠ j → ∀ y, (uAt V i).ownBlock = some y → (uAt V j).ownBlock ≠ some y
theorem sl_zero (w : World) (B : Nat) (V : List Value) (ss : List (List Int)) : SL w B 0 V ss := ⟨fun i hi => absurd hi (Nat.not_lt_zero _), fun i j hi => absurd hi (Nat.not_lt_zero _)⟩
theorem SL.put {w w1 w2 : World} {B k g0 : Nat} {V : List Value} {ss : List (List Int)} {p : Value} (h : SL w B k V ss) (hb : Below w.heap.size w w1) (hp : Ob w1 w.heap.size p (shAt ss k)) (hby : byt (shAt ss k)) (o : Only (fun y => y = g0) w1 w2) (hg : g0 < B) (hB : B ≤ w.heap.size) (hk : k < V.length) : SL w2 B (k + 1) (V.set k p) ss := by
  have hnew : ∀ y, p.ownBlock = some y → w.heap.size ≤ y := fun y e => (World.ownsRow.lt hp y e).1
  have hold : ∀ i, i < k → ∀ y, (uAt V i).ownBlock = some y → B ≤ y ∧ y < w.heap.size := fun i hi y e => World.ownsRow.lt (h.own i hi).1 y e
  refine ⟨fun i hi => ?_, fun i j hi hj hij y hy hz => ?_⟩
  · by_cases e : i = k
    · subst e
      rw [uAt_set hk]
      exact ⟨ownD_base (own_kept hp o (fun y e e2 => by have := hnew y e; omega)) hB, hby⟩
    · rw [uAt_other e]
      exact ⟨own_kept (own_kept (h.own i (by omega)).1 (only_of_below hb (fun _ => False)) (fun _ _ h => h)) o (fun y e e2 => by have := (hold i (by omega) y e).1; omega), (h.own i (by omega)).2⟩
  · by_cases e : i = k
    · subst e
      rw [uAt_set hk] at hy
      rw [uAt_other (Ne.symm hij)] at hz
      have := hnew y hy
      have := (hold j (by omega) y hz).2
      omega
    · rw [uAt_other e] at hy
      by_cases e2 : j = k
      · subst e2
        rw [uAt_set hk] at hz
        have := hnew y hz
        have := (hold i (by omega) y hy).2
        omega
      · rw [uAt_other e2] at hz
        exact h.apart i j (by omega) (by omega) hij y hy hz
theorem SL.so {w : World} {B g n : Nat} {V : List Value} {ss : List (List Int)} (h : SL w B n V ss) (hn : n = ss.length) (hl : V.length = n) (hk : Bk w g 40 V) (hg : g < B) (hn2 : n ≤ 1048576) : SOw w g (.slice (some ⟨g, 0, none⟩) n n) V ss := by
  subst hn
  refine ⟨hl, bk_own hk (by omega) hn2 (Nat.le_refl _), fun i hi => ⟨ownD_base (h.own i hi).1 (by omega), (h.own i hi).2⟩, h.apart, fun i hi y hy e => ?_⟩
  have := (World.ownsRow.lt (h.own i hi).1 y hy).1
  have e' : g = y := by simpa [Value.ownBlock] using e
  omega
theorem uAt_map (U : List (Int × Value)) (i : Nat) : uAt (U.map Prod.snd) i = (xAt U i).2 := by
  simp only [uAt, xAt, List.getElem?_map]
  cases U[i]? <;> rfl
theorem shAt_map (ds : List DW) (i : Nat) : shAt (ds.map Prod.snd) i = (dwAt ds i).2 := by
  simp only [shAt, dwAt, List.getElem?_map]
  cases ds[i]? <;> rfl
theorem SL.wo {w : World} {B g n : Nat} {U : List (Int × Value)} {ds : List DW} (h : SL w B n (U.map Prod.snd) (ds.map Prod.snd)) (ht : ∀ i, i < n → (xAt U i).1 = (dwAt ds i).1) (hn : n = ds.length) (hl : U.length = n) (hk : Bk w g 43 (wcs U)) (hg : g < B) (hn2 : n ≤ 1048576) : WO w g (.slice (some ⟨g, 0, none⟩) n n) U ds := by
  subst hn
  refine ⟨hl, bk_own hk (by rw [wcs_length, hl]) hn2 (Nat.le_refl _), fun i hi => ?_, fun i j hi hj hij y hy => ?_, fun i hi y hy e => ?_⟩
  · have := h.own i hi
    rw [uAt_map, shAt_map] at this
    exact ⟨ht i hi, ownD_base this.1 (by omega), this.2⟩
  · have := h.apart i j hi hj hij y
    rw [uAt_map, uAt_map] at this
    exact this hy
  · have := (h.own i hi).1
    rw [uAt_map] at this
    have := (World.ownsRow.lt this y hy).1
    have e' : g = y := by simpa [Value.ownBlock] using e
    omega
end Go.Proofs.YtcpdedpgjaimkaaDoor
/-
  What the law's helpers do with slices of nodes and with trees.
-/
namespace Go.Proofs.YtcpdedpgjaimkaaDoor
open Go.RowKit

def smallN (ns : List NB) : Prop := ∀ i, i < ns.length → (nAt ns i).ps.length ≤ 1048576 ∧ (nAt ns i).keys.length ≤ 1048576 ∧ (nAt ns i).kids.length ≤ 1048576
theorem N1.grow {w w' : World} {B : Nat} {p : V3} {x : NB} (h : N1 w (fun b => B < b ∧ Uf w b) p x) (ho : Only (fun b => b = B) w w') : N1 w' (fun b => B < b ∧ Uf w' b) p x :=
  (h.to ho (fun b hb _ e => by have := hb.1; omega)).mono (fun b hb _ => ⟨hb.1, hb.2.to ho (by have := hb.1; omega)⟩)
theorem N1.fresh {w : World} {B g0 g1 g2 : Nat} {x : NB} {np nx ni : Nat} (h0 : B < g0) (h1 : B < g1) (h2 : B < g2) (k0 : Bk w g0 91 (pcs x.ps)) (k1 : Bk w g1 9 (x.keys.map Value.string)) (k2 : Bk w g2 3 (x.kids.map (Value.int .i64)))
    (l0 : np = x.ps.length) (l1 : nx = x.keys.length) (l2 : ni = x.kids.length) (b0 : np ≤ 1048576) (b1 : nx ≤ 1048576) (b2 : ni ≤ 1048576) :
    N1 w (fun b => B < b ∧ Uf w b) (.slice (some ⟨g0, 0, none⟩) np np, .slice (some ⟨g1, 0, none⟩) nx nx, .slice (some ⟨g2, 0, none⟩) ni ni) x := by
  refine ⟨k0.pr l0 (by omega) _ ⟨h0, k0.uf⟩, ?_, ?_⟩
  · subst l1
    exact k1.rw (Nat.le_refl _) (by omega) (fun e => by rw [List.eq_nil_of_length_eq_zero e]; rfl) _ ⟨h1, k1.uf⟩
  · subst l2
    exact k2.rw (Nat.le_refl _) (by omega) (fun e => by rw [List.eq_nil_of_length_eq_zero e]; rfl) _ ⟨h2, k2.uf⟩
theorem vAt_set (V : List V3) (j : Nat) (p : V3) (h : j < V.length) : vAt (V.set j p) j = p := by simp [vAt, h]
theorem vAt_other (V : List V3) (j i : Nat) (p : V3) (h : i ≠ j) : vAt (V.set j p) i = vAt V i := by simp [vAt, Ne.symm h]
theorem infoNodeI : (Tryd.prog.info? 112).map (fun i => (i.zero, i.size, i.bytes)) = some (some (.agg #[.slice none 0 0, .slice none 0 0, .slice none 0 0]), 3, 72) := by kernel_rfl
theorem made_nodes (n : Nat) : madeCells (Value.agg #[.slice none 0 0, .slice none 0 0, .slice none 0 0]).cells (n * 3) = (ncs (List.replicate n (.slice none 0 0, .slice none 0 0, .slice none 0 0))).toArray := by
  apply Array.ext
  · simp [madeCells, ncs_length]
  · intro i h1 h2
    simp [ncs_length] at h2
    simp only [madeCells, List.getElem_toArray]
    have h3 : (ncs (List.replicate n ((.slice none 0 0, .slice none 0 0, .slice none 0 0) : V3)))[i]? = some (.slice none 0 0) := by
      obtain ⟨c0, c1, c2⟩ := ncs_at (List.replicate n ((.slice none 0 0, .slice none 0 0, .slice none 0 0) : V3)) (i / 3) (by simp; omega)
      simp [vAt, show i / 3 < n by omega] at c0 c1 c2
      have : i % 3 = 0 ∨ i % 3 = 1 ∨ i % 3 = 2 := by omega
      rcases this with e | e | e
      · rw [show i / 3 * 3 = i by omega] at c0; exact c0
      · rw [show i / 3 * 3 + 1 = i by omega] at c1; exact c1
      · rw [show i / 3 * 3 + 2 = i by omega] at c2; exact c2
    have h4 := List.getElem?_eq_some_iff.1 h3
    rw [h4.2]
    have : i % 3 = 0 ∨ i % 3 = 1 ∨ i % 3 = 2 := by omega
    rcases this with e | e | e <;> simp [Value.cells, e]
end Go.Proofs.YtcpdedpgjaimkaaDoor
/-
  Nodes and trees held against each other.
-/
namespace Go.Proofs.YtcpdedpgjaimkaaDoor
open Go.RowKit
end Go.Proofs.YtcpdedpgjaimkaaDoor
/-
  Disks in the law's helpers: sizes summed, held against each other.
-/
namespace Go.Proofs.YtcpdedpgjaimkaaDoor
open Go.RowKit
set_option linter.unusedVariables false
/-- How many bytes the first k lists have. -/
def offS (ss : List (List Int)) : Nat → Nat
  | 0 => 0
  | k + 1 => offS ss k + (shAt ss k).length
theorem offS_mono (ss : List (List Int)) {i n : Nat} (h : i ≤ n) : offS ss i ≤ offS ss n := by
  induction n with
  | zero => obtain rfl : i = 0 := by omega
            exact Nat.le_refl _
  | succ n ih =>
    by_cases e : i = n + 1
    · subst e; exact Nat.le_refl _
    · exact Nat.le_trans (ih (by omega)) (Nat.le_add_right _ _)
theorem offS_at (ss : List (List Int)) {i n : Nat} (h : i < n) : (shAt ss i).length ≤ offS ss n := by
  have := offS_mono ss (show i + 1 ≤ n by omega)
  simp only [offS] at this
  omega
/-- How much there is of a disk. -/
def dkSum (d : DK) : Nat := d.sh.length + offS d.sh d.sh.length + d.dw.length + offS (d.dw.map Prod.snd) d.dw.length
theorem small_of_sum {d : DK} (h : dkSum d ≤ 1048576) : smallD d ∧ d.sh.length ≤ 1048576 ∧ d.dw.length ≤ 1048576 := by
  unfold dkSum at h
  refine ⟨⟨fun i hi => ?_, fun i hi => ?_⟩, by omega, by omega⟩
  · have := offS_at d.sh hi; omega
  · have := offS_at (d.dw.map Prod.snd) hi; rw [shAt_map] at this; omega
end Go.Proofs.YtcpdedpgjaimkaaDoor
/-
  Plain mathematics: the digits of a number to the base 128, and how a number is read from bytes.
-/
namespace Go.Proofs.YtcpdedpgjaimkaaDoor

/-- The digits of n, the lowest first, each but the last with 128 added; f of them at most before the last. -/
def encF : Nat → Int → List Int
  | 0, n => [n]
  | f + 1, n => if 128 ≤ n then (128 + n % 128) :: encF f (n / 128) else [n]
def enc (n : Int) : List Int := encF 6 n
/-- What f digits and one more can hold. -/
def bnd : Nat → Int
  | 0 => 128
  | f + 1 => 128 * bnd f

theorem bnd_pos (f : Nat) : 128 ≤ bnd f := by
  induction f with
  | zero => simp [bnd]
  | succ f ih => simp only [bnd]; omega
theorem encF_small (f : Nat) (n : Int) (h : n < 128) : encF f n = [n] := by
  cases f with
  | zero => rfl
  | succ f => simp only [encF]; rw [if_neg (by omega)]
theorem encF_big (f : Nat) (n : Int) (h : 128 ≤ n) : encF (f + 1) n = (128 + n % 128) :: encF f (n / 128) := by
  simp only [encF]; rw [if_pos h]
theorem bnd_down (f : Nat) (n : Int) (h : n < bnd (f + 1)) : n / 128 < bnd f := by
  simp only [bnd] at h
  omega
theorem encF_byte (f : Nat) : ∀ n : Int, 0 ≤ n → n < bnd f → ∀ z ∈ encF f n, 0 ≤ z ∧ z ≤ 255 := by
  induction f with
  | zero =>
    intro n h0 h1 z hz
    simp [encF] at hz
    simp [bnd] at h1
    omega
  | succ f ih =>
    intro n h0 h1 z hz
    by_cases h : 128 ≤ n
    · rw [encF_big f n h] at hz
      rcases List.mem_cons.1 hz with e | e
      · omega
      · exact ih (n / 128) (by omega) (bnd_down f n h1) z e
    · rw [encF_small _ n (by omega)] at hz
      simp at hz
      omega
theorem encF_len (f : Nat) : ∀ n : Int, 1 ≤ (encF f n).length ∧ (encF f n).length ≤ f + 1 := by
  induction f with
  | zero => intro n; simp [encF]
  | succ f ih =>
    intro n
    by_cases h : 128 ≤ n
    · rw [encF_big f n h]
      have := ih (n / 128)
      simp; omega
    · rw [encF_small _ n (by omega)]
      simp
theorem enc_byte (n : Int) (h0 : 0 ≤ n) (h1 : n ≤ 1099511627775) : ∀ z ∈ enc n, 0 ≤ z ∧ z ≤ 255 := encF_byte 6 n h0 (by simp [bnd]; omega)
theorem enc_len (n : Int) : 1 ≤ (enc n).length ∧ (enc n).length ≤ 7 := encF_len 6 n

theorem byte_at {zs : List Int} (h : ∀ z ∈ zs, 0 ≤ z ∧ z ≤ 255) (i : Nat) : 0 ≤ zs[i]?.getD 0 ∧ zs[i]?.getD 0 ≤ 255 := by
  by_cases hi : i < zs.length
  · have := h zs[i] (List.getElem_mem hi)
    simpa [hi] using this
  · have : zs[i]? = none := List.getElem?_eq_none (by omega)
    simp [this]
theorem at_byte {zs : List Int} (h : ∀ i : Nat, 0 ≤ zs[i]?.getD 0 ∧ zs[i]?.getD 0 ≤ 255) : ∀ z ∈ zs, 0 ≤ z ∧ z ≤ 255 := by
  intro z hz
  obtain ⟨i, hi, rfl⟩ := List.getElem_of_mem hz
  have := h i
  simpa [hi] using this
theorem byte_append {xs ys : List Int} (hx : ∀ z ∈ xs, 0 ≤ z ∧ z ≤ 255) (hy : ∀ z ∈ ys, 0 ≤ z ∧ z ≤ 255) : ∀ z ∈ xs ++ ys, 0 ≤ z ∧ z ≤ 255 := by
  intro z hz
  rcases List.mem_append.1 hz with h | h
  · exact hx z h
  · exact hy z h

/-- What PutVar answers: the bytes, where the number is one and the bytes are not too many. -/
def pv (zs : List Int) (n : Int) : Option (List Int) := if (0 ≤ n ∧ n ≤ 1099511627775) ∧ (zs ++ enc n).length ≤ 4096 then some (zs ++ enc n) else none
theorem pv_bad (zs : List Int) (n : Int) (h : n < 0 ∨ 1099511627775 < n) : pv zs n = none := by
  unfold pv; rw [if_neg (by omega)]
theorem pv_long (zs : List Int) (n : Int) (h : 4096 < (zs ++ enc n).length) : pv zs n = none := by
  unfold pv; rw [if_neg (by omega)]
theorem pv_ok (zs : List Int) (n : Int) (h0 : 0 ≤ n) (h1 : n ≤ 1099511627775) (h : (zs ++ enc n).length ≤ 4096) : pv zs n = some (zs ++ enc n) := by
  unfold pv; rw [if_pos ⟨⟨h0, h1⟩, h⟩]

/-- The weight of the digit that f more may follow, up to six digits. -/
def uOf : Nat → Int
  | 0 => 4398046511104
  | 1 => 34359738368
  | 2 => 268435456
  | 3 => 2097152
  | 4 => 16384
  | 5 => 128
  | _ => 1
theorem uOf_next (f : Nat) (h : f < 6) : uOf (f + 1) * 128 = uOf f := by
  match f, h with
  | 0, _ => rfl
  | 1, _ => rfl
  | 2, _ => rfl
  | 3, _ => rfl
  | 4, _ => rfl
  | 5, _ => rfl
theorem uOf_le (f : Nat) (h : 0 < f) : 1 ≤ uOf f ∧ uOf f ≤ 34359738368 := by
  match f, h with
  | 1, _ => simp [uOf]
  | 2, _ => simp [uOf]
  | 3, _ => simp [uOf]
  | 4, _ => simp [uOf]
  | 5, _ => simp [uOf]
  | n + 6, _ => simp [uOf]
theorem uOf_one (f : Nat) (h : 0 < f) (h6 : f ≤ 6) : 1 < uOf f ↔ f < 6 := by
  match f, h, h6 with
  | 1, _, _ => simp [uOf]
  | 2, _, _ => simp [uOf]
  | 3, _, _ => simp [uOf]
  | 4, _, _ => simp [uOf]
  | 5, _, _ => simp [uOf]
  | 6, _, _ => simp [uOf]

/-- Reading on at place k: n is what is read, u the weight of the next digit, f how many digits may come. -/
def gvGo : Nat → List Int → Nat → Int → Int → Int × Int
  | 0, _, _, _, _ => (0, -1)
  | f + 1, zs, k, n, u =>
    if k < zs.length then
      if 128 ≤ zs[k]?.getD 0 then gvGo f zs (k + 1) (n + (zs[k]?.getD 0 - 128) * u) (u * 128)
      else if 1099511627775 < n + zs[k]?.getD 0 * u ∨ (zs[k]?.getD 0 = 0 ∧ 1 < u) then (0, -1) else (n + zs[k]?.getD 0 * u, (k : Int) + 1)
    else (0, -1)
/-- What GetVar answers. -/
def gv (zs : List Int) (at' : Int) : Int × Int := if at' < 0 then (0, -1) else gvGo 6 zs at'.toNat 0 1
theorem gvGo_end (f : Nat) (zs : List Int) (k : Nat) (n u : Int) (h : zs.length ≤ k) : gvGo f zs k n u = (0, -1) := by
  cases f with
  | zero => rfl
  | succ f => simp only [gvGo]; rw [if_neg (by omega)]
theorem gvGo_more (f : Nat) (zs : List Int) (k : Nat) (n u : Int) (h : k < zs.length) (hd : 128 ≤ zs[k]?.getD 0) : gvGo (f + 1) zs k n u = gvGo f zs (k + 1) (n + (zs[k]?.getD 0 - 128) * u) (u * 128) := by
  simp only [gvGo]; rw [if_pos h, if_pos hd]
theorem gvGo_bad (f : Nat) (zs : List Int) (k : Nat) (n u : Int) (h : k < zs.length) (hd : zs[k]?.getD 0 < 128) (hb : 1099511627775 < n + zs[k]?.getD 0 * u ∨ (zs[k]?.getD 0 = 0 ∧ 1 < u)) : gvGo (f + 1) zs k n u = (0, -1) := by
  simp only [gvGo]; rw [if_pos h, if_neg (by omega), if_pos hb]
theorem gvGo_good (f : Nat) (zs : List Int) (k : Nat) (n u : Int) (h : k < zs.length) (hd : zs[k]?.getD 0 < 128) (hb : ¬ (1099511627775 < n + zs[k]?.getD 0 * u ∨ (zs[k]?.getD 0 = 0 ∧ 1 < u))) : gvGo (f + 1) zs k n u = (n + zs[k]?.getD 0 * u, (k : Int) + 1) := by
  simp only [gvGo]; rw [if_pos h, if_neg (by omega), if_neg hb]

/-- How many bytes a code has. -/
theorem encF_length_eq : ∀ (j f : Nat) (n : Int), 0 ≤ n → j ≤ f → ((encF f n).length = j + 1 ↔ ((j = 0 ∨ bnd (j - 1) ≤ n) ∧ (n < bnd j ∨ j = f))) := by
  intro j
  induction j with
  | zero =>
    intro f n h0 hj
    cases f with
    | zero => simp [encF]
    | succ f =>
      by_cases h : 128 ≤ n
      · rw [encF_big f n h]
        have := encF_len f (n / 128)
        have hb : bnd 0 = 128 := rfl
        simp only [List.length_cons]
        omega
      · rw [encF_small _ n (by omega)]
        simp [bnd]; omega
  | succ j ih =>
    intro f n h0 hj
    cases f with
    | zero => omega
    | succ f =>
      by_cases h : 128 ≤ n
      · rw [encF_big f n h]
        have e := ih f (n / 128) (by omega) (by omega)
        simp only [List.length_cons, Nat.add_right_cancel_iff] at e ⊢
        rw [e]
        cases j with
        | zero => simp [bnd]; omega
        | succ j =>
          simp only [bnd, Nat.add_sub_cancel]
          omega
      · rw [encF_small _ n (by omega)]
        have := bnd_pos j
        simp; omega

end Go.Proofs.YtcpdedpgjaimkaaDoor
/-
  What the law's helpers markByteS and heldByteS do: the one writes marks into every byte of a slice and nowhere else; the other finds them all.
-/
namespace Go.Proofs.YtcpdedpgjaimkaaDoor
open Go.RowKit

/-- The marks that are written from k on. -/
def marks (k : Int) (n : Nat) : List Int := (List.range n).map fun i : Nat => (k + (i : Int)) % 256
theorem marks_len (k : Int) (n : Nat) : (marks k n).length = n := by simp [marks]
theorem marks_at (k : Int) (n i : Nat) (h : i < n) : (marks k n)[i]?.getD 0 = (k + (i : Int)) % 256 := by simp [marks, h]
theorem marks_byte (k : Int) (n : Nat) : ∀ i : Nat, 0 ≤ (marks k n)[i]?.getD 0 ∧ (marks k n)[i]?.getD 0 ≤ 255 := by
  intro i
  by_cases h : i < n
  · rw [marks_at k n i h]; omega
  · rw [List.getElem?_eq_none (by rw [marks_len]; omega)]; simp

/-- The slice's cells may be written. -/
def Wb (w : World) (a : Option Addr) (n : Nat) : Prop := ∀ x, a = some x → ∀ i, i < n → w.frozen? ⟨x.block, x.off + i, none⟩ = false
theorem wb_new (w : World) (cs : Array Value) (t : TypeId) (n : Nat) : Wb (w.alloc (.cells cs t)) (some ⟨w.heap.size, 0, none⟩) n := by
  intro x hx i _
  cases hx
  exact World.frozen?_alloc_at (hn := rfl) ..
theorem Ob.wb {w : World} {B : Nat} {v : Value} {zs : List Int} (h : Ob w B v zs) {a : Option Addr} {n c : Nat} (hv : v = .slice a n c) (m : Nat) : Wb w a m := by
  intro x hx i _
  rcases h.2 with ⟨rfl, h0⟩ | ⟨g, cap, cur, rfl, hbg, hg, hnc, hcm, hcs, htake⟩
  · cases hv; cases hx
  · cases hv; cases hx
    simp [World.frozen?, hg]
theorem Wb.grown {w w' : World} {a : Option Addr} {n : Nat} {row : Option Nat} (h : Wb w a n) (hg : w.grownBy w' row) (hlt : ∀ x, a = some x → 0 < n → x.block < w.heap.size ∧ some x.block ≠ row) : Wb w' a n := by
  intro x hx i hi
  obtain ⟨h1, h2⟩ := hlt x hx (by omega)
  rw [World.frozen?_of_block (w := w) (a := ⟨x.block, x.off + i, none⟩) (hg.block x.block h1 h2)]
  exact h x hx i hi
theorem Wb.below {w w' : World} {B : Nat} {a : Option Addr} {n : Nat} (h : Wb w a n) (hB : Below B w w') (hlt : ∀ x, a = some x → 0 < n → x.block < B) : Wb w' a n := by
  intro x hx i hi
  rw [hB.frozen (p := ⟨x.block, x.off + i, none⟩) (hlt x hx (by omega))]
  exact h x hx i hi
theorem Rd.grown {w w' : World} {a : Option Addr} {n c : Nat} {zs : List Int} {row : Option Nat} (h : Rd w a n c zs) (hg : w.grownBy w' row) (hne : ∀ x, a = some x → some x.block ≠ row) : Rd w' a n c zs := by
  obtain ⟨h1, h2, h3, h30, h4, h5⟩ := h
  refine ⟨h1, h2, h3, h30, h4, fun hp => ?_⟩
  obtain ⟨b, off, rfl, hb, hc⟩ := h5 hp
  refine ⟨b, off, rfl, Nat.lt_of_lt_of_le hb hg.size, fun i hi => ?_⟩
  rw [World.cell?_of_block (w := w) (a := ⟨b, off + i, none⟩) (hg.block b hb (hne _ rfl))]
  exact hc i hi
theorem grownBy_refl (w : World) (row : Option Nat) : w.grownBy w row := ⟨rfl, rfl, rfl, Nat.le_refl _, fun _ _ _ => rfl⟩
theorem grownBy_setCell {w w' : World} {b : Nat} (h : w.grownBy w' (some b)) (o : Nat) (v : Value) : w.grownBy (w'.setCell ⟨b, o, none⟩ v) (some b) :=
  ⟨h.os, h.tape, h.output, by simp [World.setCell]; exact h.size, fun k hk hne => by rw [Below.heap_setCell _ _ _ _ (fun e => hne (by rw [e]))]; exact h.block k hk hne⟩

end Go.Proofs.YtcpdedpgjaimkaaDoor
/-
  The law's helpers that write marks into a disk and look whether they are still there.
-/
namespace Go.Proofs.YtcpdedpgjaimkaaDoor
open Go.RowKit
set_option linter.unusedVariables false
def offW (ds : List DW) : Nat → Nat
  | 0 => 0
  | k + 1 => offW ds k + 1 + (dwAt ds k).2.length
theorem offW_eq (ds : List DW) (k : Nat) : offW ds k = offS (ds.map Prod.snd) k + k := by
  induction k with
  | zero => rfl
  | succ k ih => simp only [offW, offS, shAt_map, ih]; omega
theorem offW_mono (ds : List DW) {i n : Nat} (h : i ≤ n) : offW ds i ≤ offW ds n := by
  rw [offW_eq, offW_eq]
  have := offS_mono (ds.map Prod.snd) h
  omega
theorem offW_at (ds : List DW) {i n : Nat} (h : i < n) : offW ds i + 1 + (dwAt ds i).2.length ≤ offW ds n := offW_mono ds (show i + 1 ≤ n by omega)
/-- How many marks a disk takes. -/
def dkTot (d : DK) : Nat := offS d.sh d.sh.length + offW d.dw d.dw.length
theorem tot_of_sum {d : DK} (h : dkSum d ≤ 1048576) : dkTot d ≤ 4194304 := by
  unfold dkSum at h
  unfold dkTot
  rw [offW_eq]
  omega
theorem ownBlock_map (a : Option Addr) (n c : Nat) : (Value.slice a n c).ownBlock = a.map (·.block) := by cases a <;> rfl
theorem Rd.toD {w w' : World} {R : Nat → Prop} {a : Option Addr} {n c : Nat} {zs : List Int} (h : Rd w a n c zs) (ho : Only R w w') (hR : ∀ y, (Value.slice a n c).ownBlock = some y → ¬ R y) : Rd w' a n c zs := by
  obtain ⟨h1, h2, h3, h30, h4, h5⟩ := h
  refine ⟨h1, h2, h3, h30, h4, fun hp => ?_⟩
  obtain ⟨b, off, rfl, hb, hc⟩ := h5 hp
  refine ⟨b, off, rfl, Nat.lt_of_lt_of_le hb ho.size, fun i hi => ?_⟩
  rw [World.cell?_of_block (w := w) (a := ⟨b, off + i, none⟩) (ho.block b hb (hR b (by rw [ownBlock_map]; rfl)))]
  exact hc i hi
/-- The marks from q on stand in the list v. -/
def LBy (w : World) (v : Value) (n q : Nat) : Prop := ∃ a c, v = .slice a n c ∧ Rd w a n c (marks (q : Int) n)
theorem LBy.to {w w' : World} {R : Nat → Prop} {v : Value} {n q : Nat} (h : LBy w v n q) (ho : Only R w w') (hR : ∀ y, v.ownBlock = some y → ¬ R y) : LBy w' v n q := by
  obtain ⟨a, c, rfl, hr⟩ := h
  exact ⟨a, c, rfl, hr.toD ho hR⟩
/-- The marks from k on stand in the sheets. -/
structure SM (w : World) (v : Value) (V : List Value) (ss : List (List Int)) (k : Nat) : Prop where
  len : V.length = ss.length
  row : w.ownsRow 0 40 1 v ss.length V
  lie : ∀ i, i < ss.length → LBy w (uAt V i) (shAt ss i).length (k + offS ss i)
theorem SM.to {w w' : World} {R : Nat → Prop} {v : Value} {V : List Value} {ss : List (List Int)} {k : Nat} (h : SM w v V ss k) (ho : Only R w w') (hR : ∀ y, sbl v V y → ¬ R y) : SM w' v V ss k :=
  ⟨h.len, own_kept h.row ho (fun y e => hR y (.inl e)), fun i hi => (h.lie i hi).to ho (fun y e => hR y (.inr ⟨i, by rw [h.len]; exact hi, e⟩))⟩
structure WM (w : World) (v : Value) (U : List (Int × Value)) (ds : List DW) (k : Nat) : Prop where
  len : U.length = ds.length
  row : ∃ U' : List (Int × Value), U'.length = ds.length ∧ w.ownsRow 0 43 2 v ds.length (wcs U') ∧ (∀ i, (xAt U' i).2 = (xAt U i).2) ∧ ∀ i, i < ds.length → (xAt U' i).1 = ((k + offW ds i : Nat) : Int)
  lie : ∀ i, i < ds.length → LBy w (xAt U i).2 (dwAt ds i).2.length (k + offW ds i + 1)
theorem WM.to {w w' : World} {R : Nat → Prop} {v : Value} {U : List (Int × Value)} {ds : List DW} {k : Nat} (h : WM w v U ds k) (ho : Only R w w') (hR : ∀ y, wbl v U y → ¬ R y) : WM w' v U ds k := by
  refine ⟨h.len, ?_, fun i hi => (h.lie i hi).to ho (fun y e => hR y (.inr ⟨i, by rw [h.len]; exact hi, e⟩))⟩
  obtain ⟨U', h1, h2, h3⟩ := h.row
  exact ⟨U', h1, own_kept h2 ho (fun y e => hR y (.inl e)), h3⟩
/-- The marks from k on stand in the disk. -/
structure DM (w : World) (sv : Value) (V : List Value) (dv : Value) (U : List (Int × Value)) (d : DK) (k : Nat) : Prop where
  hs : SM w sv V d.sh k
  hd : WM w dv U d.dw (k + offS d.sh d.sh.length)
theorem DM.to {w w' : World} {R : Nat → Prop} {sv dv : Value} {V : List Value} {U : List (Int × Value)} {d : DK} {k : Nat} (h : DM w sv V dv U d k) (ho : Only R w w') (hR : ∀ y, dbl sv V dv U y → ¬ R y) : DM w' sv V dv U d k := ⟨h.hs.to ho (fun y e => hR y (.inl e)), h.hd.to ho (fun y e => hR y (.inr e))⟩
theorem DM.below {w w' : World} {sv dv : Value} {V : List Value} {U : List (Int × Value)} {d : DK} {k : Nat} (h : DM w sv V dv U d k) (hb : Below w.heap.size w w') : DM w' sv V dv U d k := h.to (only_of_below hb (fun _ => False)) (fun _ _ h => h)
end Go.Proofs.YtcpdedpgjaimkaaDoor
/-
  DiskNew of the specification and of the program.
-/
namespace Go.Proofs.YtcpdedpgjaimkaaDoor
open Go.RowKit
set_option linter.unusedVariables false
theorem results_dsk2 {fn : Func} {p u : Tmp} (h : fn.results = #[.cell p 26, .tmp u]) (tmps : Array Value) (w : World) (g : Nat) {x y b : Value} (hp : tmps.getD p undef = .pointer (some ⟨g, 0, none⟩)) (hb : tmps.getD u undef = b)
    (c0 : w.cell? ⟨g, 0, none⟩ = some x) (c1 : w.cell? ⟨g, 1, none⟩ = some y) : (results fn tmps).run Tryd.prog w = .ok (.tuple #[.agg #[x, y], b]) w := by
  have hp' : tmps[p]?.getD undef = .pointer (some ⟨g, 0, none⟩) := by simpa using hp
  have hb' : tmps[u]?.getD undef = b := by simpa using hb
  simp [results, h, hp', hb', asAddr, load_dsk c0 c1, Result.andThen]
def emD : DK := ⟨[], []⟩
/-- What a function that answers a disk and a bool leaves. -/
def DkPo (o : Option DK) (w : World) (e : Ending) (w' : World) : Prop := ∃ sa sn sc da dn dc V U, e = .returned (.tuple #[.agg #[.slice sa sn sc, .slice da dn dc], .bool o.isSome]) ∧ DO w' w.heap.size (.slice sa sn sc) V (.slice da dn dc) U (o.getD emD) ∧ Below w.heap.size w w'
/-- What a function that answers a disk leaves. -/
def DkPost1 (d : DK) (w : World) (e : Ending) (w' : World) : Prop := ∃ sa sn sc da dn dc V U, e = .returned (.agg #[.slice sa sn sc, .slice da dn dc]) ∧ DO w' w.heap.size (.slice sa sn sc) V (.slice da dn dc) U d ∧ Below w.heap.size w w'
def dnV (n : Int) : Option DK := if 2 ≤ n ∧ n ≤ 400 then some ⟨List.replicate n.toNat [], []⟩ else none
theorem so_made {w : World} {g n B : Nat} (h : Bk w g 40 (List.replicate n (Value.slice none 0 0))) (hn : n ≤ 1048576) (hB : B ≤ g) : SOw w B (.slice (some ⟨g, 0, none⟩) n n) (List.replicate n (Value.slice none 0 0)) (List.replicate n []) := by
  have hu : ∀ i, uAt (List.replicate n (Value.slice none 0 0)) i = .slice none 0 0 := by
    intro i
    by_cases e : i < n
    · simp [uAt, e]
    · simp [uAt, e]
  have hs : ∀ i, shAt (List.replicate n []) i = [] := by
    intro i
    by_cases e : i < n
    · simp [shAt, e]
    · simp [shAt, e]
  refine ⟨by simp, ?_, fun i hi => ?_, fun i j hi hj hij y hy => ?_, fun i hi y hy => ?_⟩
  · rw [List.length_replicate]; exact bk_own h (by simp) hn hB
  · rw [hu, hs]; exact ⟨World.ownsRow_nil _ _ _ _, fun i => by simp⟩
  · rw [hu] at hy; cases hy
  · rw [hu] at hy; cases hy
theorem do_made {w : World} {g n B : Nat} (h : Bk w g 40 (List.replicate n (Value.slice none 0 0))) (hn : n ≤ 1048576) (hB : B ≤ g) : DO w B (.slice (some ⟨g, 0, none⟩) n n) (List.replicate n (Value.slice none 0 0)) (.slice none 0 0) [] ⟨List.replicate n [], []⟩ :=
  ⟨so_made h hn hB, wo_nil w B, fun y _ hy => by
    rcases hy with e | ⟨i, hi, _⟩
    · cases e
    · simp at hi⟩
set_option maxHeartbeats 2000000 in
theorem specDiskNew_any (n : Int) (w : World) : Calls Tryd.prog 27 #[.int .i64 n] w fun e w' => DkPo (dnV n) w e w' := by
  have HB0 : Hid (Below w.heap.size w (w.alloc (.cells #[.slice none 0 0, .slice none 0 0] 26))) := below_new (Below.refl _ _)
  by_cases q1 : n < 2
  · have HF : Hid (dnV n = none) := by show _ = _; rw [dnV, if_neg (by omega)]
    go_enter Tryd.func27, Tryd.ntmps27
    go_wp2
    refine bodyPost_ret (v := .tuple #[.agg #[.slice none 0 0, .slice none 0 0], .bool false]) (results_dsk2 rfl _ _ _ rfl rfl (by go_simp) (by go_simp)) rfl ?_
    rw [HF.out]
    exact ⟨_, _, _, _, _, _, _, _, rfl, do_nil _ _, HB0.out⟩
  · by_cases q2 : 400 < n
    · have HF : Hid (dnV n = none) := by show _ = _; rw [dnV, if_neg (by omega)]
      go_enter Tryd.func27, Tryd.ntmps27
      go_wp2
      refine bodyPost_ret (v := .tuple #[.agg #[.slice none 0 0, .slice none 0 0], .bool false]) (results_dsk2 rfl _ _ _ rfl rfl (by go_simp) (by go_simp)) rfl ?_
      rw [HF.out]
      exact ⟨_, _, _, _, _, _, _, _, rfl, do_nil _ _, HB0.out⟩
    · obtain ⟨m, rfl⟩ : ∃ m : Nat, n = (m : Int) := ⟨n.toNat, by omega⟩
      have hm : m ≤ 400 := by omega
      have HF : Hid (dnV (m : Int) = some ⟨List.replicate m [], []⟩) := by show _ = _; rw [dnV, if_pos (by omega)]; simp
      have hmk := run_make_n (P := Tryd.prog) 23 40 (.agg #[.slice none 0 0]) 1 24 Tryd.underlying23 infoSheetI m (by omega) (by omega)
      rw [made_sheets] at hmk
      generalize hV : List.replicate m (Value.slice none 0 0) = V0 at *
      have HV := hid hV
      clear hV
      go_enter Tryd.func27, Tryd.ntmps27
      go_wp2
      refine bodyPost_ret (v := .tuple #[.agg #[.slice (some ⟨w.heap.size + 1, 0, none⟩) m m, .slice none 0 0], .bool true]) (results_dsk2 rfl _ _ _ rfl rfl (by go_simp) (by go_simp)) rfl ?_
      rw [HF.out]
      refine ⟨_, _, _, _, _, _, _, _, rfl, do_made (n := m) ?_ (by omega) (by omega), below_new (below_new (Below.refl _ _))⟩
      rw [HV.out]
      have := Bk.new (w.alloc (.cells #[.slice (some ⟨w.heap.size + 1, 0, none⟩) m m, .slice none 0 0] 26)) 40 V0
      simpa using this
end Go.Proofs.YtcpdedpgjaimkaaDoor
/-
  Rows that are appended to, of any element; of strings and of numbers.
-/
namespace Go.Proofs.YtcpdedpgjaimkaaDoor
open Go.RowKit
theorem info_of {P : Program} {e : TypeId} {z : Value} {size bytes : Nat} (h : (P.info? e).map (fun i => (i.zero, i.size, i.bytes)) = some (some z, size, bytes)) : ∃ i, P.info? e = some i ∧ i.zero = some z ∧ i.size = size ∧ i.bytes = bytes := by
  obtain ⟨i, hi, hz⟩ := Option.map_eq_some_iff.1 h
  simp only [Prod.mk.injEq] at hz
  exact ⟨i, hi, hz⟩
/-- append(dst, src...), and where the new row lies. -/
theorem run_append_row_at {P : Program} {w : World} (base : Nat) (t ty e : TypeId) (i : TypeInfo) (z : Value) (size bytes : Nat) (ht : P.underlying t = some (.slice e)) (hi : P.info? e = some i) (hz : i.zero = some z)
    (hsize : i.size = size) (hby : i.bytes = bytes) (hzs : z.cells.size = size) (hsz : 0 < size) (v : Value) (n : Nat) (xs : List Value) (hown : w.ownsRow base e size v n xs)
    (S : Nat → Prop) (src : Value) (m : Nat) (news : List Value) (hsrc : Rw w S src m news) (hl : news.length = m * size) (h1 : ∀ u ∈ news, u.oneCell' = true)
    (h63 : n + m ≤ maxLen) (hbytes : (n + m) * bytes ≤ 140737488355328) (hbase : base ≤ w.heap.size) :
    ∃ v' w', (Builtin.append_ #[t, t] ty #[v, src]).run P w = .ok v' w' ∧ w'.ownsRow base e size v' (n + m) (xs ++ news) ∧ w.grownBy w' v.ownBlock ∧ (v'.ownBlock = v.ownBlock ∨ v'.ownBlock = some w.heap.size) := by
  obtain ⟨a, c, rfl, h2, h3, h4, hn, h5⟩ := hsrc
  by_cases hm : 0 < m
  · obtain ⟨b, off, rfl, hb, hS, hc⟩ := h5 hm
    obtain ⟨v', w', hr, ho, hg, _, ha⟩ := run_append_own_at w base t ty e i z size bytes ht hi hz hsize hby hzs hsz v n xs hown ⟨b, off, none⟩ m c news hl (fun j u hu => by rw [Addr.add_lit]; exact hc j u hu) h1 h63 hbytes hbase
    exact ⟨v', w', hr, ho, hg, ha⟩
  · obtain rfl : m = 0 := by omega
    obtain rfl := h4 rfl
    cases a with
    | some ad =>
      obtain ⟨v', w', hr, ho, hg, _, ha⟩ := run_append_own_at w base t ty e i z size bytes ht hi hz hsize hby hzs hsz v n xs hown ad 0 c [] hl (fun j u hu => by simp at hu) h1 h63 hbytes hbase
      exact ⟨v', w', hr, ho, hg, ha⟩
    | none =>
      obtain rfl := hn rfl
      have hrun := run_append_owned_none (P := P) (w := w) base t ty e i size ht hi v n xs hown
      exact ⟨v, w, hrun, by simpa using hown, ⟨rfl, rfl, rfl, Nat.le_refl _, fun _ _ _ => rfl⟩, .inl rfl⟩
theorem wpList_append_row_at {P : Program} {w : World} {ops : Array Oper} {rest : List Oper} {o : Oper} {a : Act} {Q : Exit → Act → World → Prop} (hgd : o.guard = none) (s x : Operand) (t : TypeId)
    (ho : o.op = .call { callee := .builtin .append, args := #[s, x], argTypes := #[t, t] })
    (base : Nat) (e : TypeId) (i : TypeInfo) (z : Value) (size bytes : Nat) (ht : P.underlying t = some (.slice e)) (hi : P.info? e = some i) (hz : i.zero = some z)
    (hsize : i.size = size) (hby : i.bytes = bytes) (hzs : z.cells.size = size) (hsz : 0 < size) (v : Value) (n : Nat) (xs : List Value) (hs : a.eval s = v) (hown : w.ownsRow base e size v n xs)
    (S : Nat → Prop) (src : Value) (m : Nat) (news : List Value) (hx : a.eval x = src) (hsrc : Rw w S src m news) (hl : news.length = m * size) (h1 : ∀ u ∈ news, u.oneCell' = true)
    (h63 : n + m ≤ maxLen) (hbytes : (n + m) * bytes ≤ 140737488355328) (hbase : base ≤ w.heap.size)
    (h : ∀ v' w', w'.ownsRow base e size v' (n + m) (xs ++ news) → w.grownBy w' v.ownBlock → (v'.ownBlock = v.ownBlock ∨ v'.ownBlock = some w.heap.size) → wpList P ops Q rest (a.put o.dst v') w') : wpList P ops Q (o :: rest) a w := by
  refine wpList_plain hgd fun K hK => ?_
  obtain ⟨v', w', hr, h2, h3, h4⟩ := run_append_row_at (P := P) (w := w) base t o.type e i z size bytes ht hi hz hsize hby hzs hsz v n xs hown S src m news hsrc hl h1 h63 hbytes hbase
  unfold Oper.wp execOp
  simp only [ho, resolve, invoke, builtin, Sem.run_bind, Sem.run_pure, Result.andThen_ok, List.map_toArray, List.map_cons, List.map_nil, hs, hx, hr]
  exact hK _ _ (h v' w' h2 h3 h4)
theorem infoStr' : (Tryd.prog.info? 9).map (fun i => (i.zero, i.size, i.bytes)) = some (some (.string ⟨#[]⟩), 1, 16) := by kernel_rfl
theorem wpList_append_st1 {w : World} {ops : Array Oper} {rest : List Oper} {o : Oper} {a : Act} {Q : Exit → Act → World → Prop} (hgd : o.guard = none) (s x : Operand)
    (ho : o.op = .call { callee := .builtin .append, args := #[s, x], argTypes := #[67, 67] }) (v : Value) (n : Nat) (xs : List Value) (hs : a.eval s = v) (hown : w.ownsRow 0 9 1 v n xs)
    (g : Nat) (z : ByteArray) (hx : a.eval x = .slice (some ⟨g, 0, none⟩) 1 1) (hB : Bk w g 9 [.string z]) (hb : n ≤ 1048576)
    (h : ∀ a' n' c' w', w'.ownsRow 0 9 1 (.slice a' n' c') (n + 1) (xs ++ [.string z]) → w.grownBy w' v.ownBlock → ((Value.slice a' n' c').ownBlock = v.ownBlock ∨ (Value.slice a' n' c').ownBlock = some w.heap.size) → wpList Tryd.prog ops Q rest (a.put o.dst (.slice a' n' c')) w') : wpList Tryd.prog ops Q (o :: rest) a w := by
  obtain ⟨i, hi, hz, hsz, hby⟩ := info_of infoStr'
  refine wpList_append_row_at hgd s x 67 ho 0 9 i _ 1 16 Tryd.underlying67 hi hz hsz hby rfl (by decide) v n xs hs hown (fun _ => True) _ 1 [.string z] hx (hB.rw (Nat.le_refl _) (by omega) (fun h => by omega) _ trivial) rfl
    (by intro u hu; simp at hu; subst hu; rfl) (by unfold maxLen; omega) (by omega) (Nat.zero_le _) ?_
  intro v' w' k1 k2 k3
  obtain ⟨a', c', rfl⟩ := own_shape k1
  exact h a' _ c' w' k1 k2 k3
theorem infoInt' : (Tryd.prog.info? 3).map (fun i => (i.zero, i.size, i.bytes)) = some (some (.int .i64 0), 1, 8) := by kernel_rfl
theorem wpList_append_in1 {w : World} {ops : Array Oper} {rest : List Oper} {o : Oper} {a : Act} {Q : Exit → Act → World → Prop} (hgd : o.guard = none) (s x : Operand)
    (ho : o.op = .call { callee := .builtin .append, args := #[s, x], argTypes := #[31, 31] }) (v : Value) (n : Nat) (xs : List Value) (hs : a.eval s = v) (hown : w.ownsRow 0 3 1 v n xs)
    (g : Nat) (z : Int) (hx : a.eval x = .slice (some ⟨g, 0, none⟩) 1 1) (hB : Bk w g 3 [.int .i64 z]) (hb : n ≤ 1048576)
    (h : ∀ a' n' c' w', w'.ownsRow 0 3 1 (.slice a' n' c') (n + 1) (xs ++ [.int .i64 z]) → w.grownBy w' v.ownBlock → ((Value.slice a' n' c').ownBlock = v.ownBlock ∨ (Value.slice a' n' c').ownBlock = some w.heap.size) → wpList Tryd.prog ops Q rest (a.put o.dst (.slice a' n' c')) w') : wpList Tryd.prog ops Q (o :: rest) a w := by
  obtain ⟨i, hi, hz, hsz, hby⟩ := info_of infoInt'
  refine wpList_append_row_at hgd s x 31 ho 0 3 i _ 1 8 Tryd.underlying31 hi hz hsz hby rfl (by decide) v n xs hs hown (fun _ => True) _ 1 [.int .i64 z] hx (hB.rw (Nat.le_refl _) (by omega) (fun h => by omega) _ trivial) rfl
    (by intro u hu; simp at hu; subst hu; rfl) (by unfold maxLen; omega) (by omega) (Nat.zero_le _) ?_
  intro v' w' k1 k2 k3
  obtain ⟨a', c', rfl⟩ := own_shape k1
  exact h a' _ c' w' k1 k2 k3
end Go.Proofs.YtcpdedpgjaimkaaDoor
/-
  Disks copied list by list: the specification's and the program's.
-/
namespace Go.Proofs.YtcpdedpgjaimkaaDoor
open Go.RowKit
set_option linter.unusedVariables false
/-- append of one element as a step of a region that draws; a cell that is kept. -/
theorem step_append_g {P : Program} {w : World} {ops : Array Oper} {o : Oper} {a : Act} {K : Act → World → Prop} {Q : Exit → Act → World → Prop} {E : Prop} (hgd : o.guard = none) (s x : Operand) (t : TypeId)
    (ho : o.op = .call { callee := .builtin .append, args := #[s, x], argTypes := #[t, t] }) (B : Nat) (e : TypeId) (z : Value) (size bytes : Nat) (ht : P.underlying t = some (.slice e)) (hinfo : (P.info? e).map (fun i => (i.zero, i.size, i.bytes)) = some (some z, size, bytes)) (hzs : z.cells.size = size) (hsz : 0 < size) (hby : bytes ≤ 64)
    (v : Value) (n : Nat) (xs : List Value) (hs : a.eval s = v) (hown : w.ownsRow B e size v n xs) (g : Nat) (news : List Value) (hx : a.eval x = .slice (some ⟨g, 0, none⟩) 1 1) (hB : Rw w (fun _ => True) (.slice (some ⟨g, 0, none⟩) 1 1) 1 news) (hl : news.length = size) (h1 : ∀ u ∈ news, u.oneCell' = true) (hb : n ≤ 1048576) (hbase : B ≤ w.heap.size)
    (b0 o0 : Nat) (x0 : Value) (hc0 : w.cell? ⟨b0, o0, none⟩ = some x0) (hf0 : w.frozen? ⟨b0, o0, none⟩ = false) (hne : v.ownBlock ≠ some b0)
    (h : ∀ a' n' c' w', w'.ownsRow B e size (.slice a' n' c') (n + 1) (xs ++ news) → w.grownBy w' v.ownBlock → ((Value.slice a' n' c').ownBlock = v.ownBlock ∨ (Value.slice a' n' c').ownBlock = some w.heap.size) → w'.cell? ⟨b0, o0, none⟩ = some x0 → w'.frozen? ⟨b0, o0, none⟩ = false → K (a.put o.dst (.slice a' n' c')) w') :
    if Region.wanted o (yielded ops a.tmps) = true then Oper.wp P o a w K Q else E := by
  have hw : Region.wanted o (yielded ops a.tmps) = true := by simp [Region.wanted, hgd]
  rw [if_pos hw]
  obtain ⟨i, hi, hz, hsz', hby'⟩ := info_of hinfo
  obtain ⟨v', w', hr, h2, h3, h5⟩ := run_append_row_at (P := P) (w := w) B t o.type e i z size bytes ht hi hz hsz' hby' hzs hsz v n xs hown (fun _ => True) _ 1 news hB (by omega) h1 (by unfold maxLen; omega) (by have := Nat.mul_le_mul (show n + 1 ≤ 1048577 by omega) hby; omega) hbase
  obtain ⟨a', c', rfl⟩ := own_shape h2
  have hbl := h3.block b0 (block_lt hc0) (fun e => hne e.symm)
  unfold Oper.wp execOp
  simp only [ho, resolve, invoke, builtin, Sem.run_bind, Sem.run_pure, Result.andThen_ok, List.map_toArray, List.map_cons, List.map_nil, hs, hx, hr]
  exact h a' _ c' w' h2 h3 h5 ((World.cell?_of_block (w := w) (a := ⟨b0, o0, none⟩) hbl).trans hc0) ((World.frozen?_of_block (w := w) (a := ⟨b0, o0, none⟩) hbl).trans hf0)
/-- append of bytes as a step of a region that draws. -/
theorem step_append_rd {w : World} {ops : Array Oper} {o : Oper} {a : Act} {K : Act → World → Prop} {Q : Exit → Act → World → Prop} {E : Prop} (hgd : o.guard = none) (s x : Operand)
    (ho : o.op = .call { callee := .builtin .append, args := #[s, x], argTypes := #[22, 22] }) (base : Nat) (v : Value) (zs : List Int) (hs : a.eval s = v) (hown : Ob w base v zs)
    (ao : Option Addr) (m c : Nat) (ys : List Int) (hx : a.eval x = .slice ao m c) (hsrc : Rd w ao m c ys) (hb : zs.length + ys.length ≤ 70368744177664) (hbase : base ≤ w.heap.size)
    (h : ∀ a' n' c' w', Ob w' base (.slice a' n' c') (zs ++ ys) → w.grownBy w' v.ownBlock → K (a.put o.dst (.slice a' n' c')) w') : if Region.wanted o (yielded ops a.tmps) = true then Oper.wp Tryd.prog o a w K Q else E := by
  have hw : Region.wanted o (yielded ops a.tmps) = true := by simp [Region.wanted, hgd]
  rw [if_pos hw]
  obtain ⟨v', w', hr, h2, h3⟩ := run_append_rd (w := w) o.type base v zs hown ao m c ys hsrc hb hbase
  obtain ⟨a', c', rfl⟩ := h2.shape
  unfold Oper.wp execOp
  simp only [ho, resolve, invoke, builtin, Sem.run_bind, Sem.run_pure, Result.andThen_ok, List.map_toArray, List.map_cons, List.map_nil, hs, hx, hr]
  exact h a' _ c' w' h2 h3
theorem bt7 {u v w : World} (h : Below u.heap.size u v) (k : Below v.heap.size v w) : Below u.heap.size u w := h.trans (k.mono h.size)
set_option maxHeartbeats 1000000 in
theorem copyB_any (a : Option Addr) (n c : Nat) (zs : List Int) (w : World) (h : Rd w a n c zs) (hn : n ≤ 1048576) :
    Calls Tryd.prog 20 #[.slice a n c] w fun e w' => ∃ a' n' c', e = .returned (.slice a' n' c') ∧ Ob w' w.heap.size (.slice a' n' c') zs ∧ Below w.heap.size w w' := by
  have HR := hid h
  have hzl : n = zs.length := h.1
  have HO : Hid (Ob w w.heap.size (.slice none 0 0) []) := World.ownsRow_nil _ _ _ _
  have hzb : ([] : List Int).length + zs.length ≤ 70368744177664 := by rw [← hzl]; simp; omega
  clear h hzl
  go_enter Tryd.func20, Tryd.ntmps20
  go_wp2_with (at_builtin; refine wpList_append_rd rfl _ _ rfl w.heap.size _ [] rfl HO.out a n c zs rfl HR.out hzb (Nat.le_refl _) ?_)
  intro v3 w3 hO3 hg3
  have O3 : Hid (Ob w3 w.heap.size v3 zs) := by show Ob _ _ _ _; simpa using hO3
  have B3 : Hid (Below w.heap.size w w3) := (only_of_grown hg3 (R := fun _ => False) (fun k e => by cases e)).below (Nat.le_refl _) (fun _ _ h => h)
  obtain ⟨a3, c3, rfl⟩ := hO3.shape
  clear hO3 hg3 HO HR
  go_wp2
  go_ret
  exact ⟨_, _, _, rfl, O3.out, B3.out⟩
/-- The boxes of a copy: the disk, the result, the copy so far. -/
structure CX (w v : World) (sa : Option Addr) (sn sc : Nat) (da : Option Addr) (dn dc : Nat) (xa : Option Addr) (xn xc : Nat) (ya : Option Addr) (yn yc : Nat) (V : List Value) (U : List (Int × Value)) (d : DK) : Prop where
  bel : Below w.heap.size w v
  k0 : Bk v w.heap.size 26 [.slice sa sn sc, .slice da dn dc]
  k1 : Bk v (w.heap.size + 1) 26 [.slice none 0 0, .slice none 0 0]
  k2 : Bk v (w.heap.size + 1 + 1) 26 [.slice xa xn xc, .slice ya yn yc]
  own : DO v (w.heap.size + 3) (.slice xa xn xc) V (.slice ya yn yc) U d
theorem CX.below {w v v' : World} {sa : Option Addr} {sn sc : Nat} {da : Option Addr} {dn dc : Nat} {xa : Option Addr} {xn xc : Nat} {ya : Option Addr} {yn yc : Nat} {V : List Value} {U : List (Int × Value)} {d : DK} (h : CX w v sa sn sc da dn dc xa xn xc ya yn yc V U d) (hb : Below v.heap.size v v') : CX w v' sa sn sc da dn dc xa xn xc ya yn yc V U d :=
  ⟨bt7 h.bel hb, h.k0.below hb, h.k1.below hb, h.k2.below hb, h.own.below hb⟩
theorem CX.start (w : World) (sa : Option Addr) (sn sc : Nat) (da : Option Addr) (dn dc : Nat) : CX w (((w.alloc (.cells #[.slice sa sn sc, .slice da dn dc] 26)).alloc (.cells #[.slice none 0 0, .slice none 0 0] 26)).alloc (.cells #[.slice none 0 0, .slice none 0 0] 26)) sa sn sc da dn dc none 0 0 none 0 0 [] [] ⟨[], []⟩ := by
  refine ⟨below_new (below_new (below_new (Below.refl _ _))), ((Bk.new w 26 [.slice sa sn sc, .slice da dn dc]).alloc _).alloc _, ?_, ?_, do_nil _ _⟩
  · have := (Bk.new (w.alloc (.cells #[.slice sa sn sc, .slice da dn dc] 26)) 26 [.slice none 0 0, .slice none 0 0]).alloc (.cells #[.slice none 0 0, .slice none 0 0] 26)
    simpa using this
  · have := Bk.new ((w.alloc (.cells #[.slice sa sn sc, .slice da dn dc] 26)).alloc (.cells #[.slice none 0 0, .slice none 0 0] 26)) 26 [.slice none 0 0, .slice none 0 0]
    simpa using this
/-- A sheet more. -/
theorem CX.pushS {w v u w5 : World} {sa : Option Addr} {sn sc : Nat} {da : Option Addr} {dn dc : Nat} {xa : Option Addr} {xn xc : Nat} {ya : Option Addr} {yn yc : Nat} {V : List Value} {U : List (Int × Value)} {ss : List (List Int)} {ds : List DW} (h : CX w v sa sn sc da dn dc xa xn xc ya yn yc V U ⟨ss, ds⟩) (hb : Below v.heap.size v u) (x : List Int) (p : Value) (hx : Ob u v.heap.size p x) (hxb : byt x)
    {a5 : Option Addr} {n5 c5 : Nat} (ho : w5.ownsRow (w.heap.size + 3) 40 1 (.slice a5 n5 c5) (ss.length + 1) (V ++ [p])) (hg : u.grownBy w5 (Value.slice xa xn xc).ownBlock) (ha : (Value.slice a5 n5 c5).ownBlock = (Value.slice xa xn xc).ownBlock ∨ (Value.slice a5 n5 c5).ownBlock = some u.heap.size) :
    CX w (w5.setCell ⟨w.heap.size + 1 + 1, 0, none⟩ (.slice a5 n5 c5)) sa sn sc da dn dc a5 n5 c5 ya yn yc (V ++ [p]) U ⟨ss ++ [x], ds⟩ := by
  have hu := h.below hb
  have hv3 : w.heap.size + 3 ≤ v.heap.size := h.k2.lt
  have hlt := hb.size
  have o : Only (fun y => (Value.slice xa xn xc).ownBlock = some y) u w5 := only_of_grown hg (fun k e => e)
  have hxo : ∀ y, (Value.slice xa xn xc).ownBlock = some y → w.heap.size + 3 ≤ y ∧ y < v.heap.size := fun y e => World.ownsRow.lt h.own.hs.row y e
  have hnew : ∀ y, p.ownBlock = some y → v.heap.size ≤ y ∧ y < u.heap.size := fun y e => World.ownsRow.lt hx y e
  have hS := hu.own.hs.push x p (ownD_base hx (by omega)) hxb (fun y e e2 => by have h1 := hnew y e; have h2 := (h.own.hs.lt e2).2; omega) ho hg ha
  have hW := hu.own.hd.to o (fun y e e2 => hu.own.ap y (.inl e2) e)
  have hne : ∀ y, (Value.slice xa xn xc).ownBlock = some y → y ≠ w.heap.size ∧ y ≠ w.heap.size + 1 ∧ y ≠ w.heap.size + 1 + 1 := fun y e => by have := (hxo y e).1; omega
  have k0 := hu.k0.to o (fun e => (hne _ e).1 rfl)
  have k1 := hu.k1.to o (fun e => (hne _ e).2.1 rfl)
  have k2 := hu.k2.to o (fun e => (hne _ e).2.2 rfl)
  have b5 : Below w.heap.size w w5 := hu.bel.trans (o.below hu.bel.size (fun y hy e => by have := (hxo y e).1; omega))
  have o2 : Only (fun y => y = w.heap.size + 1 + 1) w5 (w5.setCell ⟨w.heap.size + 1 + 1, 0, none⟩ (.slice a5 n5 c5)) := only_set (R := fun y => y = w.heap.size + 1 + 1) rfl _
  refine ⟨b5.setCell (p := ⟨w.heap.size + 1 + 1, 0, none⟩) (by show w.heap.size ≤ w.heap.size + 1 + 1; omega) _, k0.setOther (by omega) _ _, k1.setOther (by omega) _ _, k2.set 0 _, ?_, ?_, ?_⟩
  · exact hS.to o2 (fun y e e2 => by have := (hS.lt e).1; omega)
  · exact hW.to o2 (fun y e e2 => by have := (hW.lt e).1; omega)
  · intro y hy hz
    have h3 := (h.own.hd.lt hz).2
    rcases hy with e | ⟨i, hi, e⟩
    · rcases ha with ha | ha
      · rw [ha] at e; exact h.own.ap y (.inl e) hz
      · rw [ha] at e; cases e; omega
    · rw [List.length_append] at hi
      by_cases hi2 : i < V.length
      · rw [uAt_left hi2] at e; exact h.own.ap y (.inr ⟨i, hi2, e⟩) hz
      · obtain rfl : i = V.length := by simp at hi; omega
        rw [uAt_end] at e
        have := (hnew y e).1
        omega
/-- A write more. -/
theorem CX.pushW {w v u w5 : World} {sa : Option Addr} {sn sc : Nat} {da : Option Addr} {dn dc : Nat} {xa : Option Addr} {xn xc : Nat} {ya : Option Addr} {yn yc : Nat} {V : List Value} {U : List (Int × Value)} {ss : List (List Int)} {ds : List DW} (h : CX w v sa sn sc da dn dc xa xn xc ya yn yc V U ⟨ss, ds⟩) (hb : Below v.heap.size v u) (t : Int) (x : List Int) (p : Value) (hx : Ob u v.heap.size p x) (hxb : byt x)
    {a5 : Option Addr} {n5 c5 : Nat} (ho : w5.ownsRow (w.heap.size + 3) 43 2 (.slice a5 n5 c5) (ds.length + 1) (wcs U ++ [.int .i64 t, p])) (hg : u.grownBy w5 (Value.slice ya yn yc).ownBlock) (ha : (Value.slice a5 n5 c5).ownBlock = (Value.slice ya yn yc).ownBlock ∨ (Value.slice a5 n5 c5).ownBlock = some u.heap.size) :
    CX w (w5.setCell ⟨w.heap.size + 1 + 1, 1, none⟩ (.slice a5 n5 c5)) sa sn sc da dn dc xa xn xc a5 n5 c5 V (U ++ [(t, p)]) ⟨ss, ds ++ [(t, x)]⟩ := by
  have hu := h.below hb
  have hv3 : w.heap.size + 3 ≤ v.heap.size := h.k2.lt
  have hlt := hb.size
  have o : Only (fun y => (Value.slice ya yn yc).ownBlock = some y) u w5 := only_of_grown hg (fun k e => e)
  have hxo : ∀ y, (Value.slice ya yn yc).ownBlock = some y → w.heap.size + 3 ≤ y ∧ y < v.heap.size := fun y e => World.ownsRow.lt h.own.hd.row y e
  have hnew : ∀ y, p.ownBlock = some y → v.heap.size ≤ y ∧ y < u.heap.size := fun y e => World.ownsRow.lt hx y e
  have hW := hu.own.hd.push t x p (ownD_base hx (by omega)) hxb (fun y e e2 => by have h1 := hnew y e; have h2 := (h.own.hd.lt e2).2; omega) ho hg ha
  have hS := hu.own.hs.to o (fun y e e2 => hu.own.ap y e (.inl e2))
  have hne : ∀ y, (Value.slice ya yn yc).ownBlock = some y → y ≠ w.heap.size ∧ y ≠ w.heap.size + 1 ∧ y ≠ w.heap.size + 1 + 1 := fun y e => by have := (hxo y e).1; omega
  have k0 := hu.k0.to o (fun e => (hne _ e).1 rfl)
  have k1 := hu.k1.to o (fun e => (hne _ e).2.1 rfl)
  have k2 := hu.k2.to o (fun e => (hne _ e).2.2 rfl)
  have b5 : Below w.heap.size w w5 := hu.bel.trans (o.below hu.bel.size (fun y hy e => by have := (hxo y e).1; omega))
  have o2 : Only (fun y => y = w.heap.size + 1 + 1) w5 (w5.setCell ⟨w.heap.size + 1 + 1, 1, none⟩ (.slice a5 n5 c5)) := only_set (R := fun y => y = w.heap.size + 1 + 1) rfl _
  refine ⟨b5.setCell (p := ⟨w.heap.size + 1 + 1, 1, none⟩) (by show w.heap.size ≤ w.heap.size + 1 + 1; omega) _, k0.setOther (by omega) _ _, k1.setOther (by omega) _ _, k2.set 1 _, ?_, ?_, ?_⟩
  · exact hS.to o2 (fun y e e2 => by have := (hS.lt e).1; omega)
  · exact hW.to o2 (fun y e e2 => by have := (hW.lt e).1; omega)
  · intro y hy hz
    have h3 := (h.own.hs.lt hy).2
    rcases hz with e | ⟨i, hi, e⟩
    · rcases ha with ha | ha
      · rw [ha] at e; exact h.own.ap y hy (.inl e)
      · rw [ha] at e; cases e; omega
    · rw [List.length_append] at hi
      by_cases hi2 : i < U.length
      · rw [xAt_left hi2] at e; exact h.own.ap y hy (.inr ⟨i, hi2, e⟩)
      · obtain rfl : i = U.length := by simp at hi; omega
        rw [xAt_end] at e
        have := (hnew y e).1
        omega
theorem take_sh {ss : List (List Int)} {k : Nat} (h : k < ss.length) : ss.take (k + 1) = ss.take k ++ [shAt ss k] := by
  rw [List.take_succ_eq_append_getElem h]; simp [shAt, h]
theorem take_dw {ds : List DW} {k : Nat} (h : k < ds.length) : ds.take (k + 1) = ds.take k ++ [((dwAt ds k).1, (dwAt ds k).2)] := by
  rw [List.take_succ_eq_append_getElem h]; congr 1; simp [dwAt, h]
theorem rw_one {w : World} {g : Nat} {T : TypeId} {p : Value} (h : Bk w g T [p]) : Rw w (fun _ => True) (.slice (some ⟨g, 0, none⟩) 1 1) 1 [p] := h.rw (Nat.le_refl _) (by omega) (fun h => by omega) _ trivial
theorem rw_two {w : World} {g : Nat} {T : TypeId} {p q : Value} (h : Bk w g T [p, q]) : Rw w (fun _ => True) (.slice (some ⟨g, 0, none⟩) 1 1) 1 [p, q] := h.rw (Nat.le_refl _) (by omega) (fun h => by omega) _ trivial
end Go.Proofs.YtcpdedpgjaimkaaDoor
/-
  copyDisk of the program, l05Copy of the specification.
-/
namespace Go.Proofs.YtcpdedpgjaimkaaDoor
open Go.RowKit
set_option linter.unusedVariables false
set_option maxHeartbeats 16000000 in
set_option maxRecDepth 20000 in
theorem l05Copy_any (S : Nat → Prop) (sa : Option Addr) (sn sc : Nat) (da : Option Addr) (dn dc : Nat) (d : DK) (w : World) (h : Dk w S sa sn sc da dn dc d) (hsm : smallD d) (h1 : sn ≤ 1048576) (h2 : dn ≤ 1048576) :
    Calls Tryd.prog 36 #[.agg #[.slice sa sn sc, .slice da dn dc]] w fun e w' => DkPost1 d w e w' := by
  have HS := hid h.hs
  have HD := hid h.hd
  have HSM := hid hsm
  have HNS := hid h.hs.len.1
  have HND := hid h.hd.len.1
  have C0 := hid (CX.start w sa sn sc da dn dc)
  clear h hsm
  go_enter Tryd.func36, Tryd.ntmps36
  go_wp2_with fail
  go_loopw [12] (fun i wr => ∃ (k : Nat) (xa : Option Addr) (xn xc : Nat) (V : List Value), k ≤ sn ∧ i = .int .i64 k ∧ Hid (CX w wr sa sn sc da dn dc xa xn xc none 0 0 V [] ⟨d.sh.take k, []⟩)) (fun i _ => sn - (intOf i).toNat)
  case atStart => exact ⟨0, none, 0, 0, [], Nat.zero_le _, rfl, C0.out⟩
  case round =>
    obtain ⟨k, xa, xn, xc, V, hk, rfl, CC⟩ := hrel
    clear C0
    by_cases hlt : k < sn
    · have hlt' : (k : Int) < (sn : Int) := by omega
      obtain ⟨b, off, rfl, _, hbw, hcell⟩ := (HS.out.below CC.out.bel).at (by omega)
      obtain ⟨ap, np, cp, m0, hp⟩ := hcell k hlt
      have hkl : k < d.sh.length := by rw [← HNS.out]; exact hlt
      have hnp : np ≤ 1048576 := by rw [hp.len.1]; exact HSM.out.1 k hkl
      have hb0 := below_new (o := .cells #[.slice ap np cp] 40) (w := wr) (Below.refl _ _)
      have CU := hid (CC.out.below hb0)
      have HBY := hid hp.2
      have HL : Hid ((d.sh.take k).length = k) := by show _ = _; rw [List.length_take]; omega
      have HTK := hid (take_sh hkl)
      have HBX : Hid (∀ z, Below (wr.alloc (.cells #[.slice ap np cp] 40)).heap.size (wr.alloc (.cells #[.slice ap np cp] 40)) z → z.cell? ⟨w.heap.size + 1 + 1, 0, none⟩ = some (.slice xa xn xc) ∧ z.frozen? ⟨w.heap.size + 1 + 1, 0, none⟩ = false ∧ z.ownsRow (w.heap.size + 3) 40 1 (.slice xa xn xc) k V) := fun z hz => by
        have c := CU.out.below hz
        refine ⟨c.k2.cell (j := 0) rfl, c.k2.free 0, ?_⟩
        have := c.own.hs.row
        rwa [HL.out] at this
      have SS : Hid (w.heap.size + 1 + 1 < wr.heap.size) := CC.out.k2.lt
      have HNE : Hid ((Value.slice xa xn xc).ownBlock ≠ some (w.heap.size + 1 + 1)) := fun e => by have := (World.ownsRow.lt CC.out.own.hs.row _ e).1; omega
      have HFIN : Hid (∀ (w4 : World) (a4 : Option Addr) (n4 c4 : Nat) (a5 : Option Addr) (n5 c5 : Nat) (w5 : World), Ob w4 (wr.alloc (.cells #[.slice ap np cp] 40)).heap.size (.slice a4 n4 c4) (shAt d.sh k) → Below (wr.alloc (.cells #[.slice ap np cp] 40)).heap.size (wr.alloc (.cells #[.slice ap np cp] 40)) w4 → w5.ownsRow (w.heap.size + 3) 40 1 (.slice a5 n5 c5) (k + 1) (V ++ [.slice a4 n4 c4]) → (w4.alloc (.cells #[.slice a4 n4 c4] 40)).grownBy w5 (Value.slice xa xn xc).ownBlock → ((Value.slice a5 n5 c5).ownBlock = (Value.slice xa xn xc).ownBlock ∨ (Value.slice a5 n5 c5).ownBlock = some (w4.alloc (.cells #[.slice a4 n4 c4] 40)).heap.size) →
          CX w (w5.setCell ⟨w.heap.size + 1 + 1, 0, none⟩ (.slice a5 n5 c5)) (some ⟨b, off, none⟩) sn sc da dn dc a5 n5 c5 none 0 0 (V ++ [.slice a4 n4 c4]) [] ⟨d.sh.take (k + 1), []⟩) := by
        intro w4 a4 n4 c4 a5 n5 c5 w5 hO4 hb4 hO5 hg5 ha5
        rw [HTK.out]
        have hbn := below_new (o := .cells #[.slice a4 n4 c4] 40) (w := w4) (Below.refl _ _)
        exact CU.out.pushS (bt7 hb4 hbn) _ _ (own_kept hO4 (only_of_below hbn (fun _ => False)) (fun _ _ h => h)) HBY.out (by rw [HL.out]; exact hO5) hg5 ha5
      have c1 := CC.out.k2.cell (j := 0) rfl
      have s1 := SS.out
      have s1b : w.heap.size + 1 + 1 < wr.heap.size + 1 := by omega
      have hk6 : k ≤ 1048576 := by omega
      have HS4 : Hid (∀ z, Below (wr.alloc (.cells #[.slice ap np cp] 40)).heap.size (wr.alloc (.cells #[.slice ap np cp] 40)) z → w.heap.size + 1 + 1 < z.heap.size) := fun z hz => by have h1 := hz.size; have h2 := CU.out.k2.lt; omega
      have HS5 : Hid (∀ z, Below (wr.alloc (.cells #[.slice ap np cp] 40)).heap.size (wr.alloc (.cells #[.slice ap np cp] 40)) z → wr.heap.size < z.heap.size) := fun z hz => by have h1 := hz.size; simp at h1; omega
      have hbe : Below (wr.alloc (.cells #[.slice ap np cp] 40)).heap.size (wr.alloc (.cells #[.slice ap np cp] 40)) ((wr.alloc (.cells #[.slice ap np cp] 40)).alloc (.cells #[] 5)).drew := bt7 (below_new (Below.refl _ _)) (below_drew _)
      have HUS : Hid ((wr.alloc (.cells #[.slice ap np cp] 40)).heap.size = wr.heap.size + 1) := by show _ = _; simp
      have HOB : Hid (Ob ((wr.alloc (.cells #[.slice ap np cp] 40)).alloc (.cells #[] 5)).drew (wr.heap.size + 1) (.slice (some ⟨wr.heap.size + 1, 0, none⟩) 0 0) []) := by
        have := ob_new (wr.alloc (.cells #[.slice ap np cp] 40)) (wr.alloc (.cells #[.slice ap np cp] 40)).heap.size (Nat.le_refl _)
        rw [HUS.out] at this
        exact own_kept this (only_of_below (below_drew _) (fun _ => False)) (fun _ _ h => h)
      have HRD2 : Hid (Rd ((wr.alloc (.cells #[.slice ap np cp] 40)).alloc (.cells #[] 5)).drew ap np cp (shAt d.sh k)) := (hp.rd hnp).kept (bt7 hb0 hbe)
      have hzb : ([] : List Int).length + (shAt d.sh k).length ≤ 70368744177664 := by rw [← hp.len.1]; simp; omega
      have HZ2 : Hid (wr.heap.size + 1 ≤ ((wr.alloc (.cells #[.slice ap np cp] 40)).alloc (.cells #[] 5)).drew.heap.size) := by have := hbe.size; rw [HUS.out] at this; exact this
      have HB4 : Hid (∀ w4 : World, ((wr.alloc (.cells #[.slice ap np cp] 40)).alloc (.cells #[] 5)).drew.grownBy w4 (Value.slice (some ⟨wr.heap.size + 1, 0, none⟩) 0 0).ownBlock → Below (wr.alloc (.cells #[.slice ap np cp] 40)).heap.size (wr.alloc (.cells #[.slice ap np cp] 40)) w4) := fun w4 hg => hbe.trans ((only_of_grown hg (R := fun y => (Value.slice (some ⟨wr.heap.size + 1, 0, none⟩) 0 0).ownBlock = some y) (fun k e => e)).below hbe.size (fun y hy e => by have e' : wr.heap.size + 1 = y := (by simpa [Value.ownBlock] using e); rw [HUS.out] at hy; omega))
      have HCV : Hid (∀ (w4 : World) (v4 : Value), Ob w4 (wr.heap.size + 1) v4 ([] ++ (shAt d.sh k)) → Ob w4 (wr.alloc (.cells #[.slice ap np cp] 40)).heap.size v4 (shAt d.sh k)) := fun w4 v4 hO => by rw [HUS.out]; simpa using hO
      clear hbe
      have HSZ : Hid (∀ z, Below (wr.alloc (.cells #[.slice ap np cp] 40)).heap.size (wr.alloc (.cells #[.slice ap np cp] 40)) z → w.heap.size + 3 ≤ z.heap.size) := fun z hz => by have h1 := hz.size; have h2 := CU.out.k2.lt; omega
      clear hcell hbw hp hb0 CC HBY
      go_wp2_with fail
      go_region_law (first
        | (refine step_append_rd rfl _ _ rfl (wr.heap.size + 1) _ [] rfl HOB.out ap np cp (shAt d.sh k) rfl HRD2.out hzb HZ2.out ?_; intro a4 n4 c4 w4 hO4 hg4; have hb4 := HB4.out w4 hg4; have q1 := (HBX.out w4 hb4).1; have s4 := HS4.out w4 hb4)
        | (refine step_append_g rfl _ _ _ rfl (w.heap.size + 3) 40 (.agg #[.slice none 0 0]) 1 24 Tryd.underlying23 infoSheetI rfl (by decide) (by decide) (.slice xa xn xc) k V rfl (HBX.out _ (bt7 hb4 (below_new (Below.refl _ _)))).2.2 w4.heap.size [.slice a4 n4 c4] rfl (rw_one (Bk.new w4 _ [_])) rfl (by intro u hu; simp at hu; subst hu; rfl) hk6 (HSZ.out _ (bt7 hb4 (below_new (Below.refl _ _)))) (w.heap.size + 1 + 1) 0 _ (HBX.out _ (bt7 hb4 (below_new (Below.refl _ _)))).1 (HBX.out _ (bt7 hb4 (below_new (Below.refl _ _)))).2.1 HNE.out ?_; intro a5 n5 c5 w5 hO5 hg5 ha5 hc5 hf5))
      all_goals go_wp2
      all_goals exact ⟨⟨k + 1, a5, n5, c5, _, by omega, by go_num, HFIN.out w4 a4 n4 c4 a5 n5 c5 w5 (HCV.out _ _ hO4) hb4 hO5 hg5 ha5⟩, by simp [intOf]; omega⟩
    · have hks : k = d.sh.length := by rw [← HNS.out]; omega
      have CD : Hid (CX w wr sa sn sc da dn dc xa xn xc none 0 0 V [] ⟨d.sh, []⟩) := by
        have := CC.out
        rwa [hks, List.take_length] at this
      clear CC hks
      have d1 := CD.out.k0.cell (j := 1) rfl
      go_wp2_with fail
      clear d1
      go_loopw [30] (fun i wr => ∃ (j : Nat) (ya : Option Addr) (yn yc : Nat) (Uu : List (Int × Value)), j ≤ dn ∧ i = .int .i64 j ∧ Hid (CX w wr sa sn sc da dn dc xa xn xc ya yn yc V Uu ⟨d.sh, d.dw.take j⟩)) (fun i _ => dn - (intOf i).toNat)
      case atStart => exact ⟨0, none, 0, 0, [], Nat.zero_le _, rfl, CD.out⟩
      case round =>
        clear CD
        obtain ⟨j, ya, yn, yc, Uu, hj, rfl, CC⟩ := hrel
        by_cases hlt2 : j < dn
        · have hlt' : (j : Int) < (dn : Int) := by omega
          obtain ⟨b, off, rfl, _, hbw, hcell⟩ := (HD.out.below CC.out.bel).at (by omega)
          obtain ⟨ap, np, cp, mt, m0, hp⟩ := hcell j hlt2
          have hkl : j < d.dw.length := by rw [← HND.out]; exact hlt2
          have hnp : np ≤ 1048576 := by rw [hp.len.1]; exact HSM.out.2 j hkl
          have HTK := hid (take_dw hkl)
          generalize (dwAt d.dw j).1 = tt at *
          have hb0 := below_new (o := .cells #[.int .i64 tt, .slice ap np cp] 43) (w := wr) (Below.refl _ _)
          have CU := hid (CC.out.below hb0)
          have HBY := hid hp.2
          have HL : Hid ((d.dw.take j).length = j) := by show _ = _; rw [List.length_take]; omega
          have HBX : Hid (∀ z, Below (wr.alloc (.cells #[.int .i64 tt, .slice ap np cp] 43)).heap.size (wr.alloc (.cells #[.int .i64 tt, .slice ap np cp] 43)) z → z.cell? ⟨w.heap.size + 1 + 1, 1, none⟩ = some (.slice ya yn yc) ∧ z.frozen? ⟨w.heap.size + 1 + 1, 1, none⟩ = false ∧ z.ownsRow (w.heap.size + 3) 43 2 (.slice ya yn yc) j (wcs Uu) ∧ z.cell? ⟨wr.heap.size, 0, none⟩ = some (.int .i64 tt)) := fun z hz => by
            have c := CU.out.below hz
            refine ⟨c.k2.cell (j := 1) rfl, c.k2.free 1, ?_, ((Bk.new wr 43 [.int .i64 tt, .slice ap np cp]).below hz).cell (j := 0) rfl⟩
            have := c.own.hd.row
            rwa [HL.out] at this
          have SS : Hid (w.heap.size + 1 + 1 < wr.heap.size) := CC.out.k2.lt
          have HNE : Hid ((Value.slice ya yn yc).ownBlock ≠ some (w.heap.size + 1 + 1)) := fun e => by have := (World.ownsRow.lt CC.out.own.hd.row _ e).1; omega
          have HFIN : Hid (∀ (w4 : World) (a4 : Option Addr) (n4 c4 : Nat) (a5 : Option Addr) (n5 c5 : Nat) (w5 : World), Ob w4 (wr.alloc (.cells #[.int .i64 tt, .slice ap np cp] 43)).heap.size (.slice a4 n4 c4) (dwAt d.dw j).2 → Below (wr.alloc (.cells #[.int .i64 tt, .slice ap np cp] 43)).heap.size (wr.alloc (.cells #[.int .i64 tt, .slice ap np cp] 43)) w4 → w5.ownsRow (w.heap.size + 3) 43 2 (.slice a5 n5 c5) (j + 1) (wcs Uu ++ [.int .i64 tt, .slice a4 n4 c4]) → (w4.alloc (.cells #[.int .i64 tt, .slice a4 n4 c4] 43)).grownBy w5 (Value.slice ya yn yc).ownBlock → ((Value.slice a5 n5 c5).ownBlock = (Value.slice ya yn yc).ownBlock ∨ (Value.slice a5 n5 c5).ownBlock = some (w4.alloc (.cells #[.int .i64 tt, .slice a4 n4 c4] 43)).heap.size) →
              CX w (w5.setCell ⟨w.heap.size + 1 + 1, 1, none⟩ (.slice a5 n5 c5)) sa sn sc (some ⟨b, off, none⟩) dn dc xa xn xc a5 n5 c5 V (Uu ++ [(tt, .slice a4 n4 c4)]) ⟨d.sh, d.dw.take (j + 1)⟩) := by
            intro w4 a4 n4 c4 a5 n5 c5 w5 hO4 hb4 hO5 hg5 ha5
            rw [HTK.out]
            have hbn := below_new (o := .cells #[.int .i64 tt, .slice a4 n4 c4] 43) (w := w4) (Below.refl _ _)
            exact CU.out.pushW (bt7 hb4 hbn) tt _ _ (own_kept hO4 (only_of_below hbn (fun _ => False)) (fun _ _ h => h)) HBY.out (by rw [HL.out]; exact hO5) hg5 ha5
          have c1 := CC.out.k2.cell (j := 1) rfl
          have s1 := SS.out
          have s1b : w.heap.size + 1 + 1 < wr.heap.size + 1 := by omega
          have hk6 : j ≤ 1048576 := by omega
          have HS4 : Hid (∀ z, Below (wr.alloc (.cells #[.int .i64 tt, .slice ap np cp] 43)).heap.size (wr.alloc (.cells #[.int .i64 tt, .slice ap np cp] 43)) z → w.heap.size + 1 + 1 < z.heap.size) := fun z hz => by have h1 := hz.size; have h2 := CU.out.k2.lt; omega
          have HS5 : Hid (∀ z, Below (wr.alloc (.cells #[.int .i64 tt, .slice ap np cp] 43)).heap.size (wr.alloc (.cells #[.int .i64 tt, .slice ap np cp] 43)) z → wr.heap.size < z.heap.size) := fun z hz => by have h1 := hz.size; simp at h1; omega
          have hbe : Below (wr.alloc (.cells #[.int .i64 tt, .slice ap np cp] 43)).heap.size (wr.alloc (.cells #[.int .i64 tt, .slice ap np cp] 43)) ((wr.alloc (.cells #[.int .i64 tt, .slice ap np cp] 43)).alloc (.cells #[] 5)).drew := bt7 (below_new (Below.refl _ _)) (below_drew _)
          have HUS : Hid ((wr.alloc (.cells #[.int .i64 tt, .slice ap np cp] 43)).heap.size = wr.heap.size + 1) := by show _ = _; simp
          have HOB : Hid (Ob ((wr.alloc (.cells #[.int .i64 tt, .slice ap np cp] 43)).alloc (.cells #[] 5)).drew (wr.heap.size + 1) (.slice (some ⟨wr.heap.size + 1, 0, none⟩) 0 0) []) := by
            have := ob_new (wr.alloc (.cells #[.int .i64 tt, .slice ap np cp] 43)) (wr.alloc (.cells #[.int .i64 tt, .slice ap np cp] 43)).heap.size (Nat.le_refl _)
            rw [HUS.out] at this
            exact own_kept this (only_of_below (below_drew _) (fun _ => False)) (fun _ _ h => h)
          have HRD2 : Hid (Rd ((wr.alloc (.cells #[.int .i64 tt, .slice ap np cp] 43)).alloc (.cells #[] 5)).drew ap np cp (dwAt d.dw j).2) := (hp.rd hnp).kept (bt7 hb0 hbe)
          have hzb : ([] : List Int).length + (dwAt d.dw j).2.length ≤ 70368744177664 := by rw [← hp.len.1]; simp; omega
          have HZ2 : Hid (wr.heap.size + 1 ≤ ((wr.alloc (.cells #[.int .i64 tt, .slice ap np cp] 43)).alloc (.cells #[] 5)).drew.heap.size) := by have := hbe.size; rw [HUS.out] at this; exact this
          have HB4 : Hid (∀ w4 : World, ((wr.alloc (.cells #[.int .i64 tt, .slice ap np cp] 43)).alloc (.cells #[] 5)).drew.grownBy w4 (Value.slice (some ⟨wr.heap.size + 1, 0, none⟩) 0 0).ownBlock → Below (wr.alloc (.cells #[.int .i64 tt, .slice ap np cp] 43)).heap.size (wr.alloc (.cells #[.int .i64 tt, .slice ap np cp] 43)) w4) := fun w4 hg => hbe.trans ((only_of_grown hg (R := fun y => (Value.slice (some ⟨wr.heap.size + 1, 0, none⟩) 0 0).ownBlock = some y) (fun k e => e)).below hbe.size (fun y hy e => by have e' : wr.heap.size + 1 = y := (by simpa [Value.ownBlock] using e); rw [HUS.out] at hy; omega))
          have HCV : Hid (∀ (w4 : World) (v4 : Value), Ob w4 (wr.heap.size + 1) v4 ([] ++ (dwAt d.dw j).2) → Ob w4 (wr.alloc (.cells #[.int .i64 tt, .slice ap np cp] 43)).heap.size v4 (dwAt d.dw j).2) := fun w4 v4 hO => by rw [HUS.out]; simpa using hO
          clear hbe
          have HSZ : Hid (∀ z, Below (wr.alloc (.cells #[.int .i64 tt, .slice ap np cp] 43)).heap.size (wr.alloc (.cells #[.int .i64 tt, .slice ap np cp] 43)) z → w.heap.size + 3 ≤ z.heap.size) := fun z hz => by have h1 := hz.size; have h2 := CU.out.k2.lt; omega
          clear hcell hbw hp hb0 CC HBY
          go_wp2_with fail
          go_region_law (first
            | (refine step_append_rd rfl _ _ rfl (wr.heap.size + 1) _ [] rfl HOB.out ap np cp (dwAt d.dw j).2 rfl HRD2.out hzb HZ2.out ?_; intro a4 n4 c4 w4 hO4 hg4; have hb4 := HB4.out w4 hg4; have q1 := (HBX.out w4 hb4).1; have s4 := HS4.out w4 hb4; have q2 := (HBX.out w4 hb4).2.2.2; have s5 := HS5.out w4 hb4)
            | (refine step_append_g rfl _ _ _ rfl (w.heap.size + 3) 43 (.agg #[.int .i64 0, .slice none 0 0]) 2 32 Tryd.underlying24 infoWriteI rfl (by decide) (by decide) (.slice ya yn yc) j (wcs Uu) rfl (HBX.out _ (bt7 hb4 (below_new (Below.refl _ _)))).2.2.1 w4.heap.size [.int .i64 tt, .slice a4 n4 c4] rfl (rw_two (Bk.new w4 _ [_, _])) rfl (by intro u hu; simp at hu; rcases hu with rfl | rfl <;> rfl) hk6 (HSZ.out _ (bt7 hb4 (below_new (Below.refl _ _)))) (w.heap.size + 1 + 1) 1 _ (HBX.out _ (bt7 hb4 (below_new (Below.refl _ _)))).1 (HBX.out _ (bt7 hb4 (below_new (Below.refl _ _)))).2.1 HNE.out ?_; intro a5 n5 c5 w5 hO5 hg5 ha5 hc5 hf5))
          all_goals go_wp2
          all_goals exact ⟨⟨j + 1, a5, n5, c5, _, by omega, by go_num, HFIN.out w4 a4 n4 c4 a5 n5 c5 w5 (HCV.out _ _ hO4) hb4 hO5 hg5 ha5⟩, by simp [intOf]; omega⟩
        · have hjd : j = d.dw.length := by rw [← HND.out]; omega
          have CE : Hid (CX w wr sa sn sc da dn dc xa xn xc ya yn yc V Uu d) := by
            have := CC.out
            rwa [hjd, List.take_length] at this
          clear CC hjd
          have c0 := CE.out.k2.cell (j := 0) rfl
          have c1 := CE.out.k2.cell (j := 1) rfl
          have r0 := CE.out.k1.cell (j := 0) rfl
          have r1 := CE.out.k1.cell (j := 1) rfl
          have f0 := CE.out.k1.free 0
          have f1 := CE.out.k1.free 1
          go_wp2
          try simp only [Exit.inBlock, Exit.then]
          refine bodyPost_ret (v := .agg #[.slice xa xn xc, .slice ya yn yc]) ?_ rfl ?_
          · exact results_dsk rfl _ _ _ rfl (by go_simp) (by go_simp)
          · have O1 : Only (fun y => y = w.heap.size + 1) wr ((wr.setCell ⟨w.heap.size + 1, 0, none⟩ (.slice xa xn xc)).setCell ⟨w.heap.size + 1, 1, none⟩ (.slice ya yn yc)) := (only_set (R := fun y => y = w.heap.size + 1) rfl _).trans (only_set (R := fun y => y = w.heap.size + 1) rfl _)
            exact ⟨_, _, _, _, _, _, _, _, rfl, (CE.out.own.to O1 (fun y e e2 => by have := (CE.out.own.lt e).1; omega)).base (by omega), (CE.out.bel.setCell (p := ⟨w.heap.size + 1, 0, none⟩) (Nat.le_succ _) _).setCell (p := ⟨w.heap.size + 1, 1, none⟩) (Nat.le_succ _) _⟩
end Go.Proofs.YtcpdedpgjaimkaaDoor
/-
  'append(v, make([]byte, k)...)' onto a slice of bytes that the call owns; '[]byte(s)' as a slice that is read.
-/
namespace Go.Proofs.YtcpdedpgjaimkaaDoor
open Go.RowKit

theorem zeroCells_one (k : Nat) : Builtin.zeroCells #[.int .u8 0] k = (List.replicate k (Value.int .u8 0)).toArray := by
  apply Array.ext
  · simp [Builtin.zeroCells]
  · intro i h1 h2
    simp [Builtin.zeroCells, Nat.mod_one]

theorem run_append_zeros {w : World} (ty : TypeId) (base : Nat) (v : Value) (zs : List Int) (hown : Ob w base v zs) (k : Nat) (hb : zs.length + k ≤ 70368744177664) (hbase : base ≤ w.heap.size) :
    ∃ v' w', (Builtin.append_ #[22, 3] ty #[v, .int .i64 (k : Int)]).run Tryd.prog w = .ok v' w' ∧ Ob w' base v' (zs ++ List.replicate k 0) ∧ w.grownBy w' v.ownBlock := by
  obtain ⟨i0, hi, hz0, hz1, hz2⟩ := info_parts infoU8
  have hwr : IntKind.i64.wrap (k : Int) = k := by rw [IntKind.wrap_i64]; omega
  have hneg : ¬ ((k : Int) < 0) := by omega
  have h48 : ¬ (281474976710656 < (k : Int)) := by omega
  have ht := Tryd.underlying22
  have htn := Tryd.underlying3
  have grown : ∀ (old : Nat), old < zs.length + k → ∀ (row : Option Nat),
      Ob (w.drew.alloc (.cells ((zs.map (Value.int .u8)).toArray ++ Builtin.zeroCells #[.int .u8 0] k ++ Builtin.zeroCells #[.int .u8 0] (grownCap w (zs.length + k) old 5 - (zs.length + k))) 5)) base
        (.slice (some ⟨w.heap.size, 0, none⟩) (zs.length + k) (grownCap w (zs.length + k) old 5)) (zs ++ List.replicate k 0) ∧
      w.grownBy (w.drew.alloc (.cells ((zs.map (Value.int .u8)).toArray ++ Builtin.zeroCells #[.int .u8 0] k ++ Builtin.zeroCells #[.int .u8 0] (grownCap w (zs.length + k) old 5 - (zs.length + k))) 5)) row := by
    intro old ho row
    have hge := grownCap_ge w (zs.length + k) old 5
    have hcm : grownCap w (zs.length + k) old 5 ≤ maxLen := grownCap_le_maxLen w (zs.length + k) old 5 (by unfold maxLen; omega)
    have hl : (zs ++ List.replicate k (0 : Int)).length = zs.length + k := by simp
    refine ⟨⟨by simp, .inr ⟨w.heap.size, _, _, by rw [hl], hbase, heap_alloc_new w.drew _, by rw [hl]; exact hge, hcm, ?_, ?_⟩⟩, ⟨rfl, rfl, rfl, by simp, fun j hj _ => Below.heap_alloc w.drew _ j hj⟩⟩
    · simp [zeroCells_one]; omega
    · rw [hl, zeroCells_one, Nat.mul_one]
      simp only [Array.toList_append, List.map_append, List.map_replicate]
      rw [List.take_left' (by simp)]
  have hcc : (Value.int .u8 0).cells = #[.int .u8 0] := rfl
  rcases hown.2 with ⟨rfl, h0⟩ | ⟨g, cap, cur, rfl, hbg, hg, hnc, hcm, hcs, htake⟩
  · have hx : zs = [] := List.eq_nil_of_length_eq_zero h0
    subst hx
    by_cases hk : k = 0
    · subst hk
      refine ⟨.slice none 0 0, w, ?_, World.ownsRow_nil w base 5 1, ⟨rfl, rfl, rfl, Nat.le_refl _, fun _ _ _ => rfl⟩⟩
      simp [Builtin.append_, run_underlying ht, run_underlying htn, sizeOf, typeInfo, hi, hz2, asInt, asIntOf, IntKind.wrap_i64]
    · have hgr := grown 0 (by simp; omega) (Value.ownBlock (.slice none 0 0))
      simp only [List.length_nil, Nat.zero_add, List.map_nil, List.nil_append, Array.empty_append] at hgr ⊢
      refine ⟨_, _, ?_, hgr.1, hgr.2⟩
      have h63 : ¬ (9223372036854775807 < (k : Int)) := by omega
      have hfit := growslice_fits (need := k) (old := 0) (bytes := 1) (by omega) (by omega)
      have hfit' : ¬ (281474976710656 < Builtin.nextslicecap k 0) := by omega
      have hk' : ¬ k ≤ 0 := by omega
      simp [Builtin.append_, run_underlying ht, run_underlying htn, sizeOf, typeInfo, hi, hz0, hz1, hz2, asInt, asIntOf, hwr, hneg, h48, hk, h63, hfit', zeroValue, hcc, Question.forced, Builtin.firstCells, newRow, grownCap]
  · by_cases hroom : zs.length + k ≤ cap
    · have hst := run_storeCells_at Tryd.prog g zs.length 5 (List.replicate k (.int .u8 0)) 0 cur w hg (by simp; omega) (by intro v hv; obtain ⟨_, rfl⟩ := List.mem_replicate.1 hv; rfl)
      simp only [Nat.add_zero, List.length_replicate] at hst
      have hr : (Builtin.append_ #[22, 3] ty #[.slice (some ⟨g, 0, none⟩) zs.length cap, .int .i64 (k : Int)]).run Tryd.prog w = .ok (.slice (some ⟨g, 0, none⟩) (zs.length + k) cap) (w.setRow g (cur.toList.take zs.length ++ List.replicate k (Value.int .u8 0) ++ cur.toList.drop (zs.length + k)).toArray) := by
        by_cases hk : k = 0
        · subst hk
          simp only [List.replicate_zero, List.append_nil, Nat.add_zero, List.take_append_drop, Array.toArray_toList] at hst ⊢
          simp [Builtin.append_, run_underlying ht, run_underlying htn, sizeOf, typeInfo, hi, hz1, hz2, asInt, asIntOf, IntKind.wrap_i64, hnc, Addr.add_lit, hst]
        · simp [Builtin.append_, run_underlying ht, run_underlying htn, sizeOf, typeInfo, hi, hz0, hz1, hz2, asInt, asIntOf, hwr, hneg, h48, hk, hroom, zeroValue, hcc, zeroCells_one, Addr.add_lit, hst]
      refine ⟨_, _, hr, ⟨by simp, .inr ⟨g, cap, _, by simp, hbg, setRow_heap w g cur _ 5 _ hg, by simp; exact hroom, hcm, ?_, ?_⟩⟩, ⟨rfl, rfl, rfl, by simp, fun j _ hj => setRow_other w g j _ (fun e => hj (by simp [Value.ownBlock, e]))⟩⟩
      · simp only [List.size_toArray, List.length_append, List.length_take, List.length_drop, List.length_replicate, Array.length_toList]
        omega
      · have ht2 : cur.toList.take zs.length = zs.map (Value.int .u8) := by rw [← htake, Nat.mul_one]
        rw [ht2]
        simp only [List.map_append, List.map_replicate]
        rw [List.take_left' (by simp)]
    · have holds := hown.cells (g := g) rfl
      have hold : (Builtin.firstCells 1 zs.length (.slice (some ⟨g, 0, none⟩) zs.length cap)).run Tryd.prog w.drew = .ok (zs.map (Value.int .u8)).toArray w.drew := run_firstCells_some w.drew 1 zs.length ⟨g, 0, none⟩ zs.length cap (zs.map (Value.int .u8)) (by simp) holds
      have hgr := grown cap (by omega) (Value.ownBlock (.slice (some ⟨g, 0, none⟩) zs.length cap))
      refine ⟨_, _, ?_, hgr.1, hgr.2⟩
      have h63 : ¬ (9223372036854775807 < (zs.length : Int) + (k : Int)) := by omega
      have hfit := growslice_fits (need := zs.length + k) (old := cap) (bytes := 1) (by omega) (by omega)
      have hfit' : ¬ (281474976710656 < Builtin.nextslicecap (zs.length + k) cap) := by omega
      have hk : ¬ k = 0 := by omega
      simp [Builtin.append_, run_underlying ht, run_underlying htn, sizeOf, typeInfo, hi, hz0, hz1, hz2, asInt, asIntOf, hwr, hneg, h48, hk, h63, hfit', hroom, zeroValue, hcc, Question.forced, hold, newRow, grownCap]

theorem wpList_append_zeros {w : World} {ops : Array Oper} {rest : List Oper} {o : Oper} {a : Act} {Q : Exit → Act → World → Prop} (hgd : o.guard = none) (s x : Operand)
    (ho : o.op = .call { callee := .builtin .append, args := #[s, x], argTypes := #[22, 3] }) (base : Nat) (v : Value) (zs : List Int) (hs : a.eval s = v) (hown : Ob w base v zs)
    (k : Nat) (hx : a.eval x = .int .i64 (k : Int)) (hb : zs.length + k ≤ 70368744177664) (hbase : base ≤ w.heap.size)
    (h : ∀ v' w', Ob w' base v' (zs ++ List.replicate k 0) → w.grownBy w' v.ownBlock → wpList Tryd.prog ops Q rest (a.put o.dst v') w') : wpList Tryd.prog ops Q (o :: rest) a w := by
  refine wpList_plain hgd fun K hK => ?_
  obtain ⟨v', w', hr, h2, h3⟩ := run_append_zeros (w := w) o.type base v zs hown k hb hbase
  unfold Oper.wp execOp
  simp only [ho, resolve, invoke, builtin, Sem.run_bind, Sem.run_pure, Result.andThen_ok, List.map_toArray, List.map_cons, List.map_nil, hs, hx, hr]
  exact hK _ _ (h v' w' h2 h3)

/-- The bytes of a string. -/
def bytesOf (s : ByteArray) : List Int := s.data.toList.map fun b => (b.toNat : Int)
theorem bytesOf_len (s : ByteArray) : (bytesOf s).length = s.size := by
  simp [bytesOf]
theorem bytesOf_byte (s : ByteArray) : ∀ z ∈ bytesOf s, 0 ≤ z ∧ z ≤ 255 := by
  intro z hz
  obtain ⟨b, _, rfl⟩ := List.mem_map.1 hz
  have := b.toNat_lt
  omega
theorem rd_conv (w : World) (s : ByteArray) (c : Nat) (fr : Nat × Nat) (hs : s.size ≤ 140737488355328) (hc : s.size ≤ c) (hm : c ≤ 9223372036854775807) :
    Rd (w.alloc (.cells (bytesRow s c) 5 fr)) (some ⟨w.heap.size, 0, none⟩) s.size c (bytesOf s) := by
  refine ⟨(bytesOf_len s).symm, hc, hm, hs, fun i => ?_, fun _ => ⟨w.heap.size, 0, rfl, by simp, fun i hi => ?_⟩⟩
  · by_cases hi : i < (bytesOf s).length
    · rw [List.getElem?_eq_getElem hi]; exact bytesOf_byte s _ (List.getElem_mem hi)
    · rw [List.getElem?_eq_none (by omega)]; simp
  · rw [World.cell?_alloc_mark]
    simp [bytesRow, bytesOf, Array.getElem?_append, hi]
end Go.Proofs.YtcpdedpgjaimkaaDoor
