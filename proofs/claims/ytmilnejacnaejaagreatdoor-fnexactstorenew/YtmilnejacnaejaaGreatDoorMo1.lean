/-
  What the law's helpers do, for every slice of bytes: toByteS makes a new row with the same bytes; eqByteS tells whether two slices have the same bytes.
-/
import Derived.Test.YtmilnejacnaejaaGreatDoorRows
import Derived.WalkKit
import Derived.WalkSpells
import Derived.Deep.QuietTactic
import Derived.BigQuiet
import Derived.Deep.OwnRows
import Derived.Laws.IdiomStrings
import Derived.Laws.Cover1
import Derived.Laws.AppendOwnNone
import Derived.Deep.RegionHeld3
import Derived.Laws.MakeOwn
import Derived.Deep.AppendSrc
import Derived.RowKit
namespace Go.Proofs.YtmilnejacnaejaaGreatDoor
open Go.RowKit
theorem hid {p : Prop} (h : p) : Hid p := h
theorem infoU8 : (Tryz.prog.info? 5).map (fun i => (i.zero, i.size, i.bytes)) = some (some (.int .u8 0), 1, 1) := by kernel_rfl
def Rd (w : World) (a : Option Addr) (n c : Nat) (zs : List Int) : Prop :=
  n = zs.length ∧ n ≤ c ∧ c ≤ 9223372036854775807 ∧ n ≤ 140737488355328 ∧ (∀ i : Nat, 0 ≤ zs[i]?.getD 0 ∧ zs[i]?.getD 0 ≤ 255) ∧
    (0 < n → ∃ b off, a = some ⟨b, off, none⟩ ∧ b < w.heap.size ∧ ∀ i, i < n → w.cell? ⟨b, off + i, none⟩ = some (.int .u8 (zs[i]?.getD 0)))
def byteVals (zs : List Int) : Array Value := (zs.map (Value.int .u8)).toArray
theorem Rd.below {w w' : World} {B : Nat} {a : Option Addr} {n c : Nat} {zs : List Int} (h : Rd w a n c zs) (hB : Below B w w') (hlt : ∀ x, a = some x → 0 < n → x.block < B) : Rd w' a n c zs := by
  obtain ⟨h1, h2, h3, h30, h4, h5⟩ := h
  refine ⟨h1, h2, h3, h30, h4, fun hp => ?_⟩
  obtain ⟨b, off, rfl, hb, hc⟩ := h5 hp
  refine ⟨b, off, rfl, Nat.lt_of_lt_of_le hb hB.size, fun i hi => ?_⟩
  rw [hB.cell (p := ⟨b, off + i, none⟩) (hlt ⟨b, off, none⟩ rfl hp)]
  exact hc i hi
theorem Rd.lt {w : World} {a : Option Addr} {n c : Nat} {zs : List Int} (h : Rd w a n c zs) : ∀ x, a = some x → 0 < n → x.block < w.heap.size := by
  intro x hx hp
  obtain ⟨b, off, ha, hb, _⟩ := h.2.2.2.2.2 hp
  rw [ha] at hx; cases hx; exact hb
theorem Rd.kept {w w' : World} {a : Option Addr} {n c : Nat} {zs : List Int} (h : Rd w a n c zs) (hB : Below w.heap.size w w') : Rd w' a n c zs := h.below hB h.lt
theorem rd_new (w : World) (zs : List Int) (hl : zs.length ≤ 140737488355328) (hb : ∀ i : Nat, 0 ≤ zs[i]?.getD 0 ∧ zs[i]?.getD 0 ≤ 255) :
    Rd (w.alloc (.cells (byteVals zs) 5)) (some ⟨w.heap.size, 0, none⟩) zs.length zs.length zs := by
  refine ⟨rfl, Nat.le_refl _, by omega, hl, hb, fun _ => ⟨w.heap.size, 0, rfl, by simp, fun i hi => ?_⟩⟩
  rw [World.cell?_alloc_at (hn := rfl)]
  simp [byteVals, hi]
theorem take_succ_eq {xs ys : List Int} {k : Nat} (hx : k < xs.length) (hy : k < ys.length) (h : xs.take k = ys.take k) (e : xs[k]?.getD 0 = ys[k]?.getD 0) : xs.take (k + 1) = ys.take (k + 1) := by
  rw [List.take_succ_eq_append_getElem hx, List.take_succ_eq_append_getElem hy, h]
  simp [hx, hy] at e
  rw [e]
set_option maxHeartbeats 400000 in
theorem eqByteS_any (a a' : Option Addr) (n n' c c' : Nat) (zs zs' : List Int) (w : World) (h : Rd w a n c zs) (h' : Rd w a' n' c' zs') :
    Calls Tryz.prog 183 #[.slice a n c, .slice a' n' c'] w fun e w' => e = .returned (.bool (decide (zs = zs'))) ∧ ∃ q, w' = w.drewN q := by
  obtain ⟨hn0, hc, hm, hnm, hb, hcell⟩ := h
  obtain ⟨hn0', hc', hm', hnm', hb', hcell'⟩ := h'
  have HN : Hid (n = zs.length) := hn0
  have HN' : Hid (n' = zs'.length) := hn0'
  clear hn0 hn0'
  by_cases hne : n = n'
  · subst hne
    have hz : ((n : Int) != (n : Int)) = false := by simp
    go_enter Tryz.func183, Tryz.ntmps183
    go_wp2
    go_loopw [5] (fun i wr => ∃ k q : Nat, k ≤ n ∧ i = .int .i64 k ∧ wr = w.drewN q ∧ zs.take k = zs'.take k) (fun i _ => n - (intOf i).toNat)
    case atStart => exact ⟨0, 0, Nat.zero_le _, rfl, rfl, rfl⟩
    case round =>
      obtain ⟨k, q, hk, rfl, rfl, htk⟩ := hrel
      have HT : Hid (zs.take k = zs'.take k) := htk
      clear htk
      by_cases hlt : k < n
      · obtain ⟨b, off, ha, hbw, hcell⟩ := hcell (by omega)
        obtain ⟨b', off', ha', hbw', hcell'⟩ := hcell' (by omega)
        have hck := hcell k hlt
        have hck' := hcell' k hlt
        have hlt' : (k : Int) < (n : Int) := by omega
        clear hcell hcell'
        rw [ha, ha']
        by_cases hq : zs[k]?.getD 0 = zs'[k]?.getD 0
        · have hq' : (zs[k]?.getD 0 != zs'[k]?.getD 0) = false := by simp [hq]
          have HS : Hid (zs.take (k + 1) = zs'.take (k + 1)) := take_succ_eq (by rw [← HN.out]; exact hlt) (by rw [← HN'.out]; exact hlt) HT.out hq
          clear hq
          go_wp2
          go_quiet (fail)
          go_wp2
          exact ⟨⟨k + 1, q + nq, by omega, by go_num, rfl, HS.out⟩, by simp [intOf]; omega⟩
        · have hq' : (zs[k]?.getD 0 != zs'[k]?.getD 0) = true := by simp [hq]
          have HF : Hid (decide (zs = zs') = false) := by
            show decide (zs = zs') = false
            rw [decide_eq_false_iff_not]
            intro e
            exact hq (by rw [e])
          clear hq
          go_wp2
          go_quiet (fail)
          go_wp2
          go_ret
          exact ⟨by rw [HF.out]; rfl, q + nq, by simp⟩
      · have HF : Hid (decide (zs = zs') = true) := by
          show decide (zs = zs') = true
          have hk' : k = n := by omega
          have e := HT.out
          have e1 : zs.length ≤ k := by rw [← HN.out]; omega
          have e2 : zs'.length ≤ k := by rw [← HN'.out]; omega
          rw [List.take_of_length_le e1, List.take_of_length_le e2] at e
          simp [e]
        go_wp2
        go_ret
        exact ⟨by rw [HF.out]; rfl, q, rfl⟩
  · have hz : ((n : Int) != (n' : Int)) = true := by simp; omega
    have HF : Hid (decide (zs = zs') = false) := by
      show decide (zs = zs') = false
      rw [decide_eq_false_iff_not]
      intro e
      exact hne (by rw [HN.out, HN'.out, e])
    clear hne
    go_enter Tryz.func183, Tryz.ntmps183
    go_wp2
    go_ret
    exact ⟨by rw [HF.out]; rfl, 0, rfl⟩
theorem block_lt {w : World} {x : Addr} {v : Value} (h : w.cell? x = some v) : x.block < w.heap.size := by
  rcases Nat.lt_or_ge x.block w.heap.size with h' | h'
  · exact h'
  · simp [World.cell?, Array.getElem?_eq_none h'] at h
theorem Below.drewN' {B : Nat} {a w : World} (h : Below B a w) (q : Nat) : Below B a (w.drewN q) := ⟨h.os, h.tape, h.output, h.size, h.block⟩
theorem less_irrefl (a : List UInt8) : Op.bytesLess a a = false := by
  induction a with
  | nil => rfl
  | cons x a ih => simp [Op.bytesLess, ih]
theorem less_asymm (a : List UInt8) : ∀ b, Op.bytesLess a b = true → Op.bytesLess b a = false := by
  induction a with
  | nil => intro b h; cases b <;> rfl
  | cons x a ih =>
    intro b h
    cases b with
    | nil => simp [Op.bytesLess] at h
    | cons y b =>
      simp only [Op.bytesLess, Bool.or_eq_true, decide_eq_true_eq, Bool.and_eq_true, beq_iff_eq, Bool.or_eq_false_iff, decide_eq_false_iff_not, Bool.and_eq_false_iff] at h ⊢
      rcases h with h | ⟨rfl, h⟩
      · exact ⟨fun h' => absurd (UInt8.lt_trans h h') (UInt8.lt_irrefl _), .inl (by
          simp only [beq_eq_false_iff_ne]; intro e; subst e; exact UInt8.lt_irrefl _ h)⟩
      · exact ⟨UInt8.lt_irrefl _, .inr (ih b h)⟩
theorem less_total (a : List UInt8) : ∀ b, Op.bytesLess a b = false → a ≠ b → Op.bytesLess b a = true := by
  induction a with
  | nil => intro b h hne; cases b with | nil => exact absurd rfl hne | cons y b => simp [Op.bytesLess] at h
  | cons x a ih =>
    intro b h hne
    cases b with
    | nil => rfl
    | cons y b =>
      simp only [Op.bytesLess, Bool.or_eq_true, decide_eq_true_eq, Bool.and_eq_true, beq_iff_eq, Bool.or_eq_false_iff, decide_eq_false_iff_not, Bool.and_eq_false_iff] at h ⊢
      by_cases e : x = y
      · subst e
        refine .inr ⟨rfl, ih b ?_ (fun e => hne (by rw [e]))⟩
        rcases h.2 with h' | h'
        · simp at h'
        · exact h'
      · refine .inl ?_
        rcases Nat.lt_or_ge y.toNat x.toNat with h' | h'
        · exact UInt8.lt_iff_toNat_lt.2 h'
        · refine absurd (UInt8.lt_iff_toNat_lt.2 (Nat.lt_of_le_of_ne h' fun e' => e (UInt8.toNat_inj.1 e'))) h.1
theorem str_ext {a b : ByteArray} (h : a.toList = b.toList) : a = b := by
  rw [ByteArray.toList_eq, ByteArray.toList_eq] at h
  cases a; cases b
  simp at h
  rw [h]
theorem str_beq {a b : ByteArray} (h : a ≠ b) : (a.toList == b.toList) = false := by
  simp only [beq_eq_false_iff_ne, ne_eq]
  exact fun e => h (str_ext e)
theorem tri (a b : ByteArray) : (Op.bytesLess a.toList b.toList = true ∧ Op.bytesLess b.toList a.toList = false ∧ (a.toList == b.toList) = false ∧ (b.toList == a.toList) = false) ∨ a = b ∨
    (Op.bytesLess a.toList b.toList = false ∧ Op.bytesLess b.toList a.toList = true ∧ (a.toList == b.toList) = false ∧ (b.toList == a.toList) = false) := by
  by_cases e : a = b
  · exact .inr (.inl e)
  · cases h : Op.bytesLess a.toList b.toList with
    | true => exact .inl ⟨rfl, less_asymm _ _ h, str_beq e, str_beq (Ne.symm e)⟩
    | false => exact .inr (.inr ⟨rfl, less_total _ _ h (fun e' => e (str_ext e')), str_beq e, str_beq (Ne.symm e)⟩)
open Go.RowKit
theorem str_empty {s : ByteArray} (h : s.toList = []) : s.size = 0 := by
  rw [ByteArray.toList_eq] at h
  show s.data.size = 0
  rw [← Array.length_toList, h]; rfl
theorem str_full {s : ByteArray} (h : ¬ s.toList = []) : 1 ≤ s.size := by
  rcases Nat.eq_zero_or_pos s.size with e | e
  · refine absurd ?_ h
    rw [ByteArray.toList_eq]
    exact List.eq_nil_of_length_eq_zero (by rw [Array.length_toList]; exact e)
  · exact e
theorem below_drew (w : World) : Below w.heap.size w w.drew := ⟨rfl, rfl, rfl, Nat.le_refl _, fun _ _ => rfl⟩
theorem Below.then' {B : Nat} {w w1 w2 : World} (h : Below B w w1) (h2 : Below w1.heap.size w1 w2) (hB : B ≤ w.heap.size) : Below B w w2 := h.trans (h2.mono (Nat.le_trans hB h.size))
theorem below_new {w w1 : World} {o : Obj} (h : Below (w.alloc o).heap.size (w.alloc o) w1) : Below w.heap.size w w1 := ((Below.refl _ _).alloc (Nat.le_refl _) o).trans (h.mono (by simp))
def kOk (k : ByteArray) : Bool := decide (1 ≤ k.size) && decide (k.size ≤ 16)
theorem implKeyOk_any (k : ByteArray) (w : World) : Calls Tryz.prog 189 #[.string k] w fun e w' => e = .returned (.bool (kOk k)) ∧ w = w' := by
  by_cases h : k.toList = []
  · have HE : Hid (kOk k = false) := by show kOk k = false; simp [kOk, str_empty h]
    go_enter Tryz.func189, Tryz.ntmps189
    go_wp2
    go_ret
    exact ⟨by rw [HE.out]; rfl, rfl⟩
  · have h2 : k.toList.isEmpty = false := by simpa using h
    have h3 : 1 ≤ k.size := str_full h
    have HE : Hid (kOk k = decide (k.size ≤ 16)) := by show kOk k = decide (k.size ≤ 16); simp [kOk, h3]
    by_cases h4 : k.size ≤ 16
    · have h5 : (k.size : Int) ≤ 16 := by omega
      go_enter Tryz.func189, Tryz.ntmps189
      go_wp2
      go_ret
      exact ⟨by rw [HE.out, decide_eq_true h4]; rfl, rfl⟩
    · have h5 : ¬ (k.size : Int) ≤ 16 := by omega
      go_enter Tryz.func189, Tryz.ntmps189
      go_wp2
      go_ret
      exact ⟨by rw [HE.out, decide_eq_false h4]; rfl, rfl⟩
def vOk (v : ByteArray) : Bool := decide (v.size ≤ 60)
theorem implValOk_any (v : ByteArray) (w : World) : Calls Tryz.prog 190 #[.string v] w fun e w' => e = .returned (.bool (vOk v)) ∧ w = w' := by
  have HE : Hid (vOk v = decide ((v.size : Int) ≤ 60)) := by
    show decide (v.size ≤ 60) = decide ((v.size : Int) ≤ 60)
    rw [decide_eq_decide]; omega
  go_enter Tryz.func190, Tryz.ntmps190
  go_wp2
  go_ret
  exact ⟨by rw [HE.out]; rfl, rfl⟩
theorem implKeyOk_is (k : ByteArray) (b : Bool) (h : kOk k = b) (w : World) : Calls Tryz.prog 189 #[.string k] w fun e w' => e = .returned (.bool b) ∧ w' = w := by
  subst h
  exact (implKeyOk_any k w).mono fun _ _ ⟨h1, h2⟩ => ⟨h1, h2.symm⟩
theorem implValOk_is (k : ByteArray) (b : Bool) (h : vOk k = b) (w : World) : Calls Tryz.prog 190 #[.string k] w fun e w' => e = .returned (.bool b) ∧ w' = w := by
  subst h
  exact (implValOk_any k w).mono fun _ _ ⟨h1, h2⟩ => ⟨h1, h2.symm⟩
open Go.RowKit
abbrev PB := ByteArray × ByteArray
structure NB where
  ps : List PB
  keys : List ByteArray
  kids : List Int
inductive T where
  | mk (ps : List PB) (ks : List T)
instance : Inhabited T := ⟨.mk [] []⟩
instance : Inhabited NB := ⟨⟨[], [], []⟩⟩
def T.ps : T → List PB | .mk ps _ => ps
def T.ks : T → List T | .mk _ ks => ks
theorem T.ind {P : T → Prop} (h : ∀ ps ks, (∀ k ∈ ks, P k) → P (.mk ps ks)) : ∀ t, P t := by
  intro t
  refine T.rec (motive_1 := P) (motive_2 := fun ks => ∀ k ∈ ks, P k) (fun ps ks ih => h ps ks ih) (by simp) ?_ t
  intro k ks h1 h2 x hx
  rcases List.mem_cons.1 hx with rfl | hx
  · exact h1
  · exact h2 x hx
mutual
def T.size : T → Nat | .mk _ ks => 1 + szL ks
def szL : List T → Nat | [] => 0 | k :: ks => k.size + szL ks
end
mutual
def T.all : T → List PB | .mk ps ks => ps ++ allL ks
def allL : List T → List PB | [] => [] | k :: ks => k.all ++ allL ks
end
def T.least : T → ByteArray
  | .mk ps [] => (ps.head?.map (·.1)).getD ⟨#[]⟩
  | .mk _ (k :: _) => k.least
def T.lv : T → Nat
  | .mk _ [] => 1
  | .mk _ (k :: _) => k.lv + 1
mutual
def T.full : Bool → T → Bool | root, .mk ps ks => if ks = [] then decide (ps.length ≤ 4) && (decide (2 ≤ ps.length) || root && decide (ps.length = 1)) else decide (2 ≤ ks.length) && decide (ks.length ≤ 4) && decide (ps.length = 0) && fullL ks
def fullL : List T → Bool | [] => true | k :: ks => k.full false && fullL ks
end
def places : Nat → List T → List Int
  | _, [] => []
  | a, k :: ks => (a : Int) :: places (a + k.size) ks
mutual
def lay : Nat → T → List NB | a, .mk ps ks => if ks = [] then [⟨ps, [], []⟩] else ⟨[], ks.tail.map T.least, places (a + 1) ks⟩ :: layL (a + 1) ks
def layL : Nat → List T → List NB | _, [] => [] | a, k :: ks => lay a k ++ layL (a + k.size) ks
end
def Ev : Nat → T → Prop
  | 0, _ => False
  | h + 1, .mk _ ks => (ks = [] ∧ h = 0) ∨ (ks ≠ [] ∧ ∀ k ∈ ks, Ev h k)
def nAt (ns : List NB) (i : Nat) : NB := ns[i]?.getD ⟨[], [], []⟩
def Pre (ns : List NB) (a : Nat) (l : List NB) : Prop := ∀ i, i < l.length → ns[a + i]? = l[i]?
theorem pre_append {ns : List NB} {a : Nat} {l m : List NB} : Pre ns a (l ++ m) ↔ Pre ns a l ∧ Pre ns (a + l.length) m := by
  constructor
  · intro h
    refine ⟨fun i hi => ?_, fun i hi => ?_⟩
    · rw [h i (by simp; omega), List.getElem?_append_left hi]
    · have := h (l.length + i) (by simp; omega)
      rw [List.getElem?_append_right (by omega)] at this
      rw [Nat.add_assoc, this]
      congr 1
      omega
  · rintro ⟨h1, h2⟩ i hi
    by_cases hl : i < l.length
    · rw [h1 i hl, List.getElem?_append_left hl]
    · have := h2 (i - l.length) (by simp at hi; omega)
      rw [List.getElem?_append_right (by omega), ← this]
      congr 1
      omega
mutual
theorem lay_length : ∀ (t : T) (a : Nat), (lay a t).length = t.size
  | .mk ps ks, a => by
    by_cases h : ks = []
    · subst h; simp [lay, T.size, szL]
    · simp [lay, h, T.size, layL_length ks (a + 1)]; omega
theorem layL_length : ∀ (ks : List T) (a : Nat), (layL a ks).length = szL ks
  | [], a => by simp [layL, szL]
  | k :: ks, a => by simp [layL, szL, lay_length k a, layL_length ks (a + k.size)]
end
def rdSL (rd : Int → Option (T × Nat)) : List Int → Nat → Option (List T × Nat)
  | [], nx => some ([], nx)
  | k :: kids, nx => if k ≠ (nx : Int) then none else match rd k with
    | none => none
    | some (t, n1) => match rdSL rd kids n1 with
      | none => none
      | some (ts, n2) => some (t :: ts, n2)
def rdIL (rd : Int → Nat → Option (T × Nat)) (keys : List ByteArray) : List T → List Int → Nat → Option (List T × Nat)
  | ts0, [], nx => some (ts0, nx)
  | ts0, k :: kids, nx => match rd k nx with
    | none => none
    | some (t, n1) => if 0 < ts0.length ∧ (t.least ≠ keys[ts0.length - 1]?.getD ⟨#[]⟩ ∨ t.lv ≠ (ts0[0]?.getD default).lv) then none else rdIL rd keys (ts0 ++ [t]) kids n1
def leafOk (n : NB) (root : Bool) : Bool := !(decide (n.ps.length = 0) || decide (4 < n.ps.length) || (decide (n.ps.length < 2) && !root) || !decide (n.keys.length = 0))
def brOk (n : NB) : Bool := !(decide (n.kids.length < 2) || decide (4 < n.kids.length) || !decide ((n.keys.length : Int) = (n.kids.length : Int) - 1) || !decide (n.ps.length = 0))
def rdI (ns : List NB) : Nat → Int → Nat → Option (T × Nat)
  | 0, _, _ => none
  | f + 1, pl, nx => if pl ≠ (nx : Int) ∨ (ns.length : Int) ≤ pl then none else
    if (nAt ns nx).kids.length = 0 then (if leafOk (nAt ns nx) (decide (pl = 0)) = true then some (.mk (nAt ns nx).ps [], nx + 1) else none)
    else if brOk (nAt ns nx) = true then (match rdIL (rdI ns f) (nAt ns nx).keys [] (nAt ns nx).kids (nx + 1) with
      | none => none
      | some (ts, n) => some (.mk [] ts, n)) else none
open Go.RowKit
theorem ev_lv : ∀ (h : Nat) (t : T), Ev h t → t.lv = h
  | 0, _, e => e.elim
  | h + 1, .mk ps [], e => by
    rcases e with ⟨_, rfl⟩ | ⟨e, _⟩
    · rfl
    · exact absurd rfl e
  | h + 1, .mk ps (k :: ks), e => by
    rcases e with ⟨e, _⟩ | ⟨_, e⟩
    · cases e
    · simp [T.lv, ev_lv h k (e k (by simp))]
theorem pre_cons {ns : List NB} {a : Nat} {n : NB} {l : List NB} : Pre ns a (n :: l) ↔ ns[a]? = some n ∧ Pre ns (a + 1) l := by
  rw [show n :: l = [n] ++ l from rfl, pre_append]
  constructor
  · rintro ⟨h1, h2⟩; exact ⟨by simpa using h1 0 (by simp), h2⟩
  · rintro ⟨h1, h2⟩; refine ⟨fun i hi => ?_, h2⟩; simp at hi; subst hi; simpa using h1
theorem pre_lt {ns : List NB} {a : Nat} {n : NB} (h : ns[a]? = some n) : a < ns.length ∧ nAt ns a = n := by
  obtain ⟨h1, h2⟩ := List.getElem?_eq_some_iff.1 h
  exact ⟨h1, by simp [nAt, h]⟩
theorem nAt_some {ns : List NB} {a : Nat} (h : a < ns.length) : ns[a]? = some (nAt ns a) := by simp [nAt, h]
theorem T.size_pos (t : T) : 0 < t.size := by cases t; simp [T.size]; omega
theorem fullL_iff (ks : List T) : fullL ks = true ↔ ∀ k ∈ ks, k.full false = true := by
  induction ks with
  | nil => simp [fullL]
  | cons k ks ih => simp [fullL, ih]
theorem full_br {r : Bool} {ps : List PB} {ks : List T} (h : (T.mk ps ks).full r = true) (hk : ks ≠ []) : 2 ≤ ks.length ∧ ks.length ≤ 4 ∧ ps = [] ∧ ∀ k ∈ ks, k.full false = true := by
  simp only [T.full, hk, if_false, Bool.and_eq_true, decide_eq_true_eq] at h
  exact ⟨h.1.1.1, h.1.1.2, List.eq_nil_of_length_eq_zero h.1.2, (fullL_iff ks).1 h.2⟩
theorem full_lf {r : Bool} {ps : List PB} (h : (T.mk ps []).full r = true) : ps.length ≤ 4 ∧ (2 ≤ ps.length ∨ r = true ∧ ps.length = 1) := by
  simpa [T.full] using h
theorem rdIL_some (ns : List NB) (f : Nat) (ih : ∀ (t : T) (h a : Nat), Ev h t → t.full (decide (a = 0)) = true → h ≤ f → Pre ns a (lay a t) → rdI ns f a a = some (t, a + t.size)) (h : Nat) (hf : h ≤ f) (keys : List ByteArray) :
    ∀ (ks ts0 : List T) (a : Nat), 0 < a → (∀ k ∈ ts0, Ev h k) → (∀ k ∈ ks, Ev h k) → (∀ k ∈ ks, k.full false = true) → (∀ i, 0 < i → i < (ts0 ++ ks).length → keys[i - 1]?.getD ⟨#[]⟩ = ((ts0 ++ ks)[i]?.getD default).least) →
      Pre ns a (layL a ks) → rdIL (rdI ns f) keys ts0 (places a ks) a = some (ts0 ++ ks, a + szL ks)
  | [], ts0, a, _, _, _, _, _, _ => by simp [places, rdIL, szL]
  | k :: ks, ts0, a, ha, hz, he, hu, hkey, hp => by
    rw [layL, pre_append, lay_length] at hp
    have h1 := ih k h a (he k (by simp)) (by rw [decide_eq_false (by omega)]; exact hu k (by simp)) hf hp.1
    have h2 := rdIL_some ns f ih h hf keys ks (ts0 ++ [k]) (a + k.size) (by omega) (by
        intro x hx
        rcases List.mem_append.1 hx with hx | hx
        · exact hz x hx
        · simp at hx; subst hx; exact he x (by simp)) (fun x hx => he x (by simp [hx])) (fun x hx => hu x (by simp [hx])) (by simpa using hkey) hp.2
    simp only [places, rdIL, h1]
    rw [if_neg]
    · rw [h2]; simp [szL, Nat.add_assoc]
    · rintro ⟨h0, h3 | h3⟩
      · have := hkey ts0.length h0 (by simp)
        simp at this
        exact h3 (by rw [this])
      · apply h3
        rw [ev_lv h k (he k (by simp))]
        obtain ⟨x, hx⟩ : ∃ x, ts0[0]? = some x := ⟨ts0[0], by simp⟩
        rw [hx]
        exact (ev_lv h x (hz x (List.mem_of_getElem? hx))).symm
theorem rdI_some (ns : List NB) : ∀ (f : Nat) (t : T) (h a : Nat), Ev h t → t.full (decide (a = 0)) = true → h ≤ f → Pre ns a (lay a t) → rdI ns f a a = some (t, a + t.size)
  | 0, t, h, a, he, hu, hf, hp => by obtain rfl : h = 0 := by omega
                                     exact he.elim
  | f + 1, .mk ps ks, 0, a, he, hu, hf, hp => he.elim
  | f + 1, .mk ps ks, h + 1, a, he, hu, hf, hp => by
    by_cases hk : ks = []
    · subst hk
      simp only [lay, if_true] at hp
      obtain ⟨h1, h2⟩ := pre_lt (pre_cons.1 hp).1
      obtain ⟨u1, u2⟩ := full_lf hu
      have hl : leafOk ⟨ps, [], []⟩ (decide ((a : Int) = 0)) = true := by
        have e1 : ps.length ≠ 0 := by rcases u2 with u2 | ⟨_, u2⟩ <;> omega
        have e2 : ps.length < 2 → a = 0 := by
          intro h; rcases u2 with u2 | ⟨u2, _⟩
          · omega
          · exact of_decide_eq_true u2
        simp only [leafOk, Bool.not_eq_true', Bool.or_eq_false_iff, decide_eq_false_iff_not, Bool.and_eq_false_iff, List.length_nil, decide_true, Bool.not_true]
        refine ⟨⟨⟨e1, by omega⟩, ?_⟩, trivial⟩
        by_cases h2 : ps.length < 2
        · right; simp [e2 h2]
        · left; exact h2
      rw [rdI, if_neg (by omega), h2, if_pos (by rfl), if_pos hl]
      simp [T.size, szL]
    · simp only [lay, hk, if_false] at hp
      obtain ⟨h0, h3⟩ := pre_cons.1 hp
      obtain ⟨h1, h2⟩ := pre_lt h0
      obtain ⟨u1, u2, rfl, hu'⟩ := full_br hu hk
      rcases he with ⟨e, _⟩ | ⟨_, e⟩
      · exact absurd e hk
      · have := rdIL_some ns f (rdI_some ns f) h (by omega) (ks.tail.map T.least) ks [] (a + 1) (by omega) (by simp) e hu' (by
          intro i hi hlt
          obtain ⟨j, rfl⟩ : ∃ j, i = j + 1 := ⟨i - 1, by omega⟩
          simp at hlt ⊢
          simp [hlt]) h3
        have hpl : ∀ (ks : List T) (a : Nat), (places a ks).length = ks.length := by
          intro ks; induction ks with
          | nil => intro a; rfl
          | cons k ks ih => intro a; simp [places, ih]
        have hb : brOk ⟨[], ks.tail.map T.least, places (a + 1) ks⟩ = true := by
          simp only [brOk, hpl, Bool.not_eq_true', Bool.or_eq_false_iff, decide_eq_false_iff_not, Bool.not_eq_false', decide_eq_true_eq, List.length_nil, List.length_map, List.length_tail]
          refine ⟨⟨⟨by omega, by omega⟩, by omega⟩, trivial⟩
        rw [rdI, if_neg (by omega), h2, if_neg (by simp only [hpl]; omega), if_pos hb]
        simp only [this]
        simp [T.size]
        omega
theorem rdIL_sound (ns : List NB) (f : Nat) (ih : ∀ (pl : Int) (nx : Nat) (t : T) (n1 : Nat), rdI ns f pl nx = some (t, n1) → pl = nx ∧ nx < ns.length ∧ t.full (decide (nx = 0)) = true ∧ (∃ h, Ev h t) ∧ Pre ns nx (lay nx t) ∧ n1 = nx + t.size)
    (keys : List ByteArray) (h : Nat) : ∀ (kids : List Int) (ts0 : List T) (nx : Nat) (ts : List T) (n : Nat), 0 < nx → 0 < ts0.length → (∀ k ∈ ts0, Ev h k) → rdIL (rdI ns f) keys ts0 kids nx = some (ts, n) →
      ∃ ks, ts = ts0 ++ ks ∧ kids = places nx ks ∧ (∀ k ∈ ks, Ev h k) ∧ (∀ k ∈ ks, k.full false = true) ∧ (∀ i, ts0.length ≤ i → i < ts.length → keys[i - 1]?.getD ⟨#[]⟩ = (ts[i]?.getD default).least) ∧ Pre ns nx (layL nx ks) ∧ n = nx + szL ks
  | [], ts0, nx, ts, n, hnx, hl, hz, hr => by
    simp only [rdIL, Option.some.injEq, Prod.mk.injEq] at hr
    obtain ⟨rfl, rfl⟩ := hr
    exact ⟨[], by simp, rfl, by simp, by simp, fun i h1 h2 => by omega, fun i hi => by simp [layL] at hi, rfl⟩
  | k :: kids, ts0, nx, ts, n, hnx, hl, hz, hr => by
    simp only [rdIL] at hr
    cases e : rdI ns f k nx with
    | none => simp [e] at hr
    | some x =>
      obtain ⟨t, n1⟩ := x
      obtain ⟨rfl, i2, i3, ⟨h', i4⟩, i5, rfl⟩ := ih _ _ _ _ e
      simp only [e] at hr
      split at hr
      · cases hr
      · rename_i hc
        have hl0 : t.least = keys[ts0.length - 1]?.getD ⟨#[]⟩ := by
          by_cases q : t.least = keys[ts0.length - 1]?.getD ⟨#[]⟩
          · exact q
          · exact absurd ⟨hl, .inl q⟩ hc
        have hl1 : t.lv = (ts0[0]?.getD default).lv := by
          by_cases q : t.lv = (ts0[0]?.getD default).lv
          · exact q
          · exact absurd ⟨hl, .inr q⟩ hc
        obtain ⟨x, hx⟩ : ∃ x, ts0[0]? = some x := ⟨ts0[0], by simp⟩
        have hh : h' = h := by
          rw [← ev_lv h' t i4, hl1, hx]
          exact ev_lv h x (hz x (List.mem_of_getElem? hx))
        subst hh
        obtain ⟨ks, rfl, rfl, k3, k4, k5, k6, rfl⟩ := rdIL_sound ns f ih keys h' kids (ts0 ++ [t]) (nx + t.size) ts n (by omega) (by simp) (by
          intro y hy
          rcases List.mem_append.1 hy with hy | hy
          · exact hz y hy
          · simp at hy; subst hy; exact i4) hr
        refine ⟨t :: ks, by simp, rfl, ?_, ?_, ?_, ?_, by simp [szL, Nat.add_assoc]⟩
        · intro y hy
          rcases List.mem_cons.1 hy with rfl | hy
          · exact i4
          · exact k3 y hy
        · intro y hy
          rcases List.mem_cons.1 hy with rfl | hy
          · rwa [decide_eq_false (by omega)] at i3
          · exact k4 y hy
        · intro i h1 h2
          by_cases hi : i = ts0.length
          · subst hi
            rw [← hl0]
            simp
          · exact k5 i (by simp; omega) h2
        · rw [layL, pre_append, lay_length]
          exact ⟨i5, k6⟩
theorem rdI_sound (ns : List NB) : ∀ (f : Nat) (pl : Int) (nx : Nat) (t : T) (n1 : Nat), rdI ns f pl nx = some (t, n1) → pl = nx ∧ nx < ns.length ∧ t.full (decide (nx = 0)) = true ∧ (∃ h, Ev h t) ∧ Pre ns nx (lay nx t) ∧ n1 = nx + t.size
  | 0, pl, nx, t, n1, h => by simp [rdI] at h
  | f + 1, pl, nx, t, n1, h => by
    rw [rdI] at h
    split at h
    · cases h
    · rename_i h0
      have hpl : pl = nx := by omega
      subst hpl
      have hlt : nx < ns.length := by omega
      have hn := nAt_some hlt
      generalize nAt ns nx = N at h hn
      obtain ⟨nps, nkeys, nkids⟩ := N
      refine ⟨rfl, hlt, ?_⟩
      split at h
      · rename_i hk
        have hk := List.eq_nil_of_length_eq_zero hk
        simp only at hk
        subst hk
        split at h
        · rename_i hl
          simp only [Option.some.injEq, Prod.mk.injEq] at h
          obtain ⟨rfl, rfl⟩ := h
          simp only [leafOk, Bool.not_eq_true', Bool.or_eq_false_iff, decide_eq_false_iff_not, Bool.and_eq_false_iff, Bool.not_eq_false', decide_eq_true_eq] at hl
          obtain ⟨⟨⟨l1, l2⟩, l3⟩, l4⟩ := hl
          have l4 := List.eq_nil_of_length_eq_zero l4
          subst l4
          refine ⟨?_, ⟨1, by simp [Ev]⟩, ?_, by simp [T.size, szL]⟩
          · simp only [T.full, if_true, Bool.and_eq_true, decide_eq_true_eq, Bool.or_eq_true]
            refine ⟨by omega, ?_⟩
            rcases l3 with l3 | l3
            · left; omega
            · by_cases h2 : 2 ≤ nps.length
              · exact .inl h2
              · right; exact ⟨by omega, by omega⟩
          · simp only [lay, if_true]
            exact pre_cons.2 ⟨hn, fun i hi => by simp at hi⟩
        · cases h
      · rename_i hk
        split at h
        · rename_i hb
          simp only [brOk, Bool.not_eq_true', Bool.or_eq_false_iff, decide_eq_false_iff_not, Bool.not_eq_false', decide_eq_true_eq] at hb
          obtain ⟨⟨⟨b1, b2⟩, b3⟩, b4⟩ := hb
          have b4 := List.eq_nil_of_length_eq_zero b4
          subst b4
          cases nkids with
          | nil => simp at b1
          | cons k kids =>
            cases e : rdIL (rdI ns f) nkeys [] (k :: kids) (nx + 1) with
            | none => simp [e] at h
            | some x =>
              obtain ⟨ts, n⟩ := x
              simp only [e, Option.some.injEq, Prod.mk.injEq] at h
              obtain ⟨rfl, rfl⟩ := h
              simp only [rdIL] at e
              cases e1 : rdI ns f k (nx + 1) with
              | none => simp [e1] at e
              | some y =>
                obtain ⟨t0, n1⟩ := y
                simp only [e1, List.length_nil, Nat.lt_irrefl, false_and, if_false, List.nil_append] at e
                obtain ⟨rfl, i2, i3, ⟨h', i4⟩, i5, rfl⟩ := rdI_sound ns f _ _ _ _ e1
                rw [decide_eq_false (by omega)] at i3
                obtain ⟨ks, rfl, rfl, k3, k4, k5, k6, rfl⟩ := rdIL_sound ns f (rdI_sound ns f) nkeys h' kids [t0] (nx + 1 + t0.size) ts n (by omega) (by simp) (by simp; exact i4) e
                have hpl : ∀ (ks : List T) (a : Nat), (places a ks).length = ks.length := by
                  intro ks; induction ks with
                  | nil => intro a; rfl
                  | cons k ks ih => intro a; simp [places, ih]
                simp only [List.length_cons, hpl] at b1 b2 b3
                have hkeys : nkeys = ks.map T.least := by
                  apply List.ext_getElem
                  · simp; omega
                  · intro i h1 h2
                    have := k5 (i + 1) (by simp) (by simp at h2 ⊢; omega)
                    simp at h2
                    simp [h1, h2] at this
                    simpa using this
                refine ⟨?_, ⟨h' + 1, .inr ⟨by simp, ?_⟩⟩, ?_, by simp [T.size, szL]; omega⟩
                · simp only [T.full, List.singleton_append, reduceCtorEq, if_false, Bool.and_eq_true, decide_eq_true_eq, List.length_cons, List.length_nil]
                  refine ⟨⟨⟨by omega, by omega⟩, trivial⟩, ?_⟩
                  simp only [fullL, i3, Bool.true_and]
                  exact (fullL_iff ks).2 k4
                · intro y hy
                  rcases List.mem_cons.1 hy with rfl | hy
                  · exact i4
                  · exact k3 y hy
                · simp only [lay, List.singleton_append, reduceCtorEq, if_false, List.tail_cons]
                  refine pre_cons.2 ⟨by rw [hn, hkeys]; rfl, ?_⟩
                  rw [layL, pre_append, lay_length]
                  exact ⟨i5, k6⟩
        · cases h
open Go.RowKit
def pAtB (l : List PB) (i : Nat) : PB := l[i]?.getD (⟨#[]⟩, ⟨#[]⟩)
def pOkF (l : List PB) : Nat → Nat → Bool
  | 0, _ => true
  | f + 1, k => kOk (pAtB l k).1 && vOk (pAtB l k).2 && (decide (k = 0) || Op.bytesLess (pAtB l (k - 1)).1.toList (pAtB l k).1.toList) && pOkF l f (k + 1)
def pOk (l : List PB) : Bool := decide (l.length ≤ 200) && pOkF l l.length 0
theorem ev_size : ∀ (h : Nat) (t : T) (r : Bool), Ev h t → t.full r = true → 2 ^ h ≤ t.size + 1
  | 0, t, r, e, _ => e.elim
  | h + 1, .mk ps ks, r, e, hu => by
    rcases e with ⟨rfl, rfl⟩ | ⟨hk, e⟩
    · simp [T.size, szL]
    · obtain ⟨h1, h2, rfl, h3⟩ := full_br hu hk
      have : ∀ (l : List T), (∀ k ∈ l, k ∈ ks) → l.length * (2 ^ h - 1) ≤ szL l := by
        intro l
        induction l with
        | nil => simp [szL]
        | cons k l ih =>
          intro hl
          have a1 := ev_size h k false (e k (hl k (by simp))) (h3 k (hl k (by simp)))
          have a2 := ih (fun x hx => hl x (by simp [hx]))
          simp only [szL, List.length_cons, Nat.add_mul, Nat.one_mul]
          omega
      have a1 := this ks (fun _ h => h)
      have a2 : 2 * (2 ^ h - 1) ≤ ks.length * (2 ^ h - 1) := Nat.mul_le_mul_right _ h1
      have a3 : 0 < 2 ^ h := Nat.pos_of_ne_zero (by simp)
      simp only [T.size]
      rw [Nat.pow_succ]
      omega
theorem ev_le_size {h : Nat} {t : T} {r : Bool} (e : Ev h t) (hu : t.full r = true) : h ≤ t.size := by
  have h1 := ev_size h t r e hu
  have h2 : h < 2 ^ h := Nat.lt_two_pow_self
  omega
structure Good (ns : List NB) (t : T) : Prop where
  full : t.full true = true
  even : ∃ h, Ev h t
  ok : pOk t.all = true
  laid : lay 0 t = ns
def okT (ns : List NB) : Option T :=
  if ns.length = 0 then some (.mk [] []) else if 400 ≤ ns.length then none else match rdI ns ns.length 0 0 with
    | none => none
    | some (t, n) => if n = ns.length ∧ pOk t.all = true then some t else none
instance : DecidableEq NB := fun a b => decidable_of_iff (a.ps = b.ps ∧ a.keys = b.keys ∧ a.kids = b.kids) (by cases a; cases b; simp)
open Go.RowKit
structure Only (R : Nat → Prop) (w w' : World) : Prop where
  os : w'.os = w.os
  tape : w'.tape = w.tape
  output : w'.output = w.output
  size : w.heap.size ≤ w'.heap.size
  block : ∀ b, b < w.heap.size → ¬ R b → w'.heap[b]? = w.heap[b]?
theorem Only.refl (R : Nat → Prop) (w : World) : Only R w w := ⟨rfl, rfl, rfl, Nat.le_refl _, fun _ _ _ => rfl⟩
theorem Only.trans {R : Nat → Prop} {a b c : World} (h : Only R a b) (k : Only R b c) : Only R a c :=
  ⟨k.os.trans h.os, k.tape.trans h.tape, k.output.trans h.output, Nat.le_trans h.size k.size, fun i hi hr => (k.block i (Nat.lt_of_lt_of_le hi h.size) hr).trans (h.block i hi hr)⟩
theorem Only.then {R R' : Nat → Prop} {a b c : World} (h : Only R a b) (k : Only R' b c) (hr : ∀ i, i < a.heap.size → R' i → R i) : Only R a c :=
  ⟨k.os.trans h.os, k.tape.trans h.tape, k.output.trans h.output, Nat.le_trans h.size k.size, fun i hi hn => (k.block i (Nat.lt_of_lt_of_le hi h.size) (fun h' => hn (hr i hi h'))).trans (h.block i hi hn)⟩
theorem Only.mono {R R' : Nat → Prop} {a b : World} (h : Only R a b) (hr : ∀ i, i < a.heap.size → R i → R' i) : Only R' a b :=
  ⟨h.os, h.tape, h.output, h.size, fun i hi hn => h.block i hi (fun h' => hn (hr i hi h'))⟩
theorem only_of_below {w w' : World} (h : Below w.heap.size w w') (R : Nat → Prop) : Only R w w' := ⟨h.os, h.tape, h.output, h.size, fun b hb _ => h.block b hb⟩
theorem only_of_grown {w w' : World} {row : Option Nat} (h : w.grownBy w' row) {R : Nat → Prop} (hr : ∀ k, row = some k → R k) : Only R w w' :=
  ⟨h.os, h.tape, h.output, h.size, fun b hb hn => h.block b hb (fun e => hn (hr b e.symm))⟩
theorem Only.below {R : Nat → Prop} {w w' : World} {B : Nat} (h : Only R w w') (hB : B ≤ w.heap.size) (hr : ∀ b, b < B → ¬ R b) : Below B w w' := ⟨h.os, h.tape, h.output, h.size, fun b hb => h.block b (by omega) (hr b hb)⟩
theorem only_alloc (R : Nat → Prop) (w : World) (o : Obj) : Only R w (w.alloc o) := ⟨rfl, rfl, rfl, by simp, fun b hb _ => Below.heap_alloc _ _ _ hb⟩
theorem only_set {R : Nat → Prop} {w : World} {p : Addr} (h : R p.block) (u : Value) : Only R w (w.setCell p u) := ⟨rfl, rfl, rfl, by simp [World.setCell], fun b _ hn => Below.heap_setCell _ _ _ _ (fun e => hn (e ▸ h))⟩
theorem only_drew (R : Nat → Prop) (w : World) (q : Nat) : Only R w (w.drewN q) := ⟨rfl, rfl, rfl, Nat.le_refl _, fun _ _ _ => rfl⟩
def Rw (w : World) (S : Nat → Prop) (v : Value) (n : Nat) (xs : List Value) : Prop :=
  ∃ a c, v = .slice a n c ∧ n ≤ c ∧ c ≤ 9223372036854775807 ∧ (n = 0 → xs = []) ∧ (a = none → c = 0) ∧ (0 < n → ∃ b off, a = some ⟨b, off, none⟩ ∧ b < w.heap.size ∧ S b ∧ ∀ j u, xs[j]? = some u → w.cell? ⟨b, off + j, none⟩ = some u)
theorem Rw.to {w w' : World} {S R : Nat → Prop} {v : Value} {n : Nat} {xs : List Value} (h : Rw w S v n xs) (ho : Only R w w') (hd : ∀ b, S b → b < w.heap.size → ¬ R b) : Rw w' S v n xs := by
  obtain ⟨a, c, h1, h2, h3, h4, hn, h5⟩ := h
  refine ⟨a, c, h1, h2, h3, h4, hn, fun hp => ?_⟩
  obtain ⟨b, off, h6, h7, h8, h9⟩ := h5 hp
  refine ⟨b, off, h6, Nat.lt_of_lt_of_le h7 ho.size, h8, fun j u hu => ?_⟩
  rw [← h9 j u hu]
  exact World.cell?_of_block (w := w) (ho.block b h7 (hd b h8 h7))
theorem Rw.mono {w : World} {S R : Nat → Prop} {v : Value} {n : Nat} {xs : List Value} (h : Rw w S v n xs) (hd : ∀ b, S b → b < w.heap.size → R b) : Rw w R v n xs := by
  obtain ⟨a, c, h1, h2, h3, h4, hn, h5⟩ := h
  refine ⟨a, c, h1, h2, h3, h4, hn, fun hp => ?_⟩
  obtain ⟨b, off, h6, h7, h8, h9⟩ := h5 hp
  exact ⟨b, off, h6, h7, hd b h8 h7, h9⟩
theorem rw_nil (w : World) (S : Nat → Prop) : Rw w S (.slice none 0 0) 0 [] := ⟨none, 0, rfl, Nat.le_refl _, by omega, fun _ => rfl, fun _ => rfl, fun h => by omega⟩
theorem rw_own {w : World} {base : Nat} {e : TypeId} {size : Nat} {v : Value} {n : Nat} {xs : List Value} (h : w.ownsRow base e size v n xs) {S : Nat → Prop} (hS : ∀ k, v.ownBlock = some k → base ≤ k → k < w.heap.size → S k) : Rw w S v n xs := by
  have hlt := World.ownsRow.lt h
  have hc := fun g hg => World.ownsRow.cells h (g := g) hg
  obtain ⟨h1, h2⟩ := h
  rcases h2 with ⟨rfl, rfl⟩ | ⟨g, cap, cur, rfl, h3, h4, h5, h6, h7, h8⟩
  · have : xs = [] := List.eq_nil_of_length_eq_zero (by omega)
    subst this
    exact rw_nil w S
  · refine ⟨_, cap, rfl, h5, by unfold maxLen at h6; omega, fun h0 => List.eq_nil_of_length_eq_zero (by rw [h1, h0]; omega), fun h => by (cases h), fun _ => ⟨g, 0, rfl, (hlt g rfl).2, hS g rfl h3 (hlt g rfl).2, fun j u hu => ?_⟩⟩
    have := hc g rfl j u hu
    rwa [Addr.add_lit] at this
theorem own_kept {w w' : World} {R : Nat → Prop} {base : Nat} {e : TypeId} {size : Nat} {v : Value} {n : Nat} {xs : List Value} (h : w.ownsRow base e size v n xs) (ho : Only R w w') (hR : ∀ k, v.ownBlock = some k → ¬ R k) : w'.ownsRow base e size v n xs := by
  have hlt := World.ownsRow.lt h
  obtain ⟨h1, h2⟩ := h
  refine ⟨h1, ?_⟩
  rcases h2 with h2 | ⟨g, cap, cur, rfl, h3, h4, h5⟩
  · exact .inl h2
  · exact .inr ⟨g, cap, cur, rfl, h3, (ho.block g (hlt g rfl).2 (hR g rfl)).trans h4, h5⟩
theorem own_shape {w : World} {base : Nat} {e : TypeId} {size : Nat} {v : Value} {n : Nat} {xs : List Value} (h : w.ownsRow base e size v n xs) : ∃ a c, v = .slice a n c := by
  rcases h.2 with ⟨rfl, rfl⟩ | ⟨g, cap, cur, rfl, _⟩
  · exact ⟨none, 0, rfl⟩
  · exact ⟨_, cap, rfl⟩
theorem run_append_row {P : Program} {w : World} (base : Nat) (t ty e : TypeId) (i : TypeInfo) (z : Value) (size bytes : Nat) (ht : P.underlying t = some (.slice e)) (hi : P.info? e = some i) (hz : i.zero = some z)
    (hsize : i.size = size) (hby : i.bytes = bytes) (hzs : z.cells.size = size) (hsz : 0 < size) (v : Value) (n : Nat) (xs : List Value) (hown : w.ownsRow base e size v n xs)
    (S : Nat → Prop) (src : Value) (m : Nat) (news : List Value) (hsrc : Rw w S src m news) (hl : news.length = m * size) (h1 : ∀ u ∈ news, u.oneCell' = true)
    (h63 : n + m ≤ maxLen) (hbytes : (n + m) * bytes ≤ 140737488355328) (hbase : base ≤ w.heap.size) :
    ∃ v' w', (Builtin.append_ #[t, t] ty #[v, src]).run P w = .ok v' w' ∧ w'.ownsRow base e size v' (n + m) (xs ++ news) ∧ w.grownBy w' v.ownBlock := by
  obtain ⟨a, c, rfl, h2, h3, h4, hn, h5⟩ := hsrc
  by_cases hm : 0 < m
  · obtain ⟨b, off, rfl, hb, hS, hc⟩ := h5 hm
    obtain ⟨v', w', hr, ho, hg, _⟩ := run_append_own w base t ty e i z size bytes ht hi hz hsize hby hzs hsz v n xs hown ⟨b, off, none⟩ m c news hl (fun j u hu => by rw [Addr.add_lit]; exact hc j u hu) h1 h63 hbytes hbase
    exact ⟨v', w', hr, ho, hg⟩
  · obtain rfl : m = 0 := by omega
    obtain rfl := h4 rfl
    cases a with
    | some ad =>
      obtain ⟨v', w', hr, ho, hg, _⟩ := run_append_own w base t ty e i z size bytes ht hi hz hsize hby hzs hsz v n xs hown ad 0 c [] hl (fun j u hu => by simp at hu) h1 h63 hbytes hbase
      exact ⟨v', w', hr, ho, hg⟩
    | none =>
      obtain rfl := hn rfl
      have hrun := run_append_owned_none (P := P) (w := w) base t ty e i size ht hi v n xs hown
      exact ⟨v, w, hrun, by simpa using hown, ⟨rfl, rfl, rfl, Nat.le_refl _, fun _ _ _ => rfl⟩⟩
theorem wpList_append_row {P : Program} {w : World} {ops : Array Oper} {rest : List Oper} {o : Oper} {a : Act} {Q : Exit → Act → World → Prop} (hgd : o.guard = none) (s x : Operand) (t : TypeId)
    (ho : o.op = .call { callee := .builtin .append, args := #[s, x], argTypes := #[t, t] })
    (base : Nat) (e : TypeId) (i : TypeInfo) (z : Value) (size bytes : Nat) (ht : P.underlying t = some (.slice e)) (hi : P.info? e = some i) (hz : i.zero = some z)
    (hsize : i.size = size) (hby : i.bytes = bytes) (hzs : z.cells.size = size) (hsz : 0 < size) (v : Value) (n : Nat) (xs : List Value) (hs : a.eval s = v) (hown : w.ownsRow base e size v n xs)
    (S : Nat → Prop) (src : Value) (m : Nat) (news : List Value) (hx : a.eval x = src) (hsrc : Rw w S src m news) (hl : news.length = m * size) (h1 : ∀ u ∈ news, u.oneCell' = true)
    (h63 : n + m ≤ maxLen) (hbytes : (n + m) * bytes ≤ 140737488355328) (hbase : base ≤ w.heap.size)
    (h : ∀ v' w', w'.ownsRow base e size v' (n + m) (xs ++ news) → w.grownBy w' v.ownBlock → wpList P ops Q rest (a.put o.dst v') w') : wpList P ops Q (o :: rest) a w := by
  refine wpList_plain hgd fun K hK => ?_
  obtain ⟨v', w', hr, h2, h3⟩ := run_append_row (P := P) (w := w) base t o.type e i z size bytes ht hi hz hsize hby hzs hsz v n xs hown S src m news hsrc hl h1 h63 hbytes hbase
  unfold Oper.wp execOp
  simp only [ho, resolve, invoke, builtin, Sem.run_bind, Sem.run_pure, Result.andThen_ok, List.map_toArray, List.map_cons, List.map_nil, hs, hx, hr]
  exact hK _ _ (h v' w' h2 h3)
def pcs : List PB → List Value
  | [] => []
  | p :: ps => .string p.1 :: .string p.2 :: pcs ps
theorem pcs_length (ps : List PB) : (pcs ps).length = ps.length * 2 := by
  induction ps with
  | nil => rfl
  | cons p ps ih => simp only [pcs, List.length_cons, ih]; omega
theorem pcs_append (ps qs : List PB) : pcs (ps ++ qs) = pcs ps ++ pcs qs := by
  induction ps with
  | nil => rfl
  | cons p ps ih => simp only [pcs, List.cons_append, ih]
theorem pcs_one (ps : List PB) : ∀ u ∈ pcs ps, u.oneCell' = true := by
  induction ps with
  | nil => intro u hu; cases hu
  | cons p ps ih =>
    intro u hu
    simp only [pcs, List.mem_cons] at hu
    rcases hu with rfl | rfl | hu
    · rfl
    · rfl
    · exact ih u hu
theorem pcs_at (ps : List PB) : ∀ i, i < ps.length → (pcs ps)[i * 2]? = some (.string (pAtB ps i).1) ∧ (pcs ps)[i * 2 + 1]? = some (.string (pAtB ps i).2) := by
  induction ps with
  | nil => intro i h; exact absurd h (Nat.not_lt_zero _)
  | cons p ps ih =>
    intro i h
    cases i with
    | zero => exact ⟨rfl, rfl⟩
    | succ i =>
      have := ih i (by simpa using h)
      have e : (i + 1) * 2 = i * 2 + 2 := by omega
      rw [e]
      exact this
def Pr (w : World) (S : Nat → Prop) (v : Value) (ps : List PB) : Prop := Rw w S v ps.length (pcs ps)
theorem Pr.cell {w : World} {S : Nat → Prop} {v : Value} {ps : List PB} (h : Pr w S v ps) (hp : 0 < ps.length) : ∃ b off c, v = .slice (some ⟨b, off, none⟩) ps.length c ∧ S b ∧ b < w.heap.size ∧
    ∀ i, i < ps.length → w.cell? ⟨b, off + i * 2, none⟩ = some (.string (pAtB ps i).1) ∧ w.cell? ⟨b, off + i * 2 + 1, none⟩ = some (.string (pAtB ps i).2) := by
  obtain ⟨a, c, rfl, h2, h3, h4, hn, h5⟩ := h
  obtain ⟨b, off, rfl, h7, h8, h9⟩ := h5 hp
  refine ⟨b, off, c, rfl, h8, h7, fun i hi => ?_⟩
  obtain ⟨e1, e2⟩ := pcs_at ps i hi
  exact ⟨h9 _ _ e1, h9 _ _ e2⟩
theorem Rw.shape {w : World} {S : Nat → Prop} {v : Value} {n : Nat} {xs : List Value} (h : Rw w S v n xs) : ∃ a c, v = .slice a n c ∧ n ≤ c ∧ c ≤ 9223372036854775807 := by
  obtain ⟨a, c, h1, h2, h3, _⟩ := h
  exact ⟨a, c, h1, h2, h3⟩
theorem Rw.len {w : World} {S : Nat → Prop} {a : Option Addr} {n m c : Nat} {xs : List Value} (h : Rw w S (.slice a n c) m xs) : n = m ∧ n ≤ c ∧ c ≤ 9223372036854775807 := by
  obtain ⟨a', c', h1, h2, h3, _⟩ := h
  cases h1
  exact ⟨rfl, h2, h3⟩
theorem Pr.shape {w : World} {S : Nat → Prop} {v : Value} {ps : List PB} (h : Pr w S v ps) : ∃ a c, v = .slice a ps.length c ∧ ps.length ≤ c ∧ c ≤ 9223372036854775807 := Rw.shape h
theorem Pr.at {w : World} {S : Nat → Prop} {a : Option Addr} {n c : Nat} {ps : List PB} (h : Pr w S (.slice a n c) ps) (hp : 0 < n) : ∃ b off, a = some ⟨b, off, none⟩ ∧ S b ∧ b < w.heap.size ∧
    ∀ i, i < n → w.cell? ⟨b, off + i * 2, none⟩ = some (.string (pAtB ps i).1) ∧ w.cell? ⟨b, off + i * 2 + 1, none⟩ = some (.string (pAtB ps i).2) := by
  have hn := (Rw.len h).1
  obtain ⟨b, off, c', hv, h1, h2, h3⟩ := h.cell (by omega)
  cases hv
  exact ⟨b, off, rfl, h1, h2, h3⟩
open Go.RowKit
theorem pOkF_k (l : List PB) (f k : Nat) (h : kOk (pAtB l k).1 = false) : pOkF l (f + 1) k = false := by simp [pOkF, h]
theorem pOkF_v (l : List PB) (f k : Nat) (h : vOk (pAtB l k).2 = false) : pOkF l (f + 1) k = false := by simp [pOkF, h]
theorem pOkF_0 (l : List PB) (f : Nat) (h : kOk (pAtB l 0).1 = true) (h2 : vOk (pAtB l 0).2 = true) : pOkF l (f + 1) 0 = pOkF l f 1 := by simp [pOkF, h, h2]
theorem pOkF_s (l : List PB) (f j : Nat) (h : kOk (pAtB l (j + 1)).1 = true) (h2 : vOk (pAtB l (j + 1)).2 = true) (b : Bool) (h3 : Op.bytesLess (pAtB l j).1.toList (pAtB l (j + 1)).1.toList = b) : pOkF l (f + 1) (j + 1) = (b && pOkF l f (j + 1 + 1)) := by
  simp only [pOkF, h, h2, Nat.add_sub_cancel, h3]; simp
theorem Pr.below {w w' : World} {S : Nat → Prop} {v : Value} {ps : List PB} (h : Pr w S v ps) (hb : Below w.heap.size w w') : Pr w' S v ps := Rw.to h (only_of_below hb (fun _ => False)) (fun _ _ _ h => h)
set_option maxHeartbeats 4000000 in
theorem implPairsOk_at (S : Nat → Prop) (a : Option Addr) (n c : Nat) (l : List PB) (w : World) (h : Pr w S (.slice a n c) l) :
    Calls Tryz.prog 175 #[.slice a n c] w fun e w' => e = .returned (.bool (pOk l)) ∧ Below w.heap.size w w' := by
  obtain ⟨hn, hnc, hc⟩ := Rw.len h
  have H0 := hid h
  clear h
  have HN := hid hn
  clear hn
  by_cases hbig : 200 < n
  · have hb : (200 : Int) < (n : Int) := by omega
    have HR : Hid (pOk l = false) := by show pOk l = false; have := HN.out; simp [pOk]; omega
    go_enter Tryz.func175, Tryz.ntmps175
    go_wp2
    go_ret
    exact ⟨by rw [HR.out]; rfl, Below.refl _ _⟩
  · have hb : ¬ (200 : Int) < (n : Int) := by omega
    have HR : Hid (pOk l = pOkF l n 0) := by show pOk l = pOkF l n 0; have := HN.out; rw [this]; simp [pOk]; omega
    go_enter Tryz.func175, Tryz.ntmps175
    go_wp2_with fail
    go_loopw [3, 4, 10] (fun x y i wr => ∃ k : Nat, k ≤ n ∧ i = .int .i64 k ∧ Hid (Below w.heap.size w wr) ∧ Hid (pOkF l (n - k) k = pOkF l n 0)) (fun _ _ i _ => n - (intOf i).toNat)
    case atStart => exact ⟨0, Nat.zero_le _, rfl, Below.refl _ _, rfl⟩
    case round =>
      obtain ⟨k, hk, rfl, HB, HS⟩ := hrel
      by_cases hlt : k < n
      · have hlt' : (k : Int) < (n : Int) := by omega
        have HP := hid (H0.out.below HB.out)
        obtain ⟨b, off, rfl, _, hbw, hcell⟩ := HP.out.at (by omega)
        have hck := (hcell k hlt).1
        have hck1 := (hcell k hlt).2
        have e1 : n - k = (n - (k + 1)) + 1 := by omega
        have HE1 := hid e1
        clear e1
        rw [HE1.out] at HS
        cases k with
        | zero =>
          clear hcell
          simp only [Nat.zero_mul, Nat.add_zero] at hck hck1
          generalize hcur : pAtB l 0 = cur at hck hck1
          obtain ⟨ck, cv⟩ := cur
          have HC := hid hcur
          clear hcur
          cases h1 : kOk ck
          · have HZ : Hid (pOkF l n 0 = false) := by show pOkF l n 0 = false; rw [← HS.out]; exact pOkF_k l _ _ (by rw [HC.out]; exact h1)
            have C1 := implKeyOk_is ck _ h1
            clear h1
            go_wp2_with fail
            go_quiet (first | (go_at_call 189; exact Calls.quiet_of_same (C1 _)) | fail)
            go_wp2
            go_ret
            exact ⟨by rw [HR.out, HZ.out]; rfl, Below.then' HB.out (Below.drewN' (below_new (Below.refl _ _)) _) (Nat.le_refl _)⟩
          · cases h2 : vOk cv
            · have HZ : Hid (pOkF l n 0 = false) := by show pOkF l n 0 = false; rw [← HS.out]; exact pOkF_v l _ _ (by rw [HC.out]; exact h2)
              have C1 := implKeyOk_is ck _ h1
              have C2 := implValOk_is cv _ h2
              clear h1 h2
              go_wp2_with fail
              go_quiet (first | (go_at_call 189; exact Calls.quiet_of_same (C1 _)) | (go_at_call 190; exact Calls.quiet_of_same (C2 _)) | fail)
              go_wp2
              go_ret
              exact ⟨by rw [HR.out, HZ.out]; rfl, Below.then' HB.out (Below.drewN' (below_new (Below.refl _ _)) _) (Nat.le_refl _)⟩
            · have HZ : Hid (pOkF l (n - 1) 1 = pOkF l n 0) := by
                show pOkF l (n - 1) 1 = pOkF l n 0
                rw [← HS.out]; exact (pOkF_0 l _ (by rw [HC.out]; exact h1) (by rw [HC.out]; exact h2)).symm
              have C1 := implKeyOk_is ck _ h1
              have C2 := implValOk_is cv _ h2
              clear h1 h2
              go_wp2_with fail
              go_quiet (first | (go_at_call 189; exact Calls.quiet_of_same (C1 _)) | (go_at_call 190; exact Calls.quiet_of_same (C2 _)) | fail)
              go_wp2
              go_roundw
              case rel => exact ⟨1, by omega, by go_num, Below.then' HB.out (Below.drewN' (below_new (Below.refl _ _)) _) (Nat.le_refl _), HZ⟩
              case measure => simp [intOf]; omega
        | succ j =>
          have hcj := (hcell j (by omega)).1
          have hj1 : (0 : Int) < (j : Int) + 1 := by omega
          clear hcell
          generalize hcur : pAtB l (j + 1) = cur at hck hck1
          obtain ⟨ck, cv⟩ := cur
          generalize hprev : (pAtB l j).1 = prev at hcj
          have HC := hid hcur
          have HQ := hid hprev
          clear hcur hprev
          cases h1 : kOk ck
          · have HZ : Hid (pOkF l n 0 = false) := by show pOkF l n 0 = false; rw [← HS.out]; exact pOkF_k l _ _ (by rw [HC.out]; exact h1)
            have C1 := implKeyOk_is ck _ h1
            clear h1
            go_wp2_with fail
            go_quiet (first | (go_at_call 189; exact Calls.quiet_of_same (C1 _)) | fail)
            go_wp2
            go_ret
            exact ⟨by rw [HR.out, HZ.out]; rfl, Below.then' HB.out (Below.drewN' (below_new (Below.refl _ _)) _) (Nat.le_refl _)⟩
          · cases h2 : vOk cv
            · have HZ : Hid (pOkF l n 0 = false) := by show pOkF l n 0 = false; rw [← HS.out]; exact pOkF_v l _ _ (by rw [HC.out]; exact h2)
              have C1 := implKeyOk_is ck _ h1
              have C2 := implValOk_is cv _ h2
              clear h1 h2
              go_wp2_with fail
              go_quiet (first | (go_at_call 189; exact Calls.quiet_of_same (C1 _)) | (go_at_call 190; exact Calls.quiet_of_same (C2 _)) | fail)
              go_wp2
              go_ret
              exact ⟨by rw [HR.out, HZ.out]; rfl, Below.then' HB.out (Below.drewN' (below_new (Below.refl _ _)) _) (Nat.le_refl _)⟩
            · have HG : Hid (∀ b, Op.bytesLess prev.toList ck.toList = b → (b && pOkF l (n - (j + 1 + 1)) (j + 1 + 1)) = pOkF l n 0) := by
                intro b hb
                rw [← HS.out]
                exact (pOkF_s l _ j (by rw [HC.out]; exact h1) (by rw [HC.out]; exact h2) b (by rw [HQ.out, HC.out]; exact hb)).symm
              have C1 := implKeyOk_is ck _ h1
              have C2 := implValOk_is cv _ h2
              clear h1 h2
              rcases tri prev ck with ⟨t1, t2, t3, t4⟩ | rfl | ⟨t1, t2, t3, t4⟩
              · have HZ : Hid (pOkF l (n - (j + 1 + 1)) (j + 1 + 1) = pOkF l n 0) := by show pOkF l (n - (j + 1 + 1)) (j + 1 + 1) = pOkF l n 0; have := HG.out _ t1; simpa using this
                go_wp2_with fail
                go_quiet (first | (go_at_call 189; exact Calls.quiet_of_same (C1 _)) | (go_at_call 190; exact Calls.quiet_of_same (C2 _)) | fail)
                go_wp2
                go_roundw
                case rel => exact ⟨j + 1 + 1, by omega, by go_num, Below.then' HB.out (Below.drewN' (below_new (Below.refl _ _)) _) (Nat.le_refl _), HZ⟩
                case measure => simp [intOf]; omega
              · have t1 := less_irrefl prev.toList
                have HZ : Hid (pOkF l n 0 = false) := by show pOkF l n 0 = false; have := HG.out _ t1; simpa using this.symm
                go_wp2_with fail
                go_quiet (first | (go_at_call 189; exact Calls.quiet_of_same (C1 _)) | (go_at_call 190; exact Calls.quiet_of_same (C2 _)) | fail)
                go_wp2
                go_ret
                exact ⟨by rw [HR.out, HZ.out]; rfl, Below.then' HB.out (Below.drewN' (below_new (Below.refl _ _)) _) (Nat.le_refl _)⟩
              · have HZ : Hid (pOkF l n 0 = false) := by show pOkF l n 0 = false; have := HG.out _ t1; simpa using this.symm
                go_wp2_with fail
                go_quiet (first | (go_at_call 189; exact Calls.quiet_of_same (C1 _)) | (go_at_call 190; exact Calls.quiet_of_same (C2 _)) | fail)
                go_wp2
                go_ret
                exact ⟨by rw [HR.out, HZ.out]; rfl, Below.then' HB.out (Below.drewN' (below_new (Below.refl _ _)) _) (Nat.le_refl _)⟩
      · have hk' : k = n := by omega
        have HZ : Hid (pOkF l n 0 = true) := by show pOkF l n 0 = true; rw [← HS.out, hk', Nat.sub_self]; rfl
        clear hk'
        go_wp2
        go_ret
        exact ⟨by rw [HR.out, HZ.out]; rfl, HB.out⟩
theorem implPairsOk_any (S : Nat → Prop) (v : Value) (l : List PB) (w : World) (h : Pr w S v l) :
    Calls Tryz.prog 175 #[v] w fun e w' => e = .returned (.bool (pOk l)) ∧ Below w.heap.size w w' := by
  obtain ⟨a, c, rfl, _⟩ := h.shape
  exact implPairsOk_at S a _ c l w h
open Go.RowKit
structure KC (u v : World) (cs : List (Addr × Value)) : Prop where
  cells : ∀ p ∈ cs, u.cell? p.1 = some p.2
  bel : Below u.heap.size u v
theorem KC.at {u v : World} {cs : List (Addr × Value)} (h : KC u v cs) {a : Addr} {x : Value} (hp : (a, x) ∈ cs) : v.cell? a = some x := by
  have hc := h.cells (a, x) hp
  rw [h.bel.cell (p := a) (block_lt hc)]
  exact hc
theorem KC.call {u v v' : World} {cs : List (Addr × Value)} (h : KC u v cs) (k : Below v.heap.size v v') : KC u v' cs := ⟨h.cells, h.bel.trans (k.mono h.bel.size)⟩
theorem kc2 {u v : World} {a0 a1 : Addr} {x0 x1 : Value} (h : KC u v [(a0, x0), (a1, x1)]) : v.cell? a0 = some x0 ∧ v.cell? a1 = some x1 ∧ KC u v [(a0, x0), (a1, x1)] := ⟨h.at (by simp), h.at (by simp), h⟩
theorem kc4 {u v : World} {a0 a1 a2 a3 : Addr} {x0 x1 x2 x3 : Value} (h : KC u v [(a0, x0), (a1, x1), (a2, x2), (a3, x3)]) : v.cell? a0 = some x0 ∧ v.cell? a1 = some x1 ∧ v.cell? a2 = some x2 ∧ v.cell? a3 = some x3 ∧ KC u v [(a0, x0), (a1, x1), (a2, x2), (a3, x3)] := ⟨h.at (by simp), h.at (by simp), h.at (by simp), h.at (by simp), h⟩
theorem kc6 {u v : World} {a0 a1 a2 a3 a4 a5 : Addr} {x0 x1 x2 x3 x4 x5 : Value} (h : KC u v [(a0, x0), (a1, x1), (a2, x2), (a3, x3), (a4, x4), (a5, x5)]) : v.cell? a0 = some x0 ∧ v.cell? a1 = some x1 ∧ v.cell? a2 = some x2 ∧ v.cell? a3 = some x3 ∧ v.cell? a4 = some x4 ∧ v.cell? a5 = some x5 ∧ KC u v [(a0, x0), (a1, x1), (a2, x2), (a3, x3), (a4, x4), (a5, x5)] := ⟨h.at (by simp), h.at (by simp), h.at (by simp), h.at (by simp), h.at (by simp), h.at (by simp), h⟩
theorem kc0_2 {u : World} {a0 a1 : Addr} {x0 x1 : Value} (h0 : u.cell? a0 = some x0) (h1 : u.cell? a1 = some x1) : KC u u [(a0, x0), (a1, x1)] :=
  ⟨fun p hp => by simp at hp; rcases hp with rfl | rfl <;> assumption, Below.refl _ _⟩
theorem kc0_4 {u : World} {a0 a1 a2 a3 : Addr} {x0 x1 x2 x3 : Value} (h0 : u.cell? a0 = some x0) (h1 : u.cell? a1 = some x1) (h2 : u.cell? a2 = some x2) (h3 : u.cell? a3 = some x3) : KC u u [(a0, x0), (a1, x1), (a2, x2), (a3, x3)] :=
  ⟨fun p hp => by simp at hp; rcases hp with rfl | rfl | rfl | rfl <;> assumption, Below.refl _ _⟩
theorem kc0_6 {u : World} {a0 a1 a2 a3 a4 a5 : Addr} {x0 x1 x2 x3 x4 x5 : Value} (h0 : u.cell? a0 = some x0) (h1 : u.cell? a1 = some x1) (h2 : u.cell? a2 = some x2) (h3 : u.cell? a3 = some x3) (h4 : u.cell? a4 = some x4) (h5 : u.cell? a5 = some x5) : KC u u [(a0, x0), (a1, x1), (a2, x2), (a3, x3), (a4, x4), (a5, x5)] :=
  ⟨fun p hp => by simp at hp; rcases hp with rfl | rfl | rfl | rfl | rfl | rfl <;> assumption, Below.refl _ _⟩
theorem kc2c {u v v' : World} {a0 a1 : Addr} {x0 x1 : Value} (k : Below v.heap.size v v') (h : v.cell? a0 = some x0 ∧ v.cell? a1 = some x1 ∧ KC u v [(a0, x0), (a1, x1)]) : v'.cell? a0 = some x0 ∧ v'.cell? a1 = some x1 ∧ KC u v' [(a0, x0), (a1, x1)] := kc2 (KC.call h.2.2 k)
theorem kc4c {u v v' : World} {a0 a1 a2 a3 : Addr} {x0 x1 x2 x3 : Value} (k : Below v.heap.size v v') (h : v.cell? a0 = some x0 ∧ v.cell? a1 = some x1 ∧ v.cell? a2 = some x2 ∧ v.cell? a3 = some x3 ∧ KC u v [(a0, x0), (a1, x1), (a2, x2), (a3, x3)]) : v'.cell? a0 = some x0 ∧ v'.cell? a1 = some x1 ∧ v'.cell? a2 = some x2 ∧ v'.cell? a3 = some x3 ∧ KC u v' [(a0, x0), (a1, x1), (a2, x2), (a3, x3)] := kc4 (KC.call h.2.2.2.2 k)
theorem kc6c {u v v' : World} {a0 a1 a2 a3 a4 a5 : Addr} {x0 x1 x2 x3 x4 x5 : Value} (k : Below v.heap.size v v') (h : v.cell? a0 = some x0 ∧ v.cell? a1 = some x1 ∧ v.cell? a2 = some x2 ∧ v.cell? a3 = some x3 ∧ v.cell? a4 = some x4 ∧ v.cell? a5 = some x5 ∧ KC u v [(a0, x0), (a1, x1), (a2, x2), (a3, x3), (a4, x4), (a5, x5)]) : v'.cell? a0 = some x0 ∧ v'.cell? a1 = some x1 ∧ v'.cell? a2 = some x2 ∧ v'.cell? a3 = some x3 ∧ v'.cell? a4 = some x4 ∧ v'.cell? a5 = some x5 ∧ KC u v' [(a0, x0), (a1, x1), (a2, x2), (a3, x3), (a4, x4), (a5, x5)] := kc6 (KC.call h.2.2.2.2.2.2 k)
open Go.RowKit
def Bk (w : World) (g : Nat) (T : TypeId) (xs : List Value) : Prop := w.heap[g]? = some (.cells xs.toArray T (0, 0))
theorem Bk.lt {w : World} {g : Nat} {T : TypeId} {xs : List Value} (h : Bk w g T xs) : g < w.heap.size := (Array.getElem?_eq_some_iff.1 h).1
theorem Bk.to {w w' : World} {g : Nat} {T : TypeId} {xs : List Value} {R : Nat → Prop} (h : Bk w g T xs) (ho : Only R w w') (hR : ¬ R g) : Bk w' g T xs := (ho.block g h.lt hR).trans h
theorem Bk.below {w w' : World} {g : Nat} {T : TypeId} {xs : List Value} (h : Bk w g T xs) (hb : Below w.heap.size w w') : Bk w' g T xs := (hb.block g h.lt).trans h
theorem Bk.new (w : World) (T : TypeId) (xs : List Value) : Bk (w.alloc (.cells xs.toArray T)) w.heap.size T xs := heap_alloc_new w _
theorem Bk.cell {w : World} {g : Nat} {T : TypeId} {xs : List Value} (h : Bk w g T xs) {j : Nat} {u : Value} (hu : xs[j]? = some u) : w.cell? ⟨g, j, none⟩ = some u := by
  have h' : w.heap[g]? = some (.cells xs.toArray T (0, 0)) := h
  simp [World.cell?, h', hu]
theorem Bk.free {w : World} {g : Nat} {T : TypeId} {xs : List Value} (h : Bk w g T xs) (j : Nat) : w.frozen? ⟨g, j, none⟩ = false := by
  have h' : w.heap[g]? = some (.cells xs.toArray T (0, 0)) := h
  simp [World.frozen?, h']
theorem Bk.set {w : World} {g : Nat} {T : TypeId} {xs : List Value} (h : Bk w g T xs) (o : Nat) (x : Value) : Bk (w.setCell ⟨g, o, none⟩ x) g T (xs.set o x) := by
  have h' : w.heap[g]? = some (.cells xs.toArray T (0, 0)) := h
  show (w.setCell ⟨g, o, none⟩ x).heap[g]? = _
  simp [World.setCell, Array.getElem?_modify, h']
theorem Bk.setOther {w : World} {g : Nat} {T : TypeId} {xs : List Value} (h : Bk w g T xs) {b : Nat} (hb : g ≠ b) (o : Nat) (x : Value) : Bk (w.setCell ⟨b, o, none⟩ x) g T xs := by
  show (w.setCell ⟨b, o, none⟩ x).heap[g]? = _
  rw [Below.heap_setCell _ _ _ _ hb]
  exact h
theorem Bk.alloc {w : World} {g : Nat} {T : TypeId} {xs : List Value} (h : Bk w g T xs) (o : Obj) : Bk (w.alloc o) g T xs := by
  show (w.alloc o).heap[g]? = _
  rw [Below.heap_alloc _ _ _ h.lt]
  exact h
theorem Bk.rw {w : World} {g : Nat} {T : TypeId} {xs : List Value} {n c : Nat} (h : Bk w g T xs) (hn : n ≤ c) (hc : c ≤ 9223372036854775807) (h0 : n = 0 → xs = []) (S : Nat → Prop) (hS : S g) : Rw w S (.slice (some ⟨g, 0, none⟩) n c) n xs :=
  ⟨_, c, rfl, hn, hc, h0, fun h => by (cases h), fun _ => ⟨g, 0, rfl, h.lt, hS, fun j u hu => by rw [Nat.zero_add]; exact h.cell hu⟩⟩
theorem infoPairI : (Tryz.prog.info? 161).map (fun i => (i.zero, i.size, i.bytes)) = some (some (.agg #[.string ⟨#[]⟩, .string ⟨#[]⟩]), 2, 32) := by kernel_rfl
theorem run_make_n {P : Program} (t e : TypeId) (z : Value) (size bytes : Nat) (ht : P.underlying t = some (.slice e)) (hinfo : (P.info? e).map (fun i => (i.zero, i.size, i.bytes)) = some (some z, size, bytes)) (n : Nat) (hb : bytes * n ≤ 281474976710656) (h63 : n ≤ 9223372036854775807) (w : World) :
    (Instr.makeSlice t (.int .i64 (n : Int)) (.int .i64 (n : Int))).run P w = .ok (.slice (some ⟨w.heap.size, 0, none⟩) n n) (w.alloc (.cells (madeCells z.cells (n * size)) e)) := by
  obtain ⟨i, hi, hz⟩ := Option.map_eq_some_iff.1 hinfo
  simp only [Prod.mk.injEq] at hz
  obtain ⟨hz, rfl, rfl⟩ := hz
  have hb' : (i.bytes : Int) * (n : Int) ≤ 281474976710656 := by
    have h : ((i.bytes * n : Nat) : Int) ≤ 281474976710656 := by omega
    rwa [Int.natCast_mul] at h
  have := run_make (P := P) w t e i z ht hi hz .i64 .i64 n n (by omega) (Int.le_refl _) hb' (by omega)
  simpa using this
theorem eqPair_any (k v k' v' : ByteArray) (w : World) : Calls Tryz.prog 216 #[.agg #[.string k, .string v], .agg #[.string k', .string v']] w fun e w' => e = .returned (.bool (decide ((k, v) = (k', v')))) ∧ Below w.heap.size w w' := by
  by_cases h1 : k = k'
  · subst h1
    by_cases h2 : v = v'
    · subst h2
      have HE : Hid (decide ((k, v) = (k, v)) = true) := by show _ = _; simp
      go_enter Tryz.func216, Tryz.ntmps216
      go_wp2
      go_ret
      exact ⟨by first | rfl | (rw [HE.out]), below_new (below_new (Below.refl _ _))⟩
    · have HE : Hid (decide ((k, v) = (k, v')) = false) := by show _ = _; simp [h2]
      have t := str_beq h2
      clear h2
      go_enter Tryz.func216, Tryz.ntmps216
      go_wp2
      go_ret
      exact ⟨by rw [HE.out]; rfl, below_new (below_new (Below.refl _ _))⟩
  · have HE : Hid (decide ((k, v) = (k', v')) = false) := by show _ = _; simp [h1]
    have t := str_beq h1
    clear h1
    go_enter Tryz.func216, Tryz.ntmps216
    go_wp2
    go_ret
    exact ⟨by rw [HE.out]; rfl, below_new (below_new (Below.refl _ _))⟩
set_option maxHeartbeats 2000000 in
theorem eqPairS_at (S S' : Nat → Prop) (a a' : Option Addr) (n n' c c' : Nat) (l l' : List PB) (w : World) (h : Pr w S (.slice a n c) l) (h' : Pr w S' (.slice a' n' c') l') :
    Calls Tryz.prog 184 #[.slice a n c, .slice a' n' c'] w fun e w' => e = .returned (.bool (decide (l = l'))) ∧ Below w.heap.size w w' := by
  obtain ⟨hn, hnc, hcc⟩ := Rw.len h
  obtain ⟨hn', hnc', hcc'⟩ := Rw.len h'
  have HN := hid hn
  have HN' := hid hn'
  have H0 := hid h
  have H0' := hid h'
  clear h h' hn hn'
  by_cases hne : n = n'
  · subst hne
    have hz : ((n : Int) != (n : Int)) = false := by simp
    go_enter Tryz.func184, Tryz.ntmps184
    go_wp2
    go_loopw [5] (fun i wr => ∃ k : Nat, k ≤ n ∧ i = .int .i64 k ∧ Hid (Below w.heap.size w wr) ∧ Hid (l.take k = l'.take k)) (fun i _ => n - (intOf i).toNat)
    case atStart => exact ⟨0, Nat.zero_le _, rfl, Below.refl _ _, rfl⟩
    case round =>
      obtain ⟨k, hk, rfl, HB, HT⟩ := hrel
      by_cases hlt : k < n
      · have hlt' : (k : Int) < (n : Int) := by omega
        have HP := hid (H0.out.below HB.out)
        have HP' := hid (H0'.out.below HB.out)
        obtain ⟨b, off, rfl, _, hbw, hcell⟩ := HP.out.at (by omega)
        obtain ⟨b', off', rfl, _, hbw', hcell'⟩ := HP'.out.at (by omega)
        have hck := (hcell k hlt).1
        have hck1 := (hcell k hlt).2
        have hck' := (hcell' k hlt).1
        have hck1' := (hcell' k hlt).2
        have HS : Hid (pAtB l k = pAtB l' k → l.take (k + 1) = l'.take (k + 1)) := by
          intro e
          have hl : k < l.length := by rw [← HN.out]; exact hlt
          have hl' : k < l'.length := by rw [← HN'.out]; exact hlt
          rw [List.take_succ_eq_append_getElem hl, List.take_succ_eq_append_getElem hl', HT.out]
          simp [pAtB, hl, hl'] at e
          rw [e]
        have HF : Hid (pAtB l k ≠ pAtB l' k → decide (l = l') = false) := by
          intro e
          rw [decide_eq_false_iff_not]
          intro e'
          exact e (by rw [e'])
        clear hcell hcell' hbw hbw' HP HP' HT
        generalize pAtB l k = cur at *
        generalize pAtB l' k = cur' at *
        obtain ⟨ck, cv⟩ := cur
        obtain ⟨ck', cv'⟩ := cur'
        have T0 := hid (kc0_4 hck hck1 hck' hck1')
        by_cases he : (ck, cv) = (ck', cv')
        · have HS1 := hid (HS.out he)
          have C1 : ∀ v, Calls Tryz.prog 216 #[.agg #[.string ck, .string cv], .agg #[.string ck', .string cv']] v fun e w' => e = .returned (.bool true) ∧ Below v.heap.size v w' := fun v => by
            have := eqPair_any ck cv ck' cv' v
            rwa [decide_eq_true he] at this
          clear he HS HF hck hck1 hck' hck1'
          go_wp2_with fail
          go_region_held3 (fun v => v.cell? ⟨b, off + k * 2, none⟩ = some (.string ck) ∧ v.cell? ⟨b, off + k * 2 + 1, none⟩ = some (.string cv) ∧ v.cell? ⟨b', off' + k * 2, none⟩ = some (.string ck') ∧ v.cell? ⟨b', off' + k * 2 + 1, none⟩ = some (.string cv') ∧ KC wr v [(⟨b, off + k * 2, none⟩, .string ck), (⟨b, off + k * 2 + 1, none⟩, .string cv), (⟨b', off' + k * 2, none⟩, .string ck'), (⟨b', off' + k * 2 + 1, none⟩, .string cv')])
            (first | assumption | exact kc4 (T0.out.call (below_drew _)) | exact kc4c hbC (by assumption))
            (first | (go_at_call 216; refine (C1 _).mono ?_; rintro e w' ⟨rfl, hbC⟩))
          all_goals (rename_i hS; have HB1 := hid (Below.then' HB.out hS.2.2.2.2.bel (Nat.le_refl _)); clear hS; go_wp2)
          go_roundw
          case rel => exact ⟨k + 1, by omega, by go_num, HB1.out, HS1.out⟩
          case measure => simp [intOf]; omega
        · have HF1 := hid (HF.out he)
          have C1 : ∀ v, Calls Tryz.prog 216 #[.agg #[.string ck, .string cv], .agg #[.string ck', .string cv']] v fun e w' => e = .returned (.bool false) ∧ Below v.heap.size v w' := fun v => by
            have := eqPair_any ck cv ck' cv' v
            rwa [decide_eq_false he] at this
          clear he HS HF hck hck1 hck' hck1'
          go_wp2_with fail
          go_region_held3 (fun v => v.cell? ⟨b, off + k * 2, none⟩ = some (.string ck) ∧ v.cell? ⟨b, off + k * 2 + 1, none⟩ = some (.string cv) ∧ v.cell? ⟨b', off' + k * 2, none⟩ = some (.string ck') ∧ v.cell? ⟨b', off' + k * 2 + 1, none⟩ = some (.string cv') ∧ KC wr v [(⟨b, off + k * 2, none⟩, .string ck), (⟨b, off + k * 2 + 1, none⟩, .string cv), (⟨b', off' + k * 2, none⟩, .string ck'), (⟨b', off' + k * 2 + 1, none⟩, .string cv')])
            (first | assumption | exact kc4 (T0.out.call (below_drew _)) | exact kc4c hbC (by assumption))
            (first | (go_at_call 216; refine (C1 _).mono ?_; rintro e w' ⟨rfl, hbC⟩))
          all_goals (rename_i hS; have HB1 := hid (Below.then' HB.out hS.2.2.2.2.bel (Nat.le_refl _)); clear hS; go_wp2)
          go_ret
          exact ⟨by rw [HF1.out]; rfl, HB1.out⟩
      · have HF : Hid (decide (l = l') = true) := by
          show decide (l = l') = true
          have hk' : k = n := by omega
          have e := HT.out
          have e1 : l.length ≤ k := by rw [← HN.out]; omega
          have e2 : l'.length ≤ k := by rw [← HN'.out]; omega
          rw [List.take_of_length_le e1, List.take_of_length_le e2] at e
          simp [e]
        clear HT
        go_wp2
        go_ret
        exact ⟨by rw [HF.out]; rfl, HB.out⟩
  · have hz : ((n : Int) != (n' : Int)) = true := by simp; omega
    have HF : Hid (decide (l = l') = false) := by
      show decide (l = l') = false
      rw [decide_eq_false_iff_not]
      intro e
      exact hne (by rw [HN.out, HN'.out, e])
    clear hne
    go_enter Tryz.func184, Tryz.ntmps184
    go_wp2
    go_ret
    exact ⟨by rw [HF.out]; rfl, Below.refl _ _⟩
open Go.RowKit
def Sr (w : World) (S : Nat → Prop) (v : Value) (ss : List ByteArray) : Prop := Rw w S v ss.length (ss.map Value.string)
def Ir (w : World) (S : Nat → Prop) (v : Value) (ks : List Int) : Prop := Rw w S v ks.length (ks.map (Value.int .i64))
def sAt (ss : List ByteArray) (i : Nat) : ByteArray := ss[i]?.getD ⟨#[]⟩
def iAt (ks : List Int) (i : Nat) : Int := ks[i]?.getD 0
theorem Sr.to {w w' : World} {S R : Nat → Prop} {v : Value} {ss : List ByteArray} (h : Sr w S v ss) (ho : Only R w w') (hd : ∀ b, S b → b < w.heap.size → ¬ R b) : Sr w' S v ss := Rw.to h ho hd
theorem Ir.to {w w' : World} {S R : Nat → Prop} {v : Value} {ss : List Int} (h : Ir w S v ss) (ho : Only R w w') (hd : ∀ b, S b → b < w.heap.size → ¬ R b) : Ir w' S v ss := Rw.to h ho hd
theorem Pr.to {w w' : World} {S R : Nat → Prop} {v : Value} {ss : List PB} (h : Pr w S v ss) (ho : Only R w w') (hd : ∀ b, S b → b < w.heap.size → ¬ R b) : Pr w' S v ss := Rw.to h ho hd
theorem Rw.below {w w' : World} {S : Nat → Prop} {v : Value} {n : Nat} {xs : List Value} (h : Rw w S v n xs) (hb : Below w.heap.size w w') : Rw w' S v n xs := Rw.to h (only_of_below hb (fun _ => False)) (fun _ _ _ h => h)
theorem Sr.below {w w' : World} {S : Nat → Prop} {v : Value} {ss : List ByteArray} (h : Sr w S v ss) (hb : Below w.heap.size w w') : Sr w' S v ss := Rw.below h hb
theorem Ir.below {w w' : World} {S : Nat → Prop} {v : Value} {ss : List Int} (h : Ir w S v ss) (hb : Below w.heap.size w w') : Ir w' S v ss := Rw.below h hb
theorem Sr.shape {w : World} {S : Nat → Prop} {v : Value} {ss : List ByteArray} (h : Sr w S v ss) : ∃ a c, v = .slice a ss.length c ∧ ss.length ≤ c ∧ c ≤ 9223372036854775807 := Rw.shape h
theorem Ir.shape {w : World} {S : Nat → Prop} {v : Value} {ss : List Int} (h : Ir w S v ss) : ∃ a c, v = .slice a ss.length c ∧ ss.length ≤ c ∧ c ≤ 9223372036854775807 := Rw.shape h
theorem Rw.at {w : World} {S : Nat → Prop} {a : Option Addr} {n c m : Nat} {xs : List Value} (h : Rw w S (.slice a n c) m xs) (hp : 0 < n) : ∃ b off, a = some ⟨b, off, none⟩ ∧ S b ∧ b < w.heap.size ∧ ∀ j u, xs[j]? = some u → w.cell? ⟨b, off + j, none⟩ = some u := by
  obtain ⟨a', c', h1, h2, h3, h4, hn, h5⟩ := h
  cases h1
  obtain ⟨b, off, h6, h7, h8, h9⟩ := h5 hp
  exact ⟨b, off, h6, h8, h7, h9⟩
theorem Sr.at {w : World} {S : Nat → Prop} {a : Option Addr} {n c : Nat} {ss : List ByteArray} (h : Sr w S (.slice a n c) ss) (hp : 0 < n) : ∃ b off, a = some ⟨b, off, none⟩ ∧ S b ∧ b < w.heap.size ∧ ∀ i, i < n → w.cell? ⟨b, off + i, none⟩ = some (.string (sAt ss i)) := by
  have hn := (Rw.len h).1
  obtain ⟨b, off, h1, h2, h3, h4⟩ := Rw.at h hp
  refine ⟨b, off, h1, h2, h3, fun i hi => h4 i _ ?_⟩
  simp [sAt, show i < ss.length by omega]
theorem Ir.at {w : World} {S : Nat → Prop} {a : Option Addr} {n c : Nat} {ss : List Int} (h : Ir w S (.slice a n c) ss) (hp : 0 < n) : ∃ b off, a = some ⟨b, off, none⟩ ∧ S b ∧ b < w.heap.size ∧ ∀ i, i < n → w.cell? ⟨b, off + i, none⟩ = some (.int .i64 (iAt ss i)) := by
  have hn := (Rw.len h).1
  obtain ⟨b, off, h1, h2, h3, h4⟩ := Rw.at h hp
  refine ⟨b, off, h1, h2, h3, fun i hi => h4 i _ ?_⟩
  simp [iAt, show i < ss.length by omega]
abbrev V3 := Value × Value × Value
def ncs : List V3 → List Value
  | [] => []
  | p :: ps => p.1 :: p.2.1 :: p.2.2 :: ncs ps
def vAt (V : List V3) (i : Nat) : V3 := V[i]?.getD (.slice none 0 0, .slice none 0 0, .slice none 0 0)
theorem ncs_at (ps : List V3) : ∀ i, i < ps.length → (ncs ps)[i * 3]? = some (vAt ps i).1 ∧ (ncs ps)[i * 3 + 1]? = some (vAt ps i).2.1 ∧ (ncs ps)[i * 3 + 2]? = some (vAt ps i).2.2 := by
  induction ps with
  | nil => intro i h; exact absurd h (Nat.not_lt_zero _)
  | cons p ps ih =>
    intro i h
    cases i with
    | zero => exact ⟨rfl, rfl, rfl⟩
    | succ i =>
      have := ih i (by simpa using h)
      have e : (i + 1) * 3 = i * 3 + 3 := by omega
      rw [e]
      exact this
def N1 (w : World) (S : Nat → Prop) (p : V3) (x : NB) : Prop := Pr w S p.1 x.ps ∧ Sr w S p.2.1 x.keys ∧ Ir w S p.2.2 x.kids
theorem N1.to {w w' : World} {S R : Nat → Prop} {p : V3} {x : NB} (h : N1 w S p x) (ho : Only R w w') (hd : ∀ b, S b → b < w.heap.size → ¬ R b) : N1 w' S p x := ⟨h.1.to ho hd, h.2.1.to ho hd, h.2.2.to ho hd⟩
theorem N1.mono {w : World} {S R : Nat → Prop} {p : V3} {x : NB} (h : N1 w S p x) (hd : ∀ b, S b → b < w.heap.size → R b) : N1 w R p x := ⟨Rw.mono h.1 hd, Rw.mono h.2.1 hd, Rw.mono h.2.2 hd⟩
def Nr (w : World) (S : Nat → Prop) (v : Value) (ns : List NB) : Prop := ∃ V : List V3, V.length = ns.length ∧ Rw w S v ns.length (ncs V) ∧ ∀ i, i < ns.length → N1 w S (vAt V i) (nAt ns i)
theorem Nr.to {w w' : World} {S R : Nat → Prop} {v : Value} {ns : List NB} (h : Nr w S v ns) (ho : Only R w w') (hd : ∀ b, S b → b < w.heap.size → ¬ R b) : Nr w' S v ns := by
  obtain ⟨V, h1, h2, h3⟩ := h
  exact ⟨V, h1, h2.to ho hd, fun i hi => (h3 i hi).to ho hd⟩
theorem Nr.mono {w : World} {S R : Nat → Prop} {v : Value} {ns : List NB} (h : Nr w S v ns) (hd : ∀ b, S b → b < w.heap.size → R b) : Nr w R v ns := by
  obtain ⟨V, h1, h2, h3⟩ := h
  exact ⟨V, h1, h2.mono hd, fun i hi => (h3 i hi).mono hd⟩
theorem Nr.below {w w' : World} {S : Nat → Prop} {v : Value} {ns : List NB} (h : Nr w S v ns) (hb : Below w.heap.size w w') : Nr w' S v ns := h.to (only_of_below hb (fun _ => False)) (fun _ _ _ h => h)
theorem Nr.len {w : World} {S : Nat → Prop} {a : Option Addr} {n c : Nat} {ns : List NB} (h : Nr w S (.slice a n c) ns) : n = ns.length ∧ n ≤ c ∧ c ≤ 9223372036854775807 := by
  obtain ⟨V, h1, h2, h3⟩ := h
  exact Rw.len h2
theorem Nr.at {w : World} {S : Nat → Prop} {a : Option Addr} {n c : Nat} {ns : List NB} (h : Nr w S (.slice a n c) ns) (hp : 0 < n) : ∃ b off, a = some ⟨b, off, none⟩ ∧ S b ∧ b < w.heap.size ∧ ∀ i, i < n → ∃ ap np cp ax nx cx ai ni ci,
    w.cell? ⟨b, off + i * 3, none⟩ = some (.slice ap np cp) ∧ w.cell? ⟨b, off + i * 3 + 1, none⟩ = some (.slice ax nx cx) ∧ w.cell? ⟨b, off + i * 3 + 2, none⟩ = some (.slice ai ni ci) ∧
      Pr w S (.slice ap np cp) (nAt ns i).ps ∧ Sr w S (.slice ax nx cx) (nAt ns i).keys ∧ Ir w S (.slice ai ni ci) (nAt ns i).kids := by
  obtain ⟨V, h1, h2, h3⟩ := h
  have hn := (Rw.len h2).1
  obtain ⟨b, off, e1, e2, e3, e4⟩ := h2.at hp
  refine ⟨b, off, e1, e2, e3, fun i hi => ?_⟩
  obtain ⟨k1, k2, k3⟩ := h3 i (by omega)
  obtain ⟨c0, c1, c2⟩ := ncs_at V i (by omega)
  have d0 := e4 _ _ c0
  have d1 := e4 _ _ c1
  have d2 := e4 _ _ c2
  generalize vAt V i = p at *
  obtain ⟨p0, p1, p2⟩ := p
  obtain ⟨ap, cp, g0, _⟩ := k1.shape
  obtain ⟨ax, cx, g1, _⟩ := k2.shape
  obtain ⟨ai, ci, g2, _⟩ := k3.shape
  simp only at g0 g1 g2
  subst g0 g1 g2
  exact ⟨ap, _, cp, ax, _, cx, ai, _, ci, d0, d1, d2, k1, k2, k3⟩
open Go.RowKit
theorem s2 {w w1 : World} {lo hi : ByteArray} {T : TypeId} (h : Below (w.alloc (.cells #[.string lo, .string hi] T)).heap.size (w.alloc (.cells #[.string lo, .string hi] T)) w1) :
    w1.cell? ⟨w.heap.size, 0, none⟩ = some (.string lo) ∧ w1.cell? ⟨w.heap.size, 1, none⟩ = some (.string hi) ∧ Below (w.alloc (.cells #[.string lo, .string hi] T)).heap.size (w.alloc (.cells #[.string lo, .string hi] T)) w1 := by
  refine ⟨?_, ?_, h⟩
  · rw [h.cell (p := ⟨w.heap.size, 0, none⟩) (by simp), World.cell?_alloc_at (hn := rfl)]; rfl
  · rw [h.cell (p := ⟨w.heap.size, 1, none⟩) (by simp), World.cell?_alloc_at (hn := rfl)]; rfl
open Go.RowKit
def sOkF (ss : List ByteArray) : Nat → Nat → Bool
  | 0, _ => true
  | f + 1, k => kOk (ss[k]?.getD ⟨#[]⟩) && (decide (k = 0) || Op.bytesLess (ss[k - 1]?.getD ⟨#[]⟩).toList (ss[k]?.getD ⟨#[]⟩).toList) && sOkF ss f (k + 1)
open Go.RowKit
structure PG where
  keys : List ByteArray
  vals : List ByteArray
  kids : List Int
def kidOk (k : Int) : Bool := decide (2 ≤ k) && decide (k < 400)
def pgLeaf (p : PG) : Bool := p.vals.all vOk && (decide (1 ≤ p.keys.length) && decide (p.keys.length ≤ 4) && decide (p.vals.length = p.keys.length))
def pgBranch (p : PG) : Bool := p.kids.all kidOk && (decide (2 ≤ p.kids.length) && decide (p.kids.length ≤ 4) && decide (p.keys.length + 1 = p.kids.length) && decide (p.vals.length = 0))
def pgOk (p : PG) : Bool := sOkF p.keys p.keys.length 0 && (if p.kids.length = 0 then pgLeaf p else pgBranch p)
structure Pgr (w : World) (S : Nat → Prop) (ka : Option Addr) (kn kc : Nat) (va : Option Addr) (vn vc : Nat) (ia : Option Addr) (jn ic : Nat) (p : PG) : Prop where
  hk : Sr w S (.slice ka kn kc) p.keys
  hv : Sr w S (.slice va vn vc) p.vals
  hi : Ir w S (.slice ia jn ic) p.kids
open Go.RowKit
def Ob (w : World) (B : Nat) (v : Value) (zs : List Int) : Prop := w.ownsRow B 5 1 v zs.length (zs.map (Value.int .u8))
theorem run_append_own_nil {P : Program} {w : World} {base : Nat} {t ty e : TypeId} {i : TypeInfo} (ht : P.underlying t = some (.slice e)) (hi : P.info? e = some i)
    {v : Value} {n : Nat} {xs : List Value} (hown : w.ownsRow base e 1 v n xs) (c : Nat) :
    (Builtin.append_ #[t, t] ty #[v, .slice none 0 c]).run P w = .ok v w := by
  rcases hown.2 with ⟨rfl, rfl⟩ | ⟨g, cap, cur, rfl, hbg, hg, hnc, hcm, hcs, htake⟩
  · simp [Builtin.append_, run_underlying ht, sizeOf, typeInfo, hi, Builtin.lenOf, Builtin.firstCells]
  · have hr := run_append_room_src (P := P) w t t ty e i ht hi g 0 n cap (.slice none 0 c) 0 [] (Src.ofNil w ht c) (by omega) (by intro j hj; simp at hj) (by intro j hj; simp at hj)
    rw [hr]
    rfl
theorem run_append_rd {w : World} (ty : TypeId) (base : Nat) (v : Value) (zs : List Int) (hown : Ob w base v zs) (ao : Option Addr) (m c : Nat) (ys : List Int) (hsrc : Rd w ao m c ys)
    (hb : zs.length + ys.length ≤ 70368744177664) (hbase : base ≤ w.heap.size) :
    ∃ v' w', (Builtin.append_ #[71, 71] ty #[v, .slice ao m c]).run Tryz.prog w = .ok v' w' ∧ Ob w' base v' (zs ++ ys) ∧ w.grownBy w' v.ownBlock := by
  obtain ⟨i0, hi, hz0, hz1, hz2⟩ := info_parts infoU8
  obtain ⟨h1, h2, h3, h30, h4, h5⟩ := hsrc
  cases ao with
  | none =>
    have hm : m = 0 := by
      rcases Nat.eq_zero_or_pos m with h | h
      · exact h
      · obtain ⟨b, off, e, _⟩ := h5 h
        cases e
    subst hm
    have hy : ys = [] := List.eq_nil_of_length_eq_zero h1.symm
    subst hy
    exact ⟨v, w, run_append_own_nil Tryz.underlying71 hi hown c, by simpa using hown, ⟨rfl, rfl, rfl, Nat.le_refl _, fun _ _ _ => rfl⟩⟩
  | some ad =>
    obtain ⟨v', w', hr, ho, hg, _⟩ := run_append_own (P := Tryz.prog) w base 71 ty 5 i0 (.int .u8 0) 1 1 Tryz.underlying71 hi hz0 hz1 hz2 rfl (by decide) v zs.length (zs.map (Value.int .u8)) hown ad m c (ys.map (Value.int .u8))
      (by simp [h1]) (by
        intro j u hu
        have hj : j < ys.length := by
          have := (List.getElem?_eq_some_iff.1 hu).1
          simpa using this
        obtain ⟨b, off, e, _, hc⟩ := h5 (by omega)
        cases e
        have := hc j (by omega)
        rw [Addr.add_lit, this]
        simp [hj] at hu
        simp [hj, hu]) (by
        intro u hu
        obtain ⟨x, _, rfl⟩ := List.mem_map.1 hu
        rfl) (by unfold maxLen; omega) (by omega) hbase
    refine ⟨v', w', hr, ?_, hg⟩
    unfold Ob
    rw [List.length_append, List.map_append, ← h1]
    exact ho
theorem wpList_append_rd {w : World} {ops : Array Oper} {rest : List Oper} {o : Oper} {a : Act} {Q : Exit → Act → World → Prop} (hgd : o.guard = none) (s x : Operand)
    (ho : o.op = .call { callee := .builtin .append, args := #[s, x], argTypes := #[71, 71] }) (base : Nat) (v : Value) (zs : List Int) (hs : a.eval s = v) (hown : Ob w base v zs)
    (ao : Option Addr) (m c : Nat) (ys : List Int) (hx : a.eval x = .slice ao m c) (hsrc : Rd w ao m c ys) (hb : zs.length + ys.length ≤ 70368744177664) (hbase : base ≤ w.heap.size)
    (h : ∀ v' w', Ob w' base v' (zs ++ ys) → w.grownBy w' v.ownBlock → wpList Tryz.prog ops Q rest (a.put o.dst v') w') : wpList Tryz.prog ops Q (o :: rest) a w := by
  refine wpList_plain hgd fun K hK => ?_
  obtain ⟨v', w', hr, h2, h3⟩ := run_append_rd (w := w) o.type base v zs hown ao m c ys hsrc hb hbase
  unfold Oper.wp execOp
  simp only [ho, resolve, invoke, builtin, Sem.run_bind, Sem.run_pure, Result.andThen_ok, List.map_toArray, List.map_cons, List.map_nil, hs, hx, hr]
  exact hK _ _ (h v' w' h2 h3)
theorem Ob.rd {w : World} {B : Nat} {v : Value} {zs : List Int} (h : Ob w B v zs) (hl : ∀ i : Nat, 0 ≤ zs[i]?.getD 0 ∧ zs[i]?.getD 0 ≤ 255) (hb : zs.length ≤ 70368744177664) :
    ∃ a c, v = .slice a zs.length c ∧ Rd w a zs.length c zs ∧ ∀ x, a = some x → B ≤ x.block := by
  rcases h.2 with ⟨rfl, h0⟩ | ⟨g, cap, cur, rfl, hbg, hg, hnc, hcm, hcs, htake⟩
  · exact ⟨none, 0, by rw [h0], ⟨rfl, by omega, by omega, by omega, hl, fun hp => by omega⟩, fun x hx => by cases hx⟩
  · refine ⟨some ⟨g, 0, none⟩, cap, rfl, ⟨rfl, hnc, by unfold maxLen at hcm; omega, by omega, hl, fun _ => ⟨g, 0, rfl, ?_, fun i hi => ?_⟩⟩, fun x hx => by cases hx; exact hbg⟩
    · rcases Nat.lt_or_ge g w.heap.size with h | h
      · exact h
      · rw [Array.getElem?_eq_none h] at hg; cases hg
    · have hc := h.cells (g := g) rfl i (.int .u8 (zs[i]?.getD 0)) (by simp [hi])
      rw [Addr.add_lit] at hc
      exact hc
theorem Ob.shape {w : World} {B : Nat} {v : Value} {zs : List Int} (h : Ob w B v zs) : ∃ a c, v = .slice a zs.length c := by
  rcases h.2 with ⟨rfl, h0⟩ | ⟨g, cap, cur, rfl, _⟩
  · exact ⟨none, 0, by rw [h0]⟩
  · exact ⟨_, cap, rfl⟩
theorem Ob.alloc {w : World} {B : Nat} {v : Value} {zs : List Int} (h : Ob w B v zs) (o : Obj) : Ob (w.alloc o) B v zs := World.ownsRow.alloc h o
theorem ob_new (w : World) (B : Nat) (hB : B ≤ w.heap.size) : Ob (w.alloc (.cells #[] 5)) B (.slice (some ⟨w.heap.size, 0, none⟩) 0 0) [] :=
  ⟨rfl, .inr ⟨w.heap.size, 0, #[], rfl, hB, heap_alloc_new w _, Nat.le_refl _, by decide, rfl, rfl⟩⟩
theorem Ob.below {w w1 w2 : World} {B : Nat} {v : Value} {zs : List Int} (h : Ob w1 B v zs) (hb : Below B w w1) (hB : B ≤ w1.heap.size) (hg : w1.grownBy w2 v.ownBlock) : Below B w w2 :=
  hb.grown hg hB fun k hk => (World.ownsRow.lt h k hk).1
theorem rd_one (w : World) (z : Int) (h0 : 0 ≤ z) (h1 : z ≤ 255) : Rd (w.alloc (.cells #[.int .u8 z] 5)) (some ⟨w.heap.size, 0, none⟩) 1 1 [z] := by
  refine ⟨rfl, Nat.le_refl _, by omega, by omega, fun i => ?_, fun _ => ⟨w.heap.size, 0, rfl, by simp, fun i hi => ?_⟩⟩
  · match i with
    | 0 => exact ⟨h0, h1⟩
    | n + 1 => simp
  · have : i = 0 := by omega
    subst this
    rw [World.cell?_alloc_at (hn := rfl)]
    simp
def encF : Nat → Int → List Int
  | 0, n => [n]
  | f + 1, n => if 128 ≤ n then (128 + n % 128) :: encF f (n / 128) else [n]
def enc (n : Int) : List Int := encF 6 n
def bnd : Nat → Int
  | 0 => 128
  | f + 1 => 128 * bnd f
theorem encF_small (f : Nat) (n : Int) (h : n < 128) : encF f n = [n] := by
  cases f with
  | zero => rfl
  | succ f => simp only [encF]; rw [if_neg (by omega)]
theorem encF_big (f : Nat) (n : Int) (h : 128 ≤ n) : encF (f + 1) n = (128 + n % 128) :: encF f (n / 128) := by
  simp only [encF]; rw [if_pos h]
theorem bnd_down (f : Nat) (n : Int) (h : n < bnd (f + 1)) : n / 128 < bnd f := by
  simp only [bnd] at h
  omega
theorem encF_byte (f : Nat) : ∀ n : Int, 0 ≤ n → n < bnd f → ∀ z ∈ encF f n, 0 ≤ z ∧ z ≤ 255 := by
  induction f with
  | zero =>
    intro n h0 h1 z hz
    simp [encF] at hz
    simp [bnd] at h1
    omega
  | succ f ih =>
    intro n h0 h1 z hz
    by_cases h : 128 ≤ n
    · rw [encF_big f n h] at hz
      rcases List.mem_cons.1 hz with e | e
      · omega
      · exact ih (n / 128) (by omega) (bnd_down f n h1) z e
    · rw [encF_small _ n (by omega)] at hz
      simp at hz
      omega
theorem encF_len (f : Nat) : ∀ n : Int, 1 ≤ (encF f n).length ∧ (encF f n).length ≤ f + 1 := by
  induction f with
  | zero => intro n; simp [encF]
  | succ f ih =>
    intro n
    by_cases h : 128 ≤ n
    · rw [encF_big f n h]
      have := ih (n / 128)
      simp; omega
    · rw [encF_small _ n (by omega)]
      simp
theorem enc_byte (n : Int) (h0 : 0 ≤ n) (h1 : n ≤ 1099511627775) : ∀ z ∈ enc n, 0 ≤ z ∧ z ≤ 255 := encF_byte 6 n h0 (by simp [bnd]; omega)
theorem enc_len (n : Int) : 1 ≤ (enc n).length ∧ (enc n).length ≤ 7 := encF_len 6 n
theorem byte_at {zs : List Int} (h : ∀ z ∈ zs, 0 ≤ z ∧ z ≤ 255) (i : Nat) : 0 ≤ zs[i]?.getD 0 ∧ zs[i]?.getD 0 ≤ 255 := by
  by_cases hi : i < zs.length
  · have := h zs[i] (List.getElem_mem hi)
    simpa [hi] using this
  · have : zs[i]? = none := List.getElem?_eq_none (by omega)
    simp [this]
theorem at_byte {zs : List Int} (h : ∀ i : Nat, 0 ≤ zs[i]?.getD 0 ∧ zs[i]?.getD 0 ≤ 255) : ∀ z ∈ zs, 0 ≤ z ∧ z ≤ 255 := by
  intro z hz
  obtain ⟨i, hi, rfl⟩ := List.getElem_of_mem hz
  have := h i
  simpa [hi] using this
theorem byte_append {xs ys : List Int} (hx : ∀ z ∈ xs, 0 ≤ z ∧ z ≤ 255) (hy : ∀ z ∈ ys, 0 ≤ z ∧ z ≤ 255) : ∀ z ∈ xs ++ ys, 0 ≤ z ∧ z ≤ 255 := by
  intro z hz
  rcases List.mem_append.1 hz with h | h
  · exact hx z h
  · exact hy z h
def pv (zs : List Int) (n : Int) : Option (List Int) := if (0 ≤ n ∧ n ≤ 1099511627775) ∧ (zs ++ enc n).length ≤ 4096 then some (zs ++ enc n) else none
def gvGo : Nat → List Int → Nat → Int → Int → Int × Int
  | 0, _, _, _, _ => (0, -1)
  | f + 1, zs, k, n, u =>
    if k < zs.length then
      if 128 ≤ zs[k]?.getD 0 then gvGo f zs (k + 1) (n + (zs[k]?.getD 0 - 128) * u) (u * 128)
      else if 1099511627775 < n + zs[k]?.getD 0 * u ∨ (zs[k]?.getD 0 = 0 ∧ 1 < u) then (0, -1) else (n + zs[k]?.getD 0 * u, (k : Int) + 1)
    else (0, -1)
def gv (zs : List Int) (at' : Int) : Int × Int := if at' < 0 then (0, -1) else gvGo 6 zs at'.toNat 0 1
theorem gvGo_more (f : Nat) (zs : List Int) (k : Nat) (n u : Int) (h : k < zs.length) (hd : 128 ≤ zs[k]?.getD 0) : gvGo (f + 1) zs k n u = gvGo f zs (k + 1) (n + (zs[k]?.getD 0 - 128) * u) (u * 128) := by
  simp only [gvGo]; rw [if_pos h, if_pos hd]
theorem gvGo_good (f : Nat) (zs : List Int) (k : Nat) (n u : Int) (h : k < zs.length) (hd : zs[k]?.getD 0 < 128) (hb : ¬ (1099511627775 < n + zs[k]?.getD 0 * u ∨ (zs[k]?.getD 0 = 0 ∧ 1 < u))) : gvGo (f + 1) zs k n u = (n + zs[k]?.getD 0 * u, (k : Int) + 1) := by
  simp only [gvGo]; rw [if_pos h, if_neg (by omega), if_neg hb]
open Go.RowKit
def Wr (w : World) (g most : Nat) (st : Option (List Int)) : Prop :=
  ∃ v ev zs, w.cell? ⟨g, 0, none⟩ = some v ∧ w.cell? ⟨g, 1, none⟩ = some (.int .i64 most) ∧ w.cell? ⟨g, 2, none⟩ = some ev ∧
    w.frozen? ⟨g, 0, none⟩ = false ∧ w.frozen? ⟨g, 2, none⟩ = false ∧ Ob w (g + 1) v zs ∧ zs.length ≤ most ∧ most ≤ 1099511627776 ∧ (∀ z ∈ zs, 0 ≤ z ∧ z ≤ 255) ∧
    ((ev = .nilIface ∧ st = some zs) ∨ ((∃ t x, ev = .iface t x) ∧ st = none))
def Err (w : World) (v : Nat) : Prop := ∃ t x, w.cell? ⟨v, 0, none⟩ = some (.iface t x)
theorem Err.below {w w' : World} {v g : Nat} (h : Err w v) (hb : Below g w w') (hv : v < g) : Err w' v := by
  obtain ⟨t, x, hc⟩ := h
  exact ⟨t, x, by rw [hb.cell (p := ⟨v, 0, none⟩) hv]; exact hc⟩
def addSt (most : Nat) : Option (List Int) → List Int → Option (List Int)
  | none, _ => none
  | some zs, ys => if zs.length + ys.length ≤ most then some (zs ++ ys) else none
theorem Ob.drewN {w : World} {B : Nat} {v : Value} {zs : List Int} (h : Ob w B v zs) (q : Nat) : Ob (w.drewN q) B v zs := h
theorem Rd.drewN {w : World} {a : Option Addr} {n c : Nat} {zs : List Int} (h : Rd w a n c zs) (q : Nat) : Rd (w.drewN q) a n c zs := h
set_option maxHeartbeats 400000 in
theorem fail_set (g : Nat) (t : TypeId) (x : Value) (w : World) (h : w.cell? ⟨g, 2, none⟩ = some .nilIface) (hf : w.frozen? ⟨g, 2, none⟩ = false) :
    Calls Tryz.prog 204 #[.pointer (some ⟨g, 0, none⟩), .iface t x] w fun e w' => e = .returned (.tuple #[]) ∧ w' = w.setCell ⟨g, 2, none⟩ (.iface t x) := by
  go_enter Tryz.func204, Tryz.ntmps204
  go_wp2
  go_end0
  exact ⟨rfl, rfl⟩
set_option maxHeartbeats 400000 in
theorem fail_keep (g : Nat) (t : TypeId) (x : Value) (w : World) (y : TypeId) (z : Value) (h : w.cell? ⟨g, 2, none⟩ = some (.iface y z)) :
    Calls Tryz.prog 204 #[.pointer (some ⟨g, 0, none⟩), .iface t x] w fun e w' => e = .returned (.tuple #[]) ∧ w = w' := by
  go_enter Tryz.func204, Tryz.ntmps204
  go_wp2
  go_end0
  exact ⟨rfl, rfl⟩
theorem wr_failed {w : World} {g most : Nat} {zs : List Int} {v : Value} {t : TypeId} {x : Value} (c0 : w.cell? ⟨g, 0, none⟩ = some v) (c1 : w.cell? ⟨g, 1, none⟩ = some (.int .i64 most)) (c2 : w.cell? ⟨g, 2, none⟩ = some .nilIface)
    (f0 : w.frozen? ⟨g, 0, none⟩ = false) (f2 : w.frozen? ⟨g, 2, none⟩ = false) (ho : Ob w (g + 1) v zs) (hl : zs.length ≤ most) (hm : most ≤ 1099511627776) (hb : ∀ z ∈ zs, 0 ≤ z ∧ z ≤ 255) :
    Wr (w.setCell ⟨g, 2, none⟩ (.iface t x)) g most none := by
  refine ⟨v, .iface t x, zs, ?_, ?_, ?_, ?_, ?_, ownsRow_setCell_below ho (by simp) _, hl, hm, hb, .inr ⟨⟨t, x, rfl⟩, rfl⟩⟩
  · rw [World.cell?_setCell_other (h := by simp)]; exact c0
  · rw [World.cell?_setCell_other (h := by simp)]; exact c1
  · exact World.cell?_setCell_same _ _ _ c2
  · simp [f0]
  · simp [f2]
theorem Wr.drewN {w : World} {g most : Nat} {st : Option (List Int)} (h : Wr w g most st) (q : Nat) : Wr (w.drewN q) g most st := h
theorem Wr.lt {w : World} {g most : Nat} {st : Option (List Int)} (h : Wr w g most st) : g < w.heap.size := by
  obtain ⟨v, ev, zs, c0, _⟩ := h
  exact block_lt c0
theorem Wr.alloc {w : World} {g most : Nat} {st : Option (List Int)} (h : Wr w g most st) (o : Obj) : Wr (w.alloc o) g most st := by
  have hlt := h.lt
  obtain ⟨v, ev, zs, c0, c1, c2, f0, f2, ho, hr⟩ := h
  exact ⟨v, ev, zs, by rw [World.cell?_alloc_past (hn := hlt)]; exact c0, by rw [World.cell?_alloc_past (hn := hlt)]; exact c1, by rw [World.cell?_alloc_past (hn := hlt)]; exact c2,
    by rw [World.frozen?_alloc_past (hn := hlt)]; exact f0, by rw [World.frozen?_alloc_past (hn := hlt)]; exact f2, ho.alloc o, hr⟩
set_option maxHeartbeats 800000 in
theorem add_any (g most : Nat) (st : Option (List Int)) (a : Option Addr) (n c : Nat) (ys : List Int) (w : World) (h : Wr w g most st) (he : Err w 0) (hs : Rd w a n c ys) (hn : n ≤ 1099511627776) :
    Calls Tryz.prog 156 #[.pointer (some ⟨g, 0, none⟩), .slice a n c] w fun e w' => e = .returned (.tuple #[]) ∧ Below g w w' ∧ Wr w' g most (addSt most st ys) := by
  have HW := hid h
  have HS := hid hs
  have HN : Hid (n = ys.length) := hs.1
  have hyb := at_byte hs.2.2.2.2.1
  have HY := hid hyb
  have hlt := h.lt
  obtain ⟨v, ev, zs, c0, c1, c2, f0, f2, ho, hl, hm, hb, hst⟩ := h
  obtain ⟨t, x, hx⟩ := he
  obtain ⟨va, vc, hv⟩ := ho.shape
  have HO := hid ho
  have HB := hid hb
  have HV := hid hv
  rw [hv] at c0
  generalize hL : zs.length = L at hv hl c0
  have HL := hid hL
  clear ho hb hs hyb hL hv
  by_cases hbig : (most : Int) - (L : Int) < (n : Int)
  · rcases hst with ⟨rfl, rfl⟩ | ⟨⟨y, z, rfl⟩, rfl⟩
    · have HA : Hid (addSt most (some zs) ys = none) := by
        show addSt most (some zs) ys = none
        unfold addSt
        exact if_neg (by rw [HL.out, ← HN.out]; omega)
      go_enter Tryz.func156, Tryz.ntmps156
      go_wp2
      go_quiet (fail)
      go_wp2_with (go_at_call 204; refine (fail_set g t x _ (by simpa using c2) (by simpa using f2)).mono ?_)
      rintro e w1 ⟨rfl, hw1⟩
      have HW1 : Hid (Wr w1 g most none) := by
        show Wr w1 g most none
        rw [hw1]
        exact wr_failed (w := w.drewN nq) (by simpa [HV.out, HL.out] using c0) (by simpa using c1) (by simpa using c2) (by simpa using f0) (by simpa using f2) HO.out (by rw [HL.out]; exact hl) hm HB.out
      have hb1 : Below g w w1 := by rw [hw1]; exact Below.setCell (p := ⟨g, 2, none⟩) (Below.drewN' (Below.refl g w) nq) (Nat.le_refl g) _
      have d2 : w1.cell? ⟨g, 2, none⟩ = some (.iface t x) := by rw [hw1]; exact World.cell?_setCell_same _ _ _ (by simpa using c2)
      clear hw1
      go_wp2
      go_end0
      exact ⟨rfl, hb1, by rw [HA.out]; exact HW1.out⟩
    · go_enter Tryz.func156, Tryz.ntmps156
      go_wp2
      go_quiet (fail)
      go_wp2_with (go_at_call 204; refine (fail_keep g t x _ y z (by simpa using c2)).mono ?_)
      rintro e w1 ⟨rfl, rfl⟩
      go_wp2
      go_end0
      exact ⟨rfl, Below.drewN' (Below.refl _ _) nq, HW.out.drewN nq⟩
  · rcases hst with ⟨rfl, rfl⟩ | ⟨⟨y, z, rfl⟩, rfl⟩
    · have HA : Hid (addSt most (some zs) ys = some (zs ++ ys)) := by
        show addSt most (some zs) ys = some (zs ++ ys)
        unfold addSt
        exact if_pos (by rw [HL.out, ← HN.out]; omega)
      have HO' : Hid (Ob w (g + 1) (.slice va L vc) zs) := by show Ob w (g + 1) (.slice va L vc) zs; rw [← HL.out, ← HV.out]; exact HO.out
      go_enter Tryz.func156, Tryz.ntmps156
      go_wp2
      go_quiet (fail)
      go_wp2_with (at_builtin; refine wpList_append_rd rfl _ _ rfl (g + 1) _ zs rfl (HO'.out.drewN nq) a n c ys rfl (HS.out.drewN nq) ?b ?base ?_)
      case b => rw [HL.out, ← HN.out]; omega
      case base => simp; omega
      intro v2 w2 hown2 hg2
      have hb2 : Below (g + 1) w w2 := Ob.below (HO'.out.drewN nq) (Below.drewN' (Below.refl _ _) nq) (by simp; omega) hg2
      have HO2 := hid hown2
      obtain ⟨a2, k2, hv2⟩ := hown2.shape
      have d0 := (hb2.cell (p := ⟨g, 0, none⟩) (by simp)).trans c0
      have d1 := (hb2.cell (p := ⟨g, 1, none⟩) (by simp)).trans c1
      have d2 := (hb2.cell (p := ⟨g, 2, none⟩) (by simp)).trans c2
      have e0 := (hb2.frozen (p := ⟨g, 0, none⟩) (by simp)).trans f0
      have e2 := (hb2.frozen (p := ⟨g, 2, none⟩) (by simp)).trans f2
      generalize hL2 : (zs ++ ys).length = L2 at hv2
      have HL2 := hid hL2
      have HV2 := hid hv2
      clear hown2 hg2 hL2
      rw [hv2]
      clear hv2
      go_wp2
      go_end0
      refine ⟨rfl, Below.setCell (p := ⟨g, 0, none⟩) (hb2.mono (Nat.le_succ g)) (Nat.le_refl g) _, ?_⟩
      rw [HA.out]
      refine ⟨.slice a2 L2 k2, .nilIface, zs ++ ys, World.cell?_setCell_same _ _ _ d0, ?_, ?_, by simpa using e0, by simpa using e2, ?_, ?_, hm, byte_append HB.out HY.out, .inl ⟨rfl, rfl⟩⟩
      · rw [World.cell?_setCell_other (h := by simp)]; exact d1
      · rw [World.cell?_setCell_other (h := by simp)]; exact d2
      · rw [← HV2.out]; exact ownsRow_setCell_below HO2.out (by simp) _
      · rw [List.length_append, HL.out, ← HN.out]; omega
    · go_enter Tryz.func156, Tryz.ntmps156
      go_wp2
      go_quiet (fail)
      go_wp2
      go_end0
      exact ⟨rfl, Below.drewN' (Below.refl _ _) nq, HW.out.drewN nq⟩
set_option maxHeartbeats 400000 in
theorem addByte_any (g most : Nat) (st : Option (List Int)) (z : Int) (w : World) (h : Wr w g most st) (he : Err w 0) (hg : 0 < g) (h0 : 0 ≤ z) (h1 : z ≤ 255) :
    Calls Tryz.prog 155 #[.pointer (some ⟨g, 0, none⟩), .int .u8 z] w fun e w' => e = .returned (.tuple #[]) ∧ Below g w w' ∧ Wr w' g most (addSt most st [z]) := by
  have hlt := h.lt
  have HW := hid h
  have HE := hid he
  clear h he
  have hb1 : Below g w (w.alloc (.cells #[.int .u8 z] 5)) := (Below.refl _ _).alloc (Nat.le_of_lt hlt) _
  have HB := hid hb1
  clear hb1
  go_enter Tryz.func155, Tryz.ntmps155
  go_wp2_with (go_at_call 156; refine (add_any g most st _ 1 1 [z] _ (HW.out.alloc _) (HE.out.below HB.out hg) (rd_one w z h0 h1) (by omega)).mono ?_; rintro e w1 ⟨rfl, hb, hw⟩)
  go_end0
  exact ⟨rfl, HB.out.trans hb, hw⟩
set_option maxHeartbeats 400000 in
theorem newWriter_any (most : Nat) (a : Option Addr) (n c : Nat) (ys : List Int) (w : World) (he : Err w 0) (hg : 0 < w.heap.size) (hs : Rd w a n c ys) (hn : n ≤ 1099511627776) (hm : most ≤ 1099511627776) :
    Calls Tryz.prog 154 #[.slice a n c, .int .i64 most] w fun e w' => e = .returned (.pointer (some ⟨w.heap.size, 0, none⟩)) ∧ Below w.heap.size w w' ∧ Wr w' w.heap.size most (addSt most (some []) ys) := by
  have HE := hid he
  have HS := hid hs
  have HG := hid hg
  clear he hs hg
  go_enter Tryz.func154, Tryz.ntmps154
  have hw0 : Wr (w.alloc (.cells #[.slice none 0 0, .int .i64 most, .nilIface] 245)) w.heap.size most (some []) := by
    refine ⟨.slice none 0 0, .nilIface, [], ?_, ?_, ?_, World.frozen?_alloc_at (hn := rfl) .., World.frozen?_alloc_at (hn := rfl) .., World.ownsRow_nil _ _ _ _, by simp, hm, by simp, .inl ⟨rfl, rfl⟩⟩
    · rw [World.cell?_alloc_at (hn := rfl)]; rfl
    · rw [World.cell?_alloc_at (hn := rfl)]; rfl
    · rw [World.cell?_alloc_at (hn := rfl)]; rfl
  have hb0 : Below w.heap.size w (w.alloc (.cells #[.slice none 0 0, .int .i64 most, .nilIface] 245)) := (Below.refl _ _).alloc (Nat.le_refl _) _
  have HW0 := hid hw0
  have HB0 := hid hb0
  clear hw0 hb0
  go_wp2_with (go_at_call 156; refine (add_any w.heap.size most (some []) a n c ys _ HW0.out (HE.out.below HB0.out HG.out) (HS.out.kept HB0.out) hn).mono ?_; rintro e w1 ⟨rfl, hb1, hw1⟩)
  go_ret
  exact ⟨rfl, HB0.out.trans hb1, hw1⟩
set_option maxHeartbeats 400000 in
theorem told_none (g most : Nat) (w : World) (h : Wr w g most none) :
    Calls Tryz.prog 158 #[.pointer (some ⟨g, 0, none⟩)] w fun e w' => e = .returned (.tuple #[.slice none 0 0, .bool false]) ∧ w = w' := by
  obtain ⟨v, ev, zs, c0, c1, c2, f0, f2, ho, hl, hm, hb, ⟨_, h⟩ | ⟨⟨t, x, rfl⟩, _⟩⟩ := h
  · cases h
  · clear ho hb
    go_enter Tryz.func158, Tryz.ntmps158
    go_wp2
    go_ret2
    exact ⟨rfl, rfl⟩
set_option maxHeartbeats 400000 in
theorem told_some (g most : Nat) (out : List Int) (w : World) (h : Wr w g most (some out)) :
    Calls Tryz.prog 158 #[.pointer (some ⟨g, 0, none⟩)] w fun e w' => ∃ v, e = .returned (.tuple #[v, .bool true]) ∧ Ob w (g + 1) v out ∧ w = w' := by
  obtain ⟨v, ev, zs, c0, c1, c2, f0, f2, ho, hl, hm, hb, ⟨rfl, h⟩ | ⟨⟨t, x, rfl⟩, h⟩⟩ := h
  · cases h
    obtain ⟨va, vc, hv⟩ := ho.shape
    have HO := hid ho
    have HV := hid hv
    rw [hv] at c0
    clear ho hb hv
    go_enter Tryz.func158, Tryz.ntmps158
    go_wp2
    go_ret2
    exact ⟨_, rfl, by have := HO.out; rw [HV.out] at this; exact this, rfl⟩
  · cases h
open Go.RowKit
set_option maxHeartbeats 400000 in
theorem specNum_any (n : Int) (w : World) (b : Bool) (hb : b = decide (0 ≤ n ∧ n ≤ 1099511627775)) :
    Calls Tryz.prog 139 #[.int .i64 n] w fun e w' => e = .returned (.bool b) ∧ w = w' := by
  have HB : Hid (b = decide (0 ≤ n ∧ n ≤ 1099511627775)) := hb
  clear hb
  by_cases h0 : 0 ≤ n
  · by_cases h1 : n ≤ 1099511627775
    · go_enter Tryz.func139, Tryz.ntmps139
      go_wp2
      go_ret
      exact ⟨by rw [HB.out]; simp [h0, h1], rfl⟩
    · go_enter Tryz.func139, Tryz.ntmps139
      go_wp2
      go_ret
      exact ⟨by rw [HB.out]; simp [h1], rfl⟩
  · go_enter Tryz.func139, Tryz.ntmps139
    go_wp2
    go_ret
    exact ⟨by rw [HB.out, decide_eq_false (by omega)]; rfl, rfl⟩
def Put (w : World) (r : Option (List Int)) (e : Ending) (w' : World) : Prop :=
  Below w.heap.size w w' ∧ ((r = none ∧ e = .returned (.tuple #[.slice none 0 0, .bool false])) ∨ ∃ v zs, r = some zs ∧ e = .returned (.tuple #[v, .bool true]) ∧ Ob w' w.heap.size v zs)
open Go.RowKit
theorem addSt_start (most : Nat) (zs : List Int) : addSt most (some []) zs = if zs.length ≤ most then some zs else none := by
  unfold addSt; simp
theorem Ob.mono {w : World} {B B' : Nat} {v : Value} {zs : List Int} (h : Ob w B v zs) (hB : B' ≤ B) : Ob w B' v zs := by
  obtain ⟨h1, h2⟩ := h
  refine ⟨h1, ?_⟩
  rcases h2 with h | ⟨g, cap, cur, e, hbg, hr⟩
  · exact .inl h
  · exact .inr ⟨g, cap, cur, e, Nat.le_trans hB hbg, hr⟩
theorem told_put (w w1 : World) (most : Nat) (st : Option (List Int)) (h : Wr w1 w.heap.size most st) (hb : Below w.heap.size w w1) :
    Calls Tryz.prog 158 #[.pointer (some ⟨w.heap.size, 0, none⟩)] w1 fun e w' => ∃ v b, e = .returned (.tuple #[v, .bool b]) ∧ (∃ a n c, v = .slice a n c) ∧ Put w st (.returned (.tuple #[v, .bool b])) w' := by
  cases st with
  | none =>
    refine (told_none w.heap.size most w1 h).mono ?_
    rintro e w' ⟨rfl, rfl⟩
    exact ⟨_, _, rfl, ⟨_, _, _, rfl⟩, hb, .inl ⟨rfl, rfl⟩⟩
  | some out =>
    refine (told_some w.heap.size most out w1 h).mono ?_
    rintro e w' ⟨v, rfl, ho, rfl⟩
    obtain ⟨a, c, hv⟩ := ho.shape
    exact ⟨_, _, rfl, ⟨_, _, _, hv⟩, hb, .inr ⟨v, out, rfl, rfl, ho.mono (Nat.le_succ _)⟩⟩
open Go.RowKit
theorem zeroCells_one (k : Nat) : Builtin.zeroCells #[.int .u8 0] k = (List.replicate k (Value.int .u8 0)).toArray := by
  apply Array.ext
  · simp [Builtin.zeroCells]
  · intro i h1 h2
    simp [Builtin.zeroCells, Nat.mod_one]
theorem run_append_zeros {w : World} (ty : TypeId) (base : Nat) (v : Value) (zs : List Int) (hown : Ob w base v zs) (k : Nat) (hb : zs.length + k ≤ 70368744177664) (hbase : base ≤ w.heap.size) :
    ∃ v' w', (Builtin.append_ #[71, 3] ty #[v, .int .i64 (k : Int)]).run Tryz.prog w = .ok v' w' ∧ Ob w' base v' (zs ++ List.replicate k 0) ∧ w.grownBy w' v.ownBlock := by
  obtain ⟨i0, hi, hz0, hz1, hz2⟩ := info_parts infoU8
  have hwr : IntKind.i64.wrap (k : Int) = k := by rw [IntKind.wrap_i64]; omega
  have hneg : ¬ ((k : Int) < 0) := by omega
  have h48 : ¬ (281474976710656 < (k : Int)) := by omega
  have ht := Tryz.underlying71
  have htn := Tryz.underlying3
  have grown : ∀ (old : Nat), old < zs.length + k → ∀ (row : Option Nat),
      Ob (w.drew.alloc (.cells ((zs.map (Value.int .u8)).toArray ++ Builtin.zeroCells #[.int .u8 0] k ++ Builtin.zeroCells #[.int .u8 0] (grownCap w (zs.length + k) old 5 - (zs.length + k))) 5)) base
        (.slice (some ⟨w.heap.size, 0, none⟩) (zs.length + k) (grownCap w (zs.length + k) old 5)) (zs ++ List.replicate k 0) ∧
      w.grownBy (w.drew.alloc (.cells ((zs.map (Value.int .u8)).toArray ++ Builtin.zeroCells #[.int .u8 0] k ++ Builtin.zeroCells #[.int .u8 0] (grownCap w (zs.length + k) old 5 - (zs.length + k))) 5)) row := by
    intro old ho row
    have hge := grownCap_ge w (zs.length + k) old 5
    have hcm : grownCap w (zs.length + k) old 5 ≤ maxLen := grownCap_le_maxLen w (zs.length + k) old 5 (by unfold maxLen; omega)
    have hl : (zs ++ List.replicate k (0 : Int)).length = zs.length + k := by simp
    refine ⟨⟨by simp, .inr ⟨w.heap.size, _, _, by rw [hl], hbase, heap_alloc_new w.drew _, by rw [hl]; exact hge, hcm, ?_, ?_⟩⟩, ⟨rfl, rfl, rfl, by simp, fun j hj _ => Below.heap_alloc w.drew _ j hj⟩⟩
    · simp [zeroCells_one]; omega
    · rw [hl, zeroCells_one, Nat.mul_one]
      simp only [Array.toList_append, List.map_append, List.map_replicate]
      rw [List.take_left' (by simp)]
  have hcc : (Value.int .u8 0).cells = #[.int .u8 0] := rfl
  rcases hown.2 with ⟨rfl, h0⟩ | ⟨g, cap, cur, rfl, hbg, hg, hnc, hcm, hcs, htake⟩
  · have hx : zs = [] := List.eq_nil_of_length_eq_zero h0
    subst hx
    by_cases hk : k = 0
    · subst hk
      refine ⟨.slice none 0 0, w, ?_, World.ownsRow_nil w base 5 1, ⟨rfl, rfl, rfl, Nat.le_refl _, fun _ _ _ => rfl⟩⟩
      simp [Builtin.append_, run_underlying ht, run_underlying htn, sizeOf, typeInfo, hi, hz2, asInt, asIntOf, IntKind.wrap_i64]
    · have hgr := grown 0 (by simp; omega) (Value.ownBlock (.slice none 0 0))
      simp only [List.length_nil, Nat.zero_add, List.map_nil, List.nil_append, Array.empty_append] at hgr ⊢
      refine ⟨_, _, ?_, hgr.1, hgr.2⟩
      have h63 : ¬ (9223372036854775807 < (k : Int)) := by omega
      have hfit := growslice_fits (need := k) (old := 0) (bytes := 1) (by omega) (by omega)
      have hfit' : ¬ (281474976710656 < Builtin.nextslicecap k 0) := by omega
      have hk' : ¬ k ≤ 0 := by omega
      simp [Builtin.append_, run_underlying ht, run_underlying htn, sizeOf, typeInfo, hi, hz0, hz1, hz2, asInt, asIntOf, hwr, hneg, h48, hk, h63, hfit', zeroValue, hcc, Question.forced, Builtin.firstCells, newRow, grownCap]
  · by_cases hroom : zs.length + k ≤ cap
    · have hst := run_storeCells_at Tryz.prog g zs.length 5 (List.replicate k (.int .u8 0)) 0 cur w hg (by simp; omega) (by intro v hv; obtain ⟨_, rfl⟩ := List.mem_replicate.1 hv; rfl)
      simp only [Nat.add_zero, List.length_replicate] at hst
      have hr : (Builtin.append_ #[71, 3] ty #[.slice (some ⟨g, 0, none⟩) zs.length cap, .int .i64 (k : Int)]).run Tryz.prog w = .ok (.slice (some ⟨g, 0, none⟩) (zs.length + k) cap) (w.setRow g (cur.toList.take zs.length ++ List.replicate k (Value.int .u8 0) ++ cur.toList.drop (zs.length + k)).toArray) := by
        by_cases hk : k = 0
        · subst hk
          simp only [List.replicate_zero, List.append_nil, Nat.add_zero, List.take_append_drop, Array.toArray_toList] at hst ⊢
          simp [Builtin.append_, run_underlying ht, run_underlying htn, sizeOf, typeInfo, hi, hz1, hz2, asInt, asIntOf, IntKind.wrap_i64, hnc, Addr.add_lit, hst]
        · simp [Builtin.append_, run_underlying ht, run_underlying htn, sizeOf, typeInfo, hi, hz0, hz1, hz2, asInt, asIntOf, hwr, hneg, h48, hk, hroom, zeroValue, hcc, zeroCells_one, Addr.add_lit, hst]
      refine ⟨_, _, hr, ⟨by simp, .inr ⟨g, cap, _, by simp, hbg, setRow_heap w g cur _ 5 _ hg, by simp; exact hroom, hcm, ?_, ?_⟩⟩, ⟨rfl, rfl, rfl, by simp, fun j _ hj => setRow_other w g j _ (fun e => hj (by simp [Value.ownBlock, e]))⟩⟩
      · simp only [List.size_toArray, List.length_append, List.length_take, List.length_drop, List.length_replicate, Array.length_toList]
        omega
      · have ht2 : cur.toList.take zs.length = zs.map (Value.int .u8) := by rw [← htake, Nat.mul_one]
        rw [ht2]
        simp only [List.map_append, List.map_replicate]
        rw [List.take_left' (by simp)]
    · have holds := hown.cells (g := g) rfl
      have hold : (Builtin.firstCells 1 zs.length (.slice (some ⟨g, 0, none⟩) zs.length cap)).run Tryz.prog w.drew = .ok (zs.map (Value.int .u8)).toArray w.drew := run_firstCells_some w.drew 1 zs.length ⟨g, 0, none⟩ zs.length cap (zs.map (Value.int .u8)) (by simp) holds
      have hgr := grown cap (by omega) (Value.ownBlock (.slice (some ⟨g, 0, none⟩) zs.length cap))
      refine ⟨_, _, ?_, hgr.1, hgr.2⟩
      have h63 : ¬ (9223372036854775807 < (zs.length : Int) + (k : Int)) := by omega
      have hfit := growslice_fits (need := zs.length + k) (old := cap) (bytes := 1) (by omega) (by omega)
      have hfit' : ¬ (281474976710656 < Builtin.nextslicecap (zs.length + k) cap) := by omega
      have hk : ¬ k = 0 := by omega
      simp [Builtin.append_, run_underlying ht, run_underlying htn, sizeOf, typeInfo, hi, hz0, hz1, hz2, asInt, asIntOf, hwr, hneg, h48, hk, h63, hfit', hroom, zeroValue, hcc, Question.forced, hold, newRow, grownCap]
theorem wpList_append_zeros {w : World} {ops : Array Oper} {rest : List Oper} {o : Oper} {a : Act} {Q : Exit → Act → World → Prop} (hgd : o.guard = none) (s x : Operand)
    (ho : o.op = .call { callee := .builtin .append, args := #[s, x], argTypes := #[71, 3] }) (base : Nat) (v : Value) (zs : List Int) (hs : a.eval s = v) (hown : Ob w base v zs)
    (k : Nat) (hx : a.eval x = .int .i64 (k : Int)) (hb : zs.length + k ≤ 70368744177664) (hbase : base ≤ w.heap.size)
    (h : ∀ v' w', Ob w' base v' (zs ++ List.replicate k 0) → w.grownBy w' v.ownBlock → wpList Tryz.prog ops Q rest (a.put o.dst v') w') : wpList Tryz.prog ops Q (o :: rest) a w := by
  refine wpList_plain hgd fun K hK => ?_
  obtain ⟨v', w', hr, h2, h3⟩ := run_append_zeros (w := w) o.type base v zs hown k hb hbase
  unfold Oper.wp execOp
  simp only [ho, resolve, invoke, builtin, Sem.run_bind, Sem.run_pure, Result.andThen_ok, List.map_toArray, List.map_cons, List.map_nil, hs, hx, hr]
  exact hK _ _ (h v' w' h2 h3)
def bytesOf (s : ByteArray) : List Int := s.data.toList.map fun b => (b.toNat : Int)
theorem bytesOf_len (s : ByteArray) : (bytesOf s).length = s.size := by
  simp [bytesOf]
theorem bytesOf_byte (s : ByteArray) : ∀ z ∈ bytesOf s, 0 ≤ z ∧ z ≤ 255 := by
  intro z hz
  obtain ⟨b, _, rfl⟩ := List.mem_map.1 hz
  have := b.toNat_lt
  omega
open Go.RowKit
open Go.RowKit
def fl (zs : List Int) (m : Int) : Option (List Int) := if (zs.length : Int) ≤ m ∧ m ≤ 4096 then some (zs ++ List.replicate (m - zs.length).toNat 0) else none
theorem fl_bad (zs : List Int) (m : Int) (h : m < zs.length ∨ 4096 < m) : fl zs m = none := by unfold fl; exact if_neg (by omega)
theorem fl_ok (zs : List Int) (k : Nat) (h : zs.length + k ≤ 4096) : fl zs ((zs.length : Int) + (k : Int)) = some (zs ++ List.replicate k 0) := by
  unfold fl
  rw [if_pos (by omega)]
  congr 3
  omega
set_option maxHeartbeats 800000 in
theorem specFill_any (a : Option Addr) (n c : Nat) (zs : List Int) (m : Int) (w : World) (h : Rd w a n c zs) (hlen : n ≤ 1099511627776) :
    Calls Tryz.prog 74 #[.slice a n c, .int .i64 m] w fun e w' => Put w (fl zs m) e w' := by
  have HN : Hid (n = zs.length) := h.1
  have HR := hid h
  clear h
  by_cases h0 : m < 0
  · have HF : Hid (fl zs m = none) := fl_bad zs m (by omega)
    go_enter Tryz.func74, Tryz.ntmps74
    go_wp2
    go_ret2
    exact ⟨Below.refl _ _, .inl ⟨HF.out, rfl⟩⟩
  · by_cases h1 : 4096 < m
    · have HF : Hid (fl zs m = none) := fl_bad zs m (by omega)
      go_enter Tryz.func74, Tryz.ntmps74
      go_wp2
      go_ret2
      exact ⟨Below.refl _ _, .inl ⟨HF.out, rfl⟩⟩
    · by_cases h2 : m < (n : Int)
      · have HF : Hid (fl zs m = none) := fl_bad zs m (by rw [← HN.out]; exact .inl h2)
        go_enter Tryz.func74, Tryz.ntmps74
        go_wp2
        go_ret2
        exact ⟨Below.refl _ _, .inl ⟨HF.out, rfl⟩⟩
      · obtain ⟨k, hk⟩ : ∃ k : Nat, m - (n : Int) = (k : Int) := ⟨(m - (n : Int)).toNat, by omega⟩
        have HF : Hid (fl zs m = some (zs ++ List.replicate k 0)) := by
          show fl zs m = some (zs ++ List.replicate k 0)
          have := fl_ok zs k (by rw [← HN.out]; omega)
          rw [← HN.out] at this
          rw [← this]; congr 1; omega
        have HK := hid hk
        have hkb : k ≤ 4096 := by omega
        clear hk
        go_enter Tryz.func74, Tryz.ntmps74
        go_wp2_with (at_builtin; refine wpList_append_rd rfl _ _ rfl w.heap.size _ [] rfl (ob_new w w.heap.size (Nat.le_refl _)) a n c zs rfl ?src ?b ?base ?_)
        case src => exact HR.out.kept ((Below.refl _ _).alloc (Nat.le_refl _) _)
        case b => rw [← HN.out]; omega
        intro v1 w1 hown1 hg1
        have hb1 : Below w.heap.size w w1 := Ob.below (ob_new w w.heap.size (Nat.le_refl _)) ((Below.refl _ _).alloc (Nat.le_refl _) _) (by simp) hg1
        have HO : Hid (Ob w1 w.heap.size v1 zs) := by show Ob w1 w.heap.size v1 zs; simpa using hown1
        clear hown1 hg1
        go_wp2_with (at_builtin; refine wpList_append_zeros rfl _ _ rfl w.heap.size _ zs rfl HO.out k (congrArg (Value.int .i64) HK.out) ?b2 ?base2 ?_)
        case b2 => rw [← HN.out]; omega
        case base2 => exact hb1.size
        intro v2 w2 hown2 hg2
        have hb2 : Below w.heap.size w w2 := Ob.below HO.out hb1 hb1.size hg2
        have HO2 := hid hown2
        clear hown2 hg2
        go_wp2
        go_ret2
        exact ⟨hb2, .inr ⟨v2, _, HF.out, rfl, HO2.out⟩⟩
def fillSt (most : Nat) : Option (List Int) → Int → Option (List Int)
  | none, _ => none
  | some zs, m => if (zs.length : Int) ≤ m ∧ m ≤ most then some (zs ++ List.replicate (m - zs.length).toNat 0) else none
theorem rd_zero (w : World) (k : Nat) (hk : k ≤ 1048576) : Rd (w.alloc (.cells (madeCells #[.int .u8 0] k) 5)) (some ⟨w.heap.size, 0, none⟩) k k (List.replicate k 0) := by
  refine ⟨by simp, Nat.le_refl _, by omega, by omega, fun i => ?_, fun _ => ⟨w.heap.size, 0, rfl, by simp, fun i hi => ?_⟩⟩
  · by_cases hi : i < k
    · simp [hi]
    · rw [List.getElem?_eq_none (by simp; omega)]; simp
  · rw [World.cell?_alloc_at (hn := rfl)]
    simp [madeCells, hi, Nat.mod_one]
set_option maxHeartbeats 800000 in
theorem fill_any (g most : Nat) (st : Option (List Int)) (m : Int) (w : World) (h : Wr w g most st) (hm4 : most ≤ 1048576) (he : Err w 0) (he2 : Err w 1) (hg : 0 < g) :
    Calls Tryz.prog 157 #[.pointer (some ⟨g, 0, none⟩), .int .i64 m] w fun e w' => e = .returned (.tuple #[]) ∧ Below g w w' ∧ Wr w' g most (fillSt most st m) := by
  have HW := hid h
  have HE := hid he
  have hlt := h.lt
  obtain ⟨v, ev, zs, c0, c1, c2, f0, f2, ho, hl, hm, hb, hst⟩ := h
  obtain ⟨t, x, hx⟩ := he2
  obtain ⟨va, vc, hv⟩ := ho.shape
  have HO := hid ho
  have HB := hid hb
  have HV := hid hv
  rw [hv] at c0
  generalize hL : zs.length = L at hv hl c0
  have HL := hid hL
  clear ho hb hL hv he
  by_cases hbad : m < (L : Int) ∨ (most : Int) < m
  · rcases hst with ⟨rfl, rfl⟩ | ⟨⟨y, z, rfl⟩, rfl⟩
    · have HA : Hid (fillSt most (some zs) m = none) := by
        show fillSt most (some zs) m = none
        unfold fillSt
        exact if_neg (by rw [HL.out]; omega)
      rcases (by omega : m < (L : Int) ∨ (¬ m < (L : Int) ∧ (most : Int) < m)) with hb1 | ⟨hb1, hb3⟩
      all_goals
        clear hbad
        go_enter Tryz.func157, Tryz.ntmps157
        go_wp2_with (go_at_call 204; refine (fail_set g t x _ c2 f2).mono ?_; rintro e w1 ⟨rfl, hw1⟩)
        go_end0
        refine ⟨rfl, Below.setCell (p := ⟨g, 2, none⟩) (Below.refl g w) (Nat.le_refl g) _, ?_⟩
        rw [HA.out]
        exact wr_failed (by rw [c0, HV.out, HL.out]) c1 c2 f0 f2 HO.out (by rw [HL.out]; exact hl) hm HB.out
    · rcases (by omega : m < (L : Int) ∨ (¬ m < (L : Int) ∧ (most : Int) < m)) with hb1 | ⟨hb1, hb3⟩
      all_goals
        clear hbad
        go_enter Tryz.func157, Tryz.ntmps157
        go_wp2_with (go_at_call 204; refine (fail_keep g t x _ y z c2).mono ?_; rintro e w1 ⟨rfl, rfl⟩)
        go_end0
        exact ⟨rfl, Below.refl _ _, HW.out⟩
  · have hb1 : ¬ m < (L : Int) := by omega
    have hb2 : ¬ (most : Int) < m := by omega
    clear hbad
    rcases hst with ⟨rfl, rfl⟩ | ⟨⟨y, z, rfl⟩, rfl⟩
    · obtain ⟨k, hk⟩ : ∃ k : Nat, m - (L : Int) = (k : Int) := ⟨(m - (L : Int)).toNat, by omega⟩
      have hkb : k ≤ 1048576 := by omega
      have HK := hid hk
      clear hk
      have HA : Hid (fillSt most (some zs) m = addSt most (some zs) (List.replicate k 0)) := by
        show fillSt most (some zs) m = addSt most (some zs) (List.replicate k 0)
        have := HK.out
        have e1 : fillSt most (some zs) m = if (zs.length : Int) ≤ m ∧ m ≤ most then some (zs ++ List.replicate (m - zs.length).toNat 0) else none := rfl
        have e2 : addSt most (some zs) (List.replicate k 0) = if zs.length + (List.replicate k (0 : Int)).length ≤ most then some (zs ++ List.replicate k 0) else none := rfl
        rw [e1, e2, HL.out, this, if_pos (by omega), if_pos (by simp; omega)]
        simp
      have hmk : ∀ w, (Instr.makeSlice 71 (.int .i64 (m - (L : Int))) (.int .i64 (m - (L : Int)))).run Tryz.prog w = .ok (.slice (some ⟨w.heap.size, 0, none⟩) k k) (w.alloc (.cells (madeCells #[.int .u8 0] k) 5)) := fun w => by
        rw [HK.out]
        exact run_make_row' (P := Tryz.prog) 71 5 (.int .u8 0) 1 Tryz.underlying71 infoU8 rfl .i64 .i64 k (by omega) (by omega) w
      have HB0 := hid (show Below g w (w.alloc (.cells (madeCells #[.int .u8 0] k) 5)) from (Below.refl _ _).alloc (Nat.le_of_lt hlt) _)
      go_enter Tryz.func157, Tryz.ntmps157
      go_wp2_with (go_at_call 156; refine (add_any g most (some zs) _ k k (List.replicate k 0) _ (HW.out.alloc _) (HE.out.below HB0.out hg) (rd_zero w k hkb) (by omega)).mono ?_; rintro e w1 ⟨rfl, hb, hw⟩)
      go_end0
      exact ⟨rfl, HB0.out.trans hb, by rw [HA.out]; exact hw⟩
    · go_enter Tryz.func157, Tryz.ntmps157
      go_wp2
      go_end0
      exact ⟨rfl, Below.refl _ _, HW.out⟩
theorem fillSt_fl (zs : List Int) (m : Int) : fillSt 4096 (addSt 4096 (some []) zs) m = fl zs m := by
  rw [addSt_start]
  by_cases h : zs.length ≤ 4096
  · rw [if_pos h]; rfl
  · rw [if_neg h, fl_bad zs m (by omega)]; rfl
set_option maxHeartbeats 400000 in
theorem implFill_any (a : Option Addr) (n c : Nat) (zs : List Int) (m : Int) (w : World) (h : Rd w a n c zs) (hlen : n ≤ 1099511627776)
    (he : Err w 0) (he2 : Err w 1) (hg : 0 < w.heap.size) (hg2 : 1 < w.heap.size) :
    Calls Tryz.prog 255 #[.slice a n c, .int .i64 m] w fun e w' => Put w (fl zs m) e w' := by
  have HR := hid h
  have HE := hid he
  have HE2 := hid he2
  have HG := hid hg
  have HG2 := hid hg2
  have HP := hid (fillSt_fl zs m)
  clear h he he2 hg hg2
  go_enter Tryz.func255, Tryz.ntmps255
  go_wp2_with fail
  refine (newWriter_any 4096 a n c zs w HE.out HG.out HR.out hlen (by omega)).mono ?_
  rintro e w1 ⟨rfl, hb1, hw1⟩
  have HB1 := hid hb1
  have HW1 := hid hw1
  clear hb1 hw1
  go_wp2_with fail
  refine (fill_any w.heap.size 4096 _ m w1 HW1.out (by omega) (HE.out.below HB1.out HG.out) (HE2.out.below HB1.out HG2.out) HG.out).mono ?_
  rintro e w2 ⟨rfl, hb2, hw2⟩
  have HB2 := hid (HB1.out.trans hb2)
  have HW2 := hid hw2
  clear hb2 hw2
  go_wp2_with fail
  refine (told_put w w2 4096 _ HW2.out HB2.out).mono ?_
  rintro e w3 ⟨v, b, rfl, ⟨a3, n3, c3, hv⟩, hput⟩
  rw [HP.out] at hput
  have HQ := hid hput
  clear hput
  rw [hv] at HQ
  rw [hv]
  go_wp2
  go_ret2
  exact HQ.out
open Go.RowKit
def pgHead (p : PG) : List Int := (if p.kids.length = 0 then [76] else [66]) ++ enc p.keys.length ++ (if p.kids.length = 0 then [] else enc (iAt p.kids 0))
def pgPart (p : PG) (i : Nat) : List Int := enc (sAt p.keys i).size ++ bytesOf (sAt p.keys i) ++ (if p.kids.length = 0 then enc (sAt p.vals i).size ++ bytesOf (sAt p.vals i) else enc (iAt p.kids (i + 1)))
def pgBody (p : PG) : Nat → List Int
  | 0 => pgHead p
  | j + 1 => pgBody p j ++ pgPart p j
def pgRaw (p : PG) : List Int := pgBody p p.keys.length
def pgFull (p : PG) : List Int := pgRaw p ++ List.replicate (512 - (pgRaw p).length) 0
def pgBytes (p : PG) : Option (List Int) := if pgOk p = true then some (pgFull p) else none
theorem sOkF_all (ss : List ByteArray) : ∀ f k, sOkF ss f k = true → ∀ i, k ≤ i → i < k + f → kOk (ss[i]?.getD ⟨#[]⟩) = true
  | 0, k, _, i, h1, h2 => by omega
  | f + 1, k, h, i, h1, h2 => by
    simp only [sOkF, Bool.and_eq_true] at h
    by_cases e : i = k
    · rw [e]; exact h.1.1
    · exact sOkF_all ss f (k + 1) h.2 i (by omega) (by omega)
theorem all_at {α : Type} {l : List α} {f : α → Bool} (h : l.all f = true) (d : α) {i : Nat} (hi : i < l.length) : f (l[i]?.getD d) = true := by
  have := (List.all_eq_true.1 h) l[i] (List.getElem_mem hi)
  simpa [hi] using this
structure PgF (p : PG) : Prop where
  nk : p.keys.length ≤ 4
  ks : ∀ i, i < p.keys.length → (sAt p.keys i).size ≤ 16
  lf : p.kids.length = 0 → p.vals.length = p.keys.length ∧ ∀ i, i < p.vals.length → (sAt p.vals i).size ≤ 60
  br : ¬ p.kids.length = 0 → p.kids.length = p.keys.length + 1 ∧ ∀ i, i < p.kids.length → 2 ≤ iAt p.kids i ∧ iAt p.kids i < 400
theorem pgOk_facts {p : PG} (h : pgOk p = true) : PgF p := by
  simp only [pgOk, Bool.and_eq_true] at h
  obtain ⟨h1, h2⟩ := h
  have hks : ∀ i, i < p.keys.length → (sAt p.keys i).size ≤ 16 := by
    intro i hi
    have := sOkF_all _ _ _ h1 i (Nat.zero_le _) (by omega)
    simp [kOk] at this
    exact this.2
  by_cases h0 : p.kids.length = 0
  · rw [if_pos h0] at h2
    simp only [pgLeaf, Bool.and_eq_true, decide_eq_true_eq] at h2
    obtain ⟨h3, ⟨_, h4⟩, h5⟩ := h2
    refine ⟨h4, hks, fun _ => ⟨h5, fun i hi => ?_⟩, fun h => absurd h0 h⟩
    have := all_at h3 ⟨#[]⟩ hi
    simpa [vOk, sAt] using this
  · rw [if_neg h0] at h2
    simp only [pgBranch, Bool.and_eq_true, decide_eq_true_eq] at h2
    obtain ⟨h3, ⟨⟨_, h4⟩, h5⟩, h6⟩ := h2
    refine ⟨by omega, hks, fun h => absurd h h0, fun _ => ⟨by omega, fun i hi => ?_⟩⟩
    have := all_at h3 0 hi
    simpa [kidOk, iAt] using this
theorem pgPart_len {p : PG} (h : PgF p) {i : Nat} (hi : i < p.keys.length) : (pgPart p i).length ≤ 90 := by
  have h1 := h.ks i hi
  have e1 := enc_len (sAt p.keys i).size
  unfold pgPart
  by_cases h0 : p.kids.length = 0
  · obtain ⟨h2, h3⟩ := h.lf h0
    have h4 := h3 i (by omega)
    have e2 := enc_len (sAt p.vals i).size
    rw [if_pos h0]
    simp only [List.length_append, bytesOf_len]
    omega
  · have e2 := enc_len (iAt p.kids (i + 1))
    rw [if_neg h0]
    simp only [List.length_append, bytesOf_len]
    omega
theorem pgHead_len (p : PG) : (pgHead p).length ≤ 15 := by
  have e1 := enc_len p.keys.length
  have e2 := enc_len (iAt p.kids 0)
  unfold pgHead
  split
  · simp; omega
  · simp; omega
theorem pgBody_len {p : PG} (h : PgF p) : ∀ j, j ≤ p.keys.length → (pgBody p j).length ≤ 15 + j * 90
  | 0, _ => by simpa [pgBody] using pgHead_len p
  | j + 1, hj => by
    have h1 := pgBody_len h j (by omega)
    have h2 := pgPart_len h (show j < p.keys.length by omega)
    rw [pgBody, List.length_append]
    omega
theorem pgPart_byte {p : PG} (h : PgF p) {i : Nat} (hi : i < p.keys.length) : ∀ z ∈ pgPart p i, 0 ≤ z ∧ z ≤ 255 := by
  have h1 := h.ks i hi
  unfold pgPart
  refine byte_append (byte_append (enc_byte _ (by omega) (by omega)) (bytesOf_byte _)) ?_
  by_cases h0 : p.kids.length = 0
  · obtain ⟨h2, h3⟩ := h.lf h0
    have h4 := h3 i (by omega)
    rw [if_pos h0]
    exact byte_append (enc_byte _ (by omega) (by omega)) (bytesOf_byte _)
  · obtain ⟨h2, h3⟩ := h.br h0
    have h4 := h3 (i + 1) (by omega)
    rw [if_neg h0]
    exact enc_byte _ (by omega) (by omega)
theorem pgHead_byte {p : PG} (h : PgF p) : ∀ z ∈ pgHead p, 0 ≤ z ∧ z ≤ 255 := by
  have h1 := h.nk
  unfold pgHead
  by_cases h0 : p.kids.length = 0
  · rw [if_pos h0, if_pos h0]
    exact byte_append (byte_append (by intro z hz; simp at hz; omega) (enc_byte _ (by omega) (by omega))) (by intro z hz; cases hz)
  · obtain ⟨h2, h3⟩ := h.br h0
    have h4 := h3 0 (by omega)
    rw [if_neg h0, if_neg h0]
    exact byte_append (byte_append (by intro z hz; simp at hz; omega) (enc_byte _ (by omega) (by omega))) (enc_byte _ (by omega) (by omega))
theorem pgBody_byte {p : PG} (h : PgF p) : ∀ j, j ≤ p.keys.length → ∀ z ∈ pgBody p j, 0 ≤ z ∧ z ≤ 255
  | 0, _ => by rw [pgBody]; exact pgHead_byte h
  | j + 1, hj => by rw [pgBody]; exact byte_append (pgBody_byte h j (by omega)) (pgPart_byte h (show j < p.keys.length by omega))
structure Pw1 (w v : World) (x : Nat) (ka : Option Addr) (kn kc : Nat) (va : Option Addr) (vn vc : Nat) (ia : Option Addr) (jn ic : Nat) (p : PG) : Prop where
  be : Below w.heap.size w v
  bk : Bk v x 93 [.slice ka kn kc, .slice va vn vc, .slice ia jn ic]
  pg : Pgr v (fun _ => True) ka kn kc va vn vc ia jn ic p
end Go.Proofs.YtmilnejacnaejaaGreatDoor
