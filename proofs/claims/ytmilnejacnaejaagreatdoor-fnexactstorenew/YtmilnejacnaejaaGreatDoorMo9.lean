/-
  slices.BinarySearchFunc over pairs that ascend; pairFor: the place of a key in a leaf.
-/
import Derived.Test.YtmilnejacnaejaaGreatDoorMo8
import Derived.Test.YtmilnejacnaejaaGreatDoorMo3
import Derived.Test.YtmilnejacnaejaaGreatDoorMo2
import Derived.Deep.DeepCutAuto
import Derived.Deep.RegionLaw
import Derived.Test.YtmilnejacnaejaaGreatDoorMo7
import Derived.Test.YtmilnejacnaejaaGreatDoorMo4
import Derived.Test.YtmilnejacnaejaaGreatDoorMo1
namespace Go.Proofs.YtmilnejacnaejaaGreatDoor
open Go.RowKit
def there (l : List PB) (k : ByteArray) : Bool := decide (pos l k < l.length ∧ (pAtB l (pos l k)).1 = k)
open Go.RowKit
open Go.RowKit
open Go.RowKit
structure GetOk (t : T) : Prop where
  asc : Asc t.all
  br : t.ks ≠ [] → t.ps = [] ∧ ∀ x ∈ t.ks, x.full false = true
  few : t.ps.length ≤ 8 ∧ t.ks.length ≤ 8
open Go.RowKit
def bareT : T := .mk [] []
structure LB (w : World) (S : Nat → Prop) (b : Nat) (pv kv : Value) (ps : List PB) (ks : List T) (A : Nat → Nat) (SS : Nat → Nat → Prop) : Prop where
  hb : S b
  hB : Bk w b 219 [pv, kv]
  hP : w.ownsRow 0 161 2 pv ps.length (pcs ps)
  hK : w.ownsRow 0 166 1 kv ks.length (ptrs A ks.length)
  hPS : ∀ x, pv.ownBlock = some x → S x ∧ x ≠ b
  hKS : ∀ x, kv.ownBlock = some x → S x ∧ x ≠ b ∧ pv.ownBlock ≠ some x
  hSS : ∀ i, i < ks.length → ∀ x, SS i x → S x ∧ x ≠ b ∧ pv.ownBlock ≠ some x ∧ kv.ownBlock ≠ some x
  hD : ∀ i j, i < ks.length → j < ks.length → i ≠ j → ∀ x, SS i x → ¬ SS j x
  hk : ∀ i, i < ks.length → Limb w (SS i) (A i) (tAt ks i)
open Go.RowKit
def two (r : T × T) : List T := if r.2.bare = true then [r.1] else [r.1, r.2]
structure PutIn (h : Nat) (r : Bool) (t : T) : Prop where
  ev : Ev h t
  full : t.full r = true ∨ (r = true ∧ t = bareT)
  asc : Asc t.all
structure PutOut (h : Nat) (r : Bool) (l : List PB) (x : T × T) : Prop where
  ev : ∀ y ∈ two x, Ev h y
  one : x.2.bare = true → x.1.full r = true
  both : x.2.bare = false → x.1.full false = true ∧ x.2.full false = true
  all : allL (two x) = l
open Go.RowKit
open Go.RowKit
def KF (w : World) (V : List V3) (n : Nat) : Prop := ∀ y, (vAt V n).2.1.ownBlock = some y ∨ (vAt V n).2.2.ownBlock = some y → w.heap.size ≤ y
theorem NA.rowAt {w : World} {a : Option Addr} {n c : Nat} {V : List V3} {ns : List NB} (h : NA w (.slice a n c) V ns) (hp : 0 < ns.length) : ∃ g, a = some ⟨g, 0, none⟩ ∧ Hid (n = ns.length) := by
  rcases h.row.2 with ⟨e, e2⟩ | ⟨g, cap, cur, e, _⟩
  · omega
  · cases e
    exact ⟨g, rfl, rfl⟩
open Go.RowKit
set_option linter.unusedVariables false
def cntN (x : NB) : Nat := x.ps.length * 2 + x.keys.length + x.kids.length
def offN (ns : List NB) : Nat → Nat
  | 0 => 0
  | i + 1 => offN ns i + cntN (nAt ns i)
def LiesV (w : World) (v : Value) (n m : Nat) (V : Nat → Value) : Prop := ∃ a c, v = .slice a n c ∧ n ≤ c ∧ Lies w a n m V
theorem LiesV.to {w w' : World} {R : Nat → Prop} {v : Value} {n m : Nat} {V : Nat → Value} (h : LiesV w v n m V) (ho : Only R w w') (hR : ∀ y, v.ownBlock = some y → ¬ R y) : LiesV w' v n m V := by
  obtain ⟨a, c, rfl, h1, h2⟩ := h
  refine ⟨a, c, rfl, h1, fun hn => ?_⟩
  obtain ⟨b, off, rfl, h4, h5⟩ := h2 hn
  exact ⟨b, off, rfl, Nat.lt_of_lt_of_le h4 ho.size, fun j hj => (World.cell?_of_block (w := w) (a := ⟨b, off + j, none⟩) (ho.block b h4 (hR b rfl))).trans (h5 j hj)⟩
def LiesN (w : World) (p : V3) (x : NB) (q : Nat) : Prop := LiesV w p.1 x.ps.length (x.ps.length * 2) (mV q) ∧ LiesV w p.2.1 x.keys.length x.keys.length (mV (q + x.ps.length * 2)) ∧ LiesV w p.2.2 x.kids.length x.kids.length (mI (q + x.ps.length * 2 + x.keys.length))
theorem LiesN.to {w w' : World} {R : Nat → Prop} {p : V3} {x : NB} {q : Nat} (h : LiesN w p x q) (ho : Only R w w') (hR : ∀ y, bl p y → ¬ R y) : LiesN w' p x q := ⟨h.1.to ho (fun y e => hR y (.inl e)), h.2.1.to ho (fun y e => hR y (.inr (.inl e))), h.2.2.to ho (fun y e => hR y (.inr (.inr e)))⟩
structure MkT (w : World) (v : Value) (V : List V3) (ns : List NB) (k : Nat) : Prop where
  len : V.length = ns.length
  row : w.ownsRow 0 97 3 v ns.length (ncs V)
  lie : ∀ i, i < ns.length → LiesN w (vAt V i) (nAt ns i) (k + offN ns i)
theorem MkT.below {w w' : World} {v : Value} {V : List V3} {ns : List NB} {k : Nat} (h : MkT w v V ns k) (hb : Below w.heap.size w w') : MkT w' v V ns k := ⟨h.len, own_kept h.row (only_of_below hb (fun _ => False)) (fun _ _ h => h), fun i hi => (h.lie i hi).to (only_of_below hb (fun _ => False)) (fun _ _ h => h)⟩
def smallK (ns : List NB) : Prop := ∀ i, i < ns.length → (nAt ns i).ps.length ≤ 1000 ∧ (nAt ns i).keys.length ≤ 1000 ∧ (nAt ns i).kids.length ≤ 1000
theorem offN_le {ns : List NB} (h : smallK ns) : ∀ i, i ≤ ns.length → offN ns i ≤ i * 4000
  | 0, _ => by simp [offN]
  | i + 1, hi => by
    have := offN_le h i (by omega)
    have h2 := h i (by omega)
    simp only [offN, cntN]
    omega
theorem kw_own {w : World} {base : Nat} {e : TypeId} {size : Nat} {v : Value} {n : Nat} {xs : List Value} {K : Value → Prop} (h : w.ownsRow base e size v n xs) (hx : ∀ u ∈ xs, K u) : Kw w (fun y => v.ownBlock = some y) v n xs.length K :=
  kw_of (rw_own h (S := fun y => v.ownBlock = some y) (fun k hk _ _ => hk)) hx (fun b hb _ => ⟨hb, by
    rcases h.2 with ⟨rfl, _⟩ | ⟨g, cap, cur, rfl, _, h4, _⟩
    · cases hb
    · have e : g = b := by simpa [Value.ownBlock] using hb
      subst e
      exact ⟨_, _, h4⟩⟩)
theorem row_cells {w : World} {g n c m : Nat} {V : List V3} (h : w.ownsRow 0 97 3 (.slice (some ⟨g, 0, none⟩) n c) m (ncs V)) {i : Nat} (hi : i < V.length) : w.cell? ⟨g, i * 3, none⟩ = some (vAt V i).1 ∧ w.cell? ⟨g, i * 3 + 1, none⟩ = some (vAt V i).2.1 ∧ w.cell? ⟨g, i * 3 + 2, none⟩ = some (vAt V i).2.2 := by
  have hc := World.ownsRow.cells h (g := g) rfl
  obtain ⟨c0, c1, c2⟩ := ncs_at V i hi
  have d0 := hc _ _ c0
  have d1 := hc _ _ c1
  have d2 := hc _ _ c2
  rw [Addr.add_lit, Nat.zero_add] at d0 d1 d2
  exact ⟨d0, d1, d2⟩
theorem row_cap {w : World} {base : Nat} {e : TypeId} {size : Nat} {a : Option Addr} {n c m : Nat} {xs : List Value} (h : w.ownsRow base e size (.slice a n c) m xs) : n = m ∧ n ≤ c ∧ c ≤ 9223372036854775807 := by
  rcases h.2 with ⟨h1, h2⟩ | ⟨g, cap, cur, h1, _, _, h3, h4, _⟩
  · cases h1; exact ⟨h2.symm, Nat.le_refl _, by omega⟩
  · cases h1; unfold maxLen at h4; exact ⟨rfl, h3, by omega⟩
open Go.RowKit
set_option linter.unusedVariables false
def MarkPost (w : World) (v : Value) (V : List V3) (ns : List NB) (k : Nat) (e : Ending) (w' : World) : Prop := e = .returned (.int .i64 ((k + offN ns ns.length : Nat) : Int)) ∧ MkT w' v V ns k ∧ Only (fun y => ∃ i, i < ns.length ∧ bl (vAt V i) y) w w'
set_option maxHeartbeats 4000000 in
set_option maxRecDepth 20000 in
theorem markNodeS_ex (a : Option Addr) (n c k : Nat) (V : List V3) (ns : List NB) (w : World) (h : NA w (.slice a n c) V ns) (hs : smallK ns) (hn : ns.length ≤ 100000) (hk0 : 0 < k) (hk : k ≤ 1000000) :
    Calls Tryz.prog 61 #[.slice a n c, .int .i64 k] w fun e w' => MarkPost w (.slice a n c) V ns k e w' := by
  obtain ⟨hnn, hnc, hcm⟩ := row_cap h.row
  have HNN := hid hnn
  have hn1 : n ≤ 100000 := by omega
  have H0 := hid h
  have HS := hid hs
  clear h hs hnn hn
  go_enter Tryz.func61, Tryz.ntmps61
  go_wp2_with fail
  go_loopw [1, 5] (fun x i wr => ∃ j q : Nat, x = .int .i64 (q : Int) ∧ i = .int .i64 j ∧ j ≤ n ∧ Hid (q = k + offN ns j) ∧ Hid (Only (fun y => ∃ i, i < j ∧ bl (vAt V i) y) w wr) ∧ Hid (∀ i, i < j → LiesN wr (vAt V i) (nAt ns i) (k + offN ns i))) (fun _ i _ => n - (intOf i).toNat)
  case atStart => exact ⟨0, k, rfl, rfl, Nat.zero_le _, rfl, Only.refl _ _, fun i hi => absurd hi (Nat.not_lt_zero _)⟩
  case round =>
    obtain ⟨j, q, rfl, rfl, hj, HQ, HO, HL⟩ := hrel
    by_cases hlt : j < n
    · have hlt' : (j : Int) < (n : Int) := by omega
      have hj0 : (0 : Int) ≤ (j : Int) := by omega
      have hjl : j < ns.length := by rw [← HNN.out]; exact hlt
      have hq1 : 0 < q := by have := HQ.out; omega
      have hq2 : q ≤ 1000000000 := by have h1 := HQ.out; have h2 := offN_le HS.out j (by omega); omega
      have hbd := HS.out j hjl
      have hown := (H0.out.own j hjl).1.to HO.out (fun y hy => by
        rintro ⟨i, hi, hb⟩
        exact H0.out.apart j i hjl (by omega) (by omega) y hy hb)
      have hrow := own_kept H0.out.row HO.out (fun y e => by
        rintro ⟨i, hi, hb⟩
        exact H0.out.off i (by omega) y hb e)
      obtain ⟨g, ha, -⟩ : ∃ g, a = some ⟨g, 0, none⟩ ∧ True := by
        obtain ⟨g, e, _⟩ := H0.out.rowAt (by omega)
        exact ⟨g, e, trivial⟩
      subst ha
      have HRW := hid hrow
      have HAP := hid (H0.out.own j hjl).2
      have HOF : Hid (∀ y, bl (vAt V j) y → y ≠ g) := fun y hy e => H0.out.off j hjl y hy (by rw [e]; rfl)
      have hvl : j < V.length := by rw [H0.out.len]; exact hjl
      obtain ⟨c0, -, -⟩ := row_cells hrow hvl
      have HOW := hid hown
      have HQN : Hid (offN ns (j + 1) = offN ns j + cntN (nAt ns j)) := rfl
      obtain ⟨ap, cp, e0⟩ := own_shape hown.1
      obtain ⟨ax, cx, e1⟩ := own_shape hown.2.1
      obtain ⟨ai, ci, e2⟩ := own_shape hown.2.2
      have HVL := hid hvl
      clear hrow hown hvl
      generalize hxx : nAt ns j = xx at *
      have HXX := hid hxx
      generalize hpp : vAt V j = pp at *
      have HPP := hid hpp
      obtain ⟨p0, p1, p2⟩ := pp
      simp only at e0 e1 e2 c0
      clear hxx hpp
      generalize hnp : xx.ps.length = np at *
      generalize hnx : xx.keys.length = nx at *
      generalize hni : xx.kids.length = ni at *
      have HLN := hid (And.intro hnp (And.intro hnx hni))
      clear hnp hnx hni
      subst e0 e1 e2
      obtain ⟨b1, b2, b3⟩ := hbd
      have K1 : Hid (Kw wr (fun y => (Value.slice ap np cp).ownBlock = some y) (.slice ap np cp) np (np * 2) isStr) := by
        have := kw_own (K := isStr) HOW.out.1 (fun u hu => pcs_str _ u hu)
        rw [pcs_length, HLN.out.1] at this
        exact this
      have K2 : Hid (Kw wr (fun y => (Value.slice ax nx cx).ownBlock = some y) (.slice ax nx cx) nx nx isStr) := by
        have := kw_own (K := isStr) HOW.out.2.1 (fun u hu => by simp at hu; obtain ⟨s, _, rfl⟩ := hu; exact ⟨s, rfl⟩)
        rw [List.length_map, HLN.out.2.1] at this
        exact this
      have K3 : Hid (Kw wr (fun y => (Value.slice ai ni ci).ownBlock = some y) (.slice ai ni ci) ni ni isInt) := by
        have := kw_own (K := isInt) HOW.out.2.2 (fun u hu => by simp at hu; obtain ⟨s, _, rfl⟩ := hu; exact ⟨s, rfl⟩)
        rw [List.length_map, HLN.out.2.2] at this
        exact this
      have hcaps : np ≤ cp ∧ nx ≤ cx ∧ ni ≤ ci := ⟨(row_cap HOW.out.1).2.1, (row_cap HOW.out.2.1).2.1, (row_cap HOW.out.2.2).2.1⟩
      have HCP := hid hcaps
      clear hcaps HOW
      go_wp2_with fail
      refine (markPairS_any _ ap np cp q wr K1.out (by omega) hq1 (by omega)).mono ?_
      rintro e w1 ⟨rfl, hm⟩
      have HM1 := hid hm.1.only
      have HL1 := hid hm.lies
      have HK2 := hid (K2.out.mk hm.1 kind_str)
      have HK3 := hid (K3.out.mk hm.1 kind_int)
      have HR1 : Hid (w1.ownsRow 0 97 3 (.slice (some ⟨g, 0, none⟩) n c) ns.length (ncs V)) := own_kept HRW.out HM1.out (fun y e e2 => HOF.out y (.inl e2) (by simpa [Value.ownBlock] using e.symm))
      obtain ⟨-, c1, -⟩ := row_cells HR1.out HVL.out
      rw [HPP.out] at c1
      simp only at c1
      have hs1 : q + np * 2 ≤ 1000010000 := by omega
      have hs0 : 0 < q + np * 2 := by omega
      have HQ1 : Hid (∃ z, z = q + np * 2) := ⟨_, rfl⟩
      clear hm K1 K2 K3 c0 HQ1
      generalize hq1' : q + np * 2 = q1 at *
      have HQ1 := hid hq1'
      clear hq1'
      go_wp2_with fail
      refine (markStringS_any _ ax nx cx q1 w1 HK2.out (by omega) hs0 (by omega)).mono ?_
      rintro e w2 ⟨rfl, hm⟩
      have HM2 := hid hm.1.only
      have HL2 := hid hm.lies
      have HK4 := hid (HK3.out.mk hm.1 kind_int)
      have HR2 : Hid (w2.ownsRow 0 97 3 (.slice (some ⟨g, 0, none⟩) n c) ns.length (ncs V)) := own_kept HR1.out HM2.out (fun y e e2 => HOF.out y (.inr (.inl e2)) (by simpa [Value.ownBlock] using e.symm))
      obtain ⟨-, -, c2⟩ := row_cells HR2.out HVL.out
      rw [HPP.out] at c2
      simp only at c2
      have hs3 : q1 + nx ≤ 1000020000 := by omega
      have hs4 : 0 < q1 + nx := by omega
      clear hm HK2 HK3 c1
      generalize hq2' : q1 + nx = q2 at *
      have HQ2 := hid hq2'
      clear hq2'
      go_wp2_with fail
      refine (markIntS_any _ ai ni ci q2 w2 HK4.out (by omega) hs4 (by omega)).mono ?_
      rintro e w3 ⟨rfl, hm⟩
      have HM3 := hid hm.1.only
      have HL3 := hid hm.lies
      clear hm HK4 c2
      have HO3 : Hid (Only (fun y => ∃ i, i < j + 1 ∧ bl (vAt V i) y) w w3) := by
        have o1 := HM1.out.mono (R' := fun y => ∃ i, i < j + 1 ∧ bl (vAt V i) y) (fun y _ e => ⟨j, by omega, by rw [HPP.out]; exact .inl e⟩)
        have o2 := HM2.out.mono (R' := fun y => ∃ i, i < j + 1 ∧ bl (vAt V i) y) (fun y _ e => ⟨j, by omega, by rw [HPP.out]; exact .inr (.inl e)⟩)
        have o3 := HM3.out.mono (R' := fun y => ∃ i, i < j + 1 ∧ bl (vAt V i) y) (fun y _ e => ⟨j, by omega, by rw [HPP.out]; exact .inr (.inr e)⟩)
        exact (((HO.out.mono (fun y _ ⟨i, hi, hb⟩ => ⟨i, by omega, hb⟩)).trans o1).trans o2).trans o3
      have HLF : Hid (∀ i, i < j + 1 → LiesN w3 (vAt V i) (nAt ns i) (k + offN ns i)) := by
        intro i hi
        by_cases e : i = j
        · subst e
          rw [HPP.out, HXX.out]
          unfold LiesN
          rw [HLN.out.1, HLN.out.2.1, HLN.out.2.2, ← HQ.out, HQ1.out, HQ2.out]
          have hap := HAP.out
          refine ⟨(LiesV.to ⟨_, cp, rfl, HCP.out.1, HL1.out⟩ HM2.out (fun y e e2 => ((hap y).1 e).1 e2)).to HM3.out (fun y e e2 => ((hap y).1 e).2 e2), LiesV.to ⟨ax, cx, rfl, HCP.out.2.1, HL2.out⟩ HM3.out (fun y e e2 => (hap y).2 e e2), ⟨ai, ci, rfl, HCP.out.2.2, HL3.out⟩⟩
        · have h1 := HL.out i (by omega)
          have hd : ∀ y, bl (vAt V i) y → ¬ bl (Value.slice ap np cp, Value.slice ax nx cx, Value.slice ai ni ci) y := fun y hy hz => H0.out.apart i j (by omega) hjl e y hy (by rw [HPP.out]; exact hz)
          exact ((h1.to HM1.out (fun y hy e => hd y hy (.inl e))).to HM2.out (fun y hy e => hd y hy (.inr (.inl e)))).to HM3.out (fun y hy e => hd y hy (.inr (.inr e)))
      have HQ3 : Hid (q2 + ni = k + offN ns (j + 1)) := by
        show _ = _
        rw [HQN.out, cntN, HLN.out.1, HLN.out.2.1, HLN.out.2.2, ← HQ2.out, ← HQ1.out, HQ.out]; omega
      go_wp2
      go_roundw
      case rel => exact ⟨j + 1, q2 + ni, by go_num, by go_num, by omega, HQ3.out, HO3.out, HLF.out⟩
      case measure => simp [intOf]; omega
    · have hlt' : ¬ (j : Int) < (n : Int) := by omega
      have hjn : j = ns.length := by rw [← HNN.out]; omega
      subst hjn
      have HF : Hid (MkT wr (.slice a n c) V ns k) := ⟨H0.out.len, own_kept H0.out.row HO.out (fun y e => by rintro ⟨i, hi, hb⟩; exact H0.out.off i hi y hb e), HL.out⟩
      clear HL
      go_wp2
      go_ret
      exact ⟨by rw [← HQ.out]; rfl, HF.out, HO.out⟩
set_option maxHeartbeats 1000000 in
theorem markTree_ex (a : Option Addr) (n c k : Nat) (V : List V3) (ns : List NB) (w : World) (h : NA w (.slice a n c) V ns) (hs : smallK ns) (hn : ns.length ≤ 100000) (hk0 : 0 < k) (hk : k ≤ 1000000) :
    Calls Tryz.prog 20 #[.agg #[.slice a n c], .int .i64 k] w fun e w' => MarkPost w (.slice a n c) V ns k e w' := by
  have hb := below_new (o := .cells #[.slice a n c] 28) (w := w) (Below.refl _ _)
  have HN := hid (markNodeS_ex a n c k V ns _ (h.kept hb) hs hn hk0 hk)
  have c0 := (Bk.new w 28 [.slice a n c]).cell (j := 0) rfl
  have HB := hid hb
  clear h hs hb
  go_enter Tryz.func20, Tryz.ntmps20
  go_wp2_with fail
  refine HN.out.mono ?_
  rintro e w1 ⟨rfl, hm, ho⟩
  have HM := hid hm
  have HO := hid ((only_of_below HB.out _).trans ho)
  clear hm ho
  generalize hq : k + offN ns ns.length = q at *
  have HQ := hid hq
  clear hq
  go_wp2
  go_ret
  exact ⟨by rw [HQ.out]; rfl, HM.out, HO.out⟩
set_option maxHeartbeats 4000000 in
set_option maxRecDepth 20000 in
theorem heldNodeS_any (a : Option Addr) (n c k : Nat) (V : List V3) (ns : List NB) (w : World) (h : MkT w (.slice a n c) V ns k) (hs : smallK ns) (hn : ns.length ≤ 100000) (hk0 : 0 < k) (hk : k ≤ 1000000) :
    Calls Tryz.prog 95 #[.slice a n c, .int .i64 k] w fun e w' => e = .returned (.int .i64 ((k + offN ns ns.length : Nat) : Int)) ∧ Below w.heap.size w w' := by
  obtain ⟨hnn, hnc, hcm⟩ := row_cap h.row
  have HNN := hid hnn
  have hn1 : n ≤ 100000 := by omega
  have H0 := hid h
  have HS := hid hs
  clear h hs hnn hn
  go_enter Tryz.func95, Tryz.ntmps95
  go_wp2_with fail
  go_loopw [1, 5] (fun x i wr => ∃ j q : Nat, x = .int .i64 (q : Int) ∧ i = .int .i64 j ∧ j ≤ n ∧ Hid (q = k + offN ns j) ∧ Hid (Below w.heap.size w wr)) (fun _ i _ => n - (intOf i).toNat)
  case atStart => exact ⟨0, k, rfl, rfl, Nat.zero_le _, rfl, Below.refl _ _⟩
  case round =>
    obtain ⟨j, q, rfl, rfl, hj, HQ, HB⟩ := hrel
    by_cases hlt : j < n
    · have hlt' : (j : Int) < (n : Int) := by omega
      have hj0 : (0 : Int) ≤ (j : Int) := by omega
      have hjl : j < ns.length := by rw [← HNN.out]; exact hlt
      have hq1 : 0 < q := by have := HQ.out; omega
      have hq2 : q ≤ 1000000000 := by have h1 := HQ.out; have h2 := offN_le HS.out j (by omega); omega
      have hbd := HS.out j hjl
      have H1 := hid (H0.out.below HB.out)
      obtain ⟨g, ha, -⟩ : ∃ g, a = some ⟨g, 0, none⟩ ∧ True := by
        rcases H0.out.row.2 with ⟨e, e2⟩ | ⟨g, cap, cur, e, _⟩
        · omega
        · cases e; exact ⟨g, rfl, trivial⟩
      subst ha
      have hvl : j < V.length := by rw [H0.out.len]; exact hjl
      have HVL := hid hvl
      obtain ⟨c0, -, -⟩ := row_cells H1.out.row hvl
      have hlie := H1.out.lie j hjl
      rw [← HQ.out] at hlie
      have HQN : Hid (offN ns (j + 1) = offN ns j + cntN (nAt ns j)) := rfl
      generalize hpp : vAt V j = pp at *
      have HPP := hid hpp
      obtain ⟨p0, p1, p2⟩ := pp
      generalize hxx : nAt ns j = xx at *
      clear hpp hxx hvl
      unfold LiesN at hlie
      generalize hnp : xx.ps.length = np at *
      generalize hnx : xx.keys.length = nx at *
      generalize hni : xx.kids.length = ni at *
      have HLN := hid (And.intro hnp (And.intro hnx hni))
      clear hnp hnx hni
      obtain ⟨⟨ap, cp, e0, hc0, l0⟩, ⟨ax, cx, e1, hc1, l1⟩, ⟨ai, ci, e2, hc2, l2⟩⟩ := hlie
      simp only at e0 e1 e2 c0
      subst e0 e1 e2
      have L1 := hid l1
      have L2 := hid l2
      obtain ⟨b1, b2, b3⟩ := hbd
      have HP := hid (heldPairS_any ap np cp q wr l0 hc0 (by omega) hq1 (by omega))
      clear l0 l1 l2
      go_wp2_with fail
      refine HP.out.mono ?_
      rintro e w1 ⟨rfl, hb⟩
      have HB1 := hid (Below.then' HB.out hb (Nat.le_refl _))
      obtain ⟨-, c1, -⟩ := row_cells (H1.out.below hb).row HVL.out
      rw [HPP.out] at c1
      simp only at c1
      have M1 := hid (L1.out.below hb)
      have M2 := hid (L2.out.below hb)
      have H2 := hid (H1.out.below hb)
      have hs1 : q + np * 2 ≤ 1000010000 := by omega
      have hs0 : 0 < q + np * 2 := by omega
      clear hb c0 HP L1 L2 H1
      generalize hq1' : q + np * 2 = q1 at *
      have HQ1 := hid hq1'
      have HP2 := hid (heldStringS_any ax nx cx q1 w1 M1.out hc1 (by omega) hs0 (by omega))
      clear hq1'
      have hn0 : ¬ (q1 : Int) < 0 := by omega
      go_wp2_with fail
      refine HP2.out.mono ?_
      rintro e w2 ⟨rfl, hb⟩
      have HB2 := hid (Below.then' HB1.out hb (Nat.le_refl _))
      obtain ⟨-, -, c2⟩ := row_cells (H2.out.below hb).row HVL.out
      rw [HPP.out] at c2
      simp only at c2
      have N2 := hid (M2.out.below hb)
      have hs3 : q1 + nx ≤ 1000020000 := by omega
      have hs4 : 0 < q1 + nx := by omega
      clear hb c1 HP2 M1 M2 H2
      generalize hq2' : q1 + nx = q2 at *
      have HQ2 := hid hq2'
      have HP3 := hid (heldIntS_any ai ni ci q2 w2 N2.out hc2 (by omega) hs4 (by omega))
      clear hq2'
      have hn2 : ¬ (q2 : Int) < 0 := by omega
      go_wp2_with fail
      refine HP3.out.mono ?_
      rintro e w3 ⟨rfl, rfl⟩
      have HQ3 : Hid (q2 + ni = k + offN ns (j + 1)) := by
        show _ = _
        rw [HQN.out, cntN, HLN.out.1, HLN.out.2.1, HLN.out.2.2, ← HQ2.out, ← HQ1.out, HQ.out]; omega
      have hs5 : q2 + ni ≤ 1000030000 := by omega
      clear c2 HP3 N2
      generalize hq3' : q2 + ni = q3 at *
      clear hq3'
      have hn3 : ¬ (q3 : Int) < 0 := by omega
      go_wp2
      go_roundw
      case rel => exact ⟨j + 1, q3, rfl, by go_num, by omega, HQ3.out, HB2.out⟩
      case measure => simp [intOf]; omega
    · have hlt' : ¬ (j : Int) < (n : Int) := by omega
      have hjn : j = ns.length := by rw [← HNN.out]; omega
      subst hjn
      have HE : Hid ((k : Int) + (offN ns ns.length : Int) = (q : Int)) := by have := HQ.out; show _ = _; omega
      go_wp2
      go_ret
      exact ⟨by rw [HE.out]; rfl, HB.out⟩
set_option maxHeartbeats 1000000 in
theorem heldTree_any (a : Option Addr) (n c k : Nat) (V : List V3) (ns : List NB) (w : World) (h : MkT w (.slice a n c) V ns k) (hs : smallK ns) (hn : ns.length ≤ 100000) (hk0 : 0 < k) (hk : k ≤ 1000000) :
    Calls Tryz.prog 43 #[.agg #[.slice a n c], .int .i64 k] w fun e w' => e = .returned (.int .i64 ((k + offN ns ns.length : Nat) : Int)) ∧ Below w.heap.size w w' := by
  have hb := below_new (o := .cells #[.slice a n c] 28) (w := w) (Below.refl _ _)
  have HN := hid (heldNodeS_any a n c k V ns _ (h.below hb) hs hn hk0 hk)
  have c0 := (Bk.new w 28 [.slice a n c]).cell (j := 0) rfl
  have HB := hid hb
  clear h hs hb
  go_enter Tryz.func43, Tryz.ntmps43
  go_wp2_with fail
  refine HN.out.mono ?_
  rintro e w1 ⟨rfl, hb⟩
  have HB1 := hid (Below.then' HB.out hb (Nat.le_refl _))
  clear hb
  generalize hq : k + offN ns ns.length = q at *
  have HQ := hid hq
  clear hq
  have hn0 : ¬ (q : Int) < 0 := by omega
  go_wp2
  go_ret
  exact ⟨by rw [HQ.out]; rfl, HB1.out⟩
open Go.RowKit
set_option linter.unusedVariables false
structure StR (w : World) (S : Nat → Prop) (xa : Option Addr) (xn xc : Nat) (ya : Option Addr) (yn yc : Nat) (na : Option Addr) (nn nc : Nat) (pa : Option Addr) (pn pc : Nat) (d : DK) (s : LS) : Prop where
  dk : Dk w S xa xn xc ya yn yc d
  nr : Nr w S (.slice na nn nc) s.1
  ir : Ir w S (.slice pa pn pc) s.2
theorem StR.below {w w' : World} {S : Nat → Prop} {xa : Option Addr} {xn xc : Nat} {ya : Option Addr} {yn yc : Nat} {na : Option Addr} {nn nc : Nat} {pa : Option Addr} {pn pc : Nat} {d : DK} {s : LS} (h : StR w S xa xn xc ya yn yc na nn nc pa pn pc d s) (hb : Below w.heap.size w w') : StR w' S xa xn xc ya yn yc na nn nc pa pn pc d s := ⟨h.dk.below hb, h.nr.below hb, Rw.to h.ir (only_of_below hb (fun _ => False)) (fun _ _ _ h => h)⟩
structure StO (w : World) (B : Nat) (xa : Option Addr) (xn xc : Nat) (ya : Option Addr) (yn yc : Nat) (na : Option Addr) (nn nc : Nat) (pa : Option Addr) (pn pc : Nat) (Vd : List Value) (Ud : List (Int × Value)) (V : List V3) (d : DK) (s : LS) : Prop where
  dk : DO w B (.slice xa xn xc) Vd (.slice ya yn yc) Ud d
  sn : SN w B na nn nc pa pn pc V s
  ap : ∀ y, dbl (.slice xa xn xc) Vd (.slice ya yn yc) Ud y → ¬ snb na nn nc pa pn pc V s y
def stb (xa : Option Addr) (xn xc : Nat) (ya : Option Addr) (yn yc : Nat) (na : Option Addr) (nn nc : Nat) (pa : Option Addr) (pn pc : Nat) (Vd : List Value) (Ud : List (Int × Value)) (V : List V3) (s : LS) (y : Nat) : Prop := dbl (.slice xa xn xc) Vd (.slice ya yn yc) Ud y ∨ snb na nn nc pa pn pc V s y
theorem StO.below {w w' : World} {B : Nat} {xa : Option Addr} {xn xc : Nat} {ya : Option Addr} {yn yc : Nat} {na : Option Addr} {nn nc : Nat} {pa : Option Addr} {pn pc : Nat} {Vd : List Value} {Ud : List (Int × Value)} {V : List V3} {d : DK} {s : LS} (h : StO w B xa xn xc ya yn yc na nn nc pa pn pc Vd Ud V d s) (hb : Below w.heap.size w w') : StO w' B xa xn xc ya yn yc na nn nc pa pn pc Vd Ud V d s := ⟨h.dk.below hb, h.sn.below hb, h.ap⟩
theorem StO.lt {w : World} {B : Nat} {xa : Option Addr} {xn xc : Nat} {ya : Option Addr} {yn yc : Nat} {na : Option Addr} {nn nc : Nat} {pa : Option Addr} {pn pc : Nat} {Vd : List Value} {Ud : List (Int × Value)} {V : List V3} {d : DK} {s : LS} (h : StO w B xa xn xc ya yn yc na nn nc pa pn pc Vd Ud V d s) {y : Nat} (hy : stb xa xn xc ya yn yc na nn nc pa pn pc Vd Ud V s y) : B ≤ y ∧ y < w.heap.size := hy.elim (fun h1 => h.dk.lt h1) (fun h1 => h.sn.lt h1)
theorem SN.ir {w : World} {B : Nat} {na : Option Addr} {nn nc : Nat} {pa : Option Addr} {pn pc : Nat} {V : List V3} {s : LS} (h : SN w B na nn nc pa pn pc V s) : Ir w (fun _ => True) (.slice pa pn pc) s.2 := by
  have := rw_own h.pla (S := fun _ => True) (fun _ _ _ _ => trivial)
  show Rw _ _ _ _ _
  simpa using this
theorem StO.rd {w : World} {B : Nat} {xa : Option Addr} {xn xc : Nat} {ya : Option Addr} {yn yc : Nat} {na : Option Addr} {nn nc : Nat} {pa : Option Addr} {pn pc : Nat} {Vd : List Value} {Ud : List (Int × Value)} {V : List V3} {d : DK} {s : LS} (h : StO w B xa xn xc ya yn yc na nn nc pa pn pc Vd Ud V d s) : StR w (fun _ => True) xa xn xc ya yn yc na nn nc pa pn pc d s := ⟨h.dk.dk (fun _ _ => trivial), h.sn.nod.nr (fun _ _ => trivial), h.sn.ir⟩
structure StQ (w : World) (xa : Option Addr) (xn xc : Nat) (ya : Option Addr) (yn yc : Nat) (na : Option Addr) (nn nc : Nat) (pa : Option Addr) (pn pc : Nat) (Vd : List Value) (Ud : List (Int × Value)) (V : List V3) (d : DK) (s : LS) (k : Nat) : Prop where
  dm : DM w (.slice xa xn xc) Vd (.slice ya yn yc) Ud d k
  mt : MkT w (.slice na nn nc) V s.1 (k + dkTot d)
  pl : pn = s.2.length ∧ pn ≤ pc
  mi : Lies w pa pn pn (mI (k + dkTot d + offN s.1 s.1.length))
theorem StQ.below {w w' : World} {xa : Option Addr} {xn xc : Nat} {ya : Option Addr} {yn yc : Nat} {na : Option Addr} {nn nc : Nat} {pa : Option Addr} {pn pc : Nat} {Vd : List Value} {Ud : List (Int × Value)} {V : List V3} {d : DK} {s : LS} {k : Nat} (h : StQ w xa xn xc ya yn yc na nn nc pa pn pc Vd Ud V d s k) (hb : Below w.heap.size w w') : StQ w' xa xn xc ya yn yc na nn nc pa pn pc Vd Ud V d s k := ⟨h.dm.below hb, h.mt.below hb, h.pl, h.mi.below hb⟩
theorem st_uf {w : World} {base : Nat} {e : TypeId} {size : Nat} {v : Value} {n : Nat} {xs : List Value} (h : w.ownsRow base e size v n xs) {k : Nat} (hk : v.ownBlock = some k) : Uf w k := by
  rcases h.2 with ⟨rfl, _⟩ | ⟨g, cap, cur, rfl, _, hg, _⟩
  · cases hk
  · cases hk
    exact ⟨_, _, hg⟩
theorem MkT.to9 {w w' : World} {R : Nat → Prop} {v : Value} {V : List V3} {ns : List NB} {k : Nat} (h : MkT w v V ns k) (ho : Only R w w') (hv : ∀ y, v.ownBlock = some y → ¬ R y) (hR : ∀ i, i < ns.length → ∀ y, bl (vAt V i) y → ¬ R y) : MkT w' v V ns k := ⟨h.len, own_kept h.row ho hv, fun i hi => (h.lie i hi).to ho (hR i hi)⟩
def stTot (d : DK) (s : LS) : Nat := dkTot d + offN s.1 s.1.length + s.2.length
set_option maxHeartbeats 6400000 in
set_option maxRecDepth 20000 in
theorem eqStore_same (S S' : Nat → Prop) (xa : Option Addr) (xn xc : Nat) (ya : Option Addr) (yn yc : Nat) (na : Option Addr) (nn nc : Nat) (pa : Option Addr) (pn pc : Nat) (xa' : Option Addr) (xn' xc' : Nat) (ya' : Option Addr) (yn' yc' : Nat) (na' : Option Addr) (nn' nc' : Nat) (pa' : Option Addr) (pn' pc' : Nat) (g : Int) (d : DK) (s : LS) (w : World) (h : StR w S xa xn xc ya yn yc na nn nc pa pn pc d s) (h' : StR w S' xa' xn' xc' ya' yn' yc' na' nn' nc' pa' pn' pc' d s) (hs : smallD d) :
    Calls Tryz.prog 8 #[.agg #[.slice xa xn xc, .slice ya yn yc, .int .i64 g, .slice na nn nc, .slice pa pn pc], .agg #[.slice xa' xn' xc', .slice ya' yn' yc', .int .i64 g, .slice na' nn' nc', .slice pa' pn' pc']] w fun e w' => e = .returned (.bool true) ∧ Below w.heap.size w w' := by
  have HB0 : Hid (Below w.heap.size w ((w.alloc (.cells #[.slice xa xn xc, .slice ya yn yc, .int .i64 g, .slice na nn nc, .slice pa pn pc] 31)).alloc (.cells #[.slice xa' xn' xc', .slice ya' yn' yc', .int .i64 g, .slice na' nn' nc', .slice pa' pn' pc'] 31))) := below_new (below_new (Below.refl _ _))
  have K0 := hid ((Bk.new w 31 [.slice xa xn xc, .slice ya yn yc, .int .i64 g, .slice na nn nc, .slice pa pn pc]).alloc (.cells #[.slice xa' xn' xc', .slice ya' yn' yc', .int .i64 g, .slice na' nn' nc', .slice pa' pn' pc'] 31))
  have J0 := hid (Bk.new (w.alloc (.cells #[.slice xa xn xc, .slice ya yn yc, .int .i64 g, .slice na nn nc, .slice pa pn pc] 31)) 31 [.slice xa' xn' xc', .slice ya' yn' yc', .int .i64 g, .slice na' nn' nc', .slice pa' pn' pc'])
  rw [show (w.alloc (.cells #[.slice xa xn xc, .slice ya yn yc, .int .i64 g, .slice na nn nc, .slice pa pn pc] 31)).heap.size = w.heap.size + 1 by simp] at J0
  have H0 := hid (h.below HB0.out)
  have G0 := hid (h'.below HB0.out)
  have HS := hid hs
  have hz : (g != g) = false := by simp
  clear h h' hs
  go_enter Tryz.func8, Tryz.ntmps8
  go_wp2_with fail
  refine (eqDisk_any S S' xa xn xc ya yn yc d xa' xn' xc' ya' yn' yc' d _ H0.out.dk G0.out.dk HS.out HS.out).mono ?_
  rw [decide_eq_true (rfl : d = d)]
  generalize (w.alloc (.cells #[.slice xa xn xc, .slice ya yn yc, .int .i64 g, .slice na nn nc, .slice pa pn pc] 31)).alloc (.cells #[.slice xa' xn' xc', .slice ya' yn' yc', .int .i64 g, .slice na' nn' nc', .slice pa' pn' pc'] 31) = U at *
  rintro e w1 ⟨rfl, hb⟩
  have H1 := hid (H0.out.below hb)
  have G1 := hid (G0.out.below hb)
  have K1 := hid (K0.out.below hb)
  have J1 := hid (J0.out.below hb)
  have B1 := hid (HB0.out.trans (hb.mono HB0.out.size))
  clear hb H0 G0 K0 J0 HB0
  have x0 := K1.out.cell (j := 0) rfl
  have y0 := J1.out.cell (j := 0) rfl
  have x1 := K1.out.cell (j := 1) rfl
  have y1 := J1.out.cell (j := 1) rfl
  have x2 := K1.out.cell (j := 2) rfl
  have y2 := J1.out.cell (j := 2) rfl
  have x3 := K1.out.cell (j := 3) rfl
  have y3 := J1.out.cell (j := 3) rfl
  have x4 := K1.out.cell (j := 4) rfl
  have y4 := J1.out.cell (j := 4) rfl
  go_wp2_with fail
  refine (eqTree_at S S' na na' nn nn' nc nc' s.1 s.1 _ H1.out.nr G1.out.nr).mono ?_
  rw [decide_eq_true (rfl : s.1 = s.1)]
  rintro e w2 ⟨rfl, hb⟩
  have H2 := hid (H1.out.below hb)
  have G2 := hid (G1.out.below hb)
  have K2 := hid (K1.out.below hb)
  have J2 := hid (J1.out.below hb)
  have B2 := hid (B1.out.trans (hb.mono B1.out.size))
  clear hb H1 G1 K1 J1 B1 x0 y0 x1 y1 x2 y2 x3 y3 x4 y4
  have x0 := K2.out.cell (j := 0) rfl
  have y0 := J2.out.cell (j := 0) rfl
  have x1 := K2.out.cell (j := 1) rfl
  have y1 := J2.out.cell (j := 1) rfl
  have x2 := K2.out.cell (j := 2) rfl
  have y2 := J2.out.cell (j := 2) rfl
  have x3 := K2.out.cell (j := 3) rfl
  have y3 := J2.out.cell (j := 3) rfl
  have x4 := K2.out.cell (j := 4) rfl
  have y4 := J2.out.cell (j := 4) rfl
  go_wp2_with fail
  refine (eqIntS_at S S' pa pa' pn pn' pc pc' s.2 s.2 _ H2.out.ir G2.out.ir).mono ?_
  rw [decide_eq_true (rfl : s.2 = s.2)]
  rintro e w3 ⟨rfl, hb⟩
  have B3 := hid (B2.out.trans (hb.mono B2.out.size))
  clear hb H2 G2 K2 J2 B2 x0 y0 x1 y1 x2 y2 x3 y3 x4 y4
  go_wp2
  go_ret
  exact ⟨rfl, B3.out⟩
set_option maxHeartbeats 6400000 in
set_option maxRecDepth 20000 in
theorem markStore_ex (B : Nat) (xa : Option Addr) (xn xc : Nat) (ya : Option Addr) (yn yc : Nat) (na : Option Addr) (nn nc : Nat) (pa : Option Addr) (pn pc : Nat) (g : Int) (Vd : List Value) (Ud : List (Int × Value)) (V : List V3) (d : DK) (s : LS) (k : Nat) (w : World) (h : StO w B xa xn xc ya yn yc na nn nc pa pn pc Vd Ud V d s) (ht : dkTot d ≤ 900000) (hs : smallK s.1) (hn : s.1.length ≤ 100000) (hk0 : 0 < k) (hk : k ≤ 100000) :
    Calls Tryz.prog 9 #[.agg #[.slice xa xn xc, .slice ya yn yc, .int .i64 g, .slice na nn nc, .slice pa pn pc], .int .i64 (k : Int)] w fun e w' => e = .returned (.int .i64 ((k + stTot d s : Nat) : Int)) ∧ StQ w' xa xn xc ya yn yc na nn nc pa pn pc Vd Ud V d s k ∧ Only (stb xa xn xc ya yn yc na nn nc pa pn pc Vd Ud V s) w w' := by
  have hb := below_new (o := .cells #[.slice xa xn xc, .slice ya yn yc, .int .i64 g, .slice na nn nc, .slice pa pn pc] 31) (w := w) (Below.refl _ _)
  have K0 := hid (Bk.new w 31 [.slice xa xn xc, .slice ya yn yc, .int .i64 g, .slice na nn nc, .slice pa pn pc])
  have H0 := hid (h.below hb)
  have HLT : Hid (∀ y, stb xa xn xc ya yn yc na nn nc pa pn pc Vd Ud V s y → y < w.heap.size) := fun y hy => (h.lt hy).2
  have HK := hid hs
  have HT := hid ht
  have HO := offN_le hs s.1.length (Nat.le_refl _)
  have HPL : Hid (pn = s.2.length ∧ pn ≤ pc ∧ pc ≤ 9223372036854775807 ∧ s.2.length = s.1.length) := ⟨by have := (own_at h.sn.pla).1; omega, (own_at h.sn.pla).2.1, (own_at h.sn.pla).2.2.1, h.sn.len⟩
  have hpn : pn ≤ 100000 := by have := HPL.out; omega
  have HB0 := hid hb
  clear h hb hs
  go_enter Tryz.func9, Tryz.ntmps9
  go_wp2_with fail
  refine (markDisk_ex B xa xn xc ya yn yc k Vd Ud d _ H0.out.dk (by omega) hk0 (by omega)).mono ?_
  generalize w.alloc (.cells #[.slice xa xn xc, .slice ya yn yc, .int .i64 g, .slice na nn nc, .slice pa pn pc] 31) = U at *
  rintro e w1 ⟨rfl, hm, ho⟩
  have K1 := hid (K0.out.to ho (fun e => absurd (HLT.out _ (.inl e)) (Nat.lt_irrefl _)))
  have N1 := hid (H0.out.sn.to ho (fun y hy e => H0.out.ap y e hy))
  have M1 := hid hm
  have O1 := hid ho
  clear hm ho
  have z0 := K1.out.cell (j := 0) rfl
  have z1 := K1.out.cell (j := 1) rfl
  have z2 := K1.out.cell (j := 2) rfl
  have z3 := K1.out.cell (j := 3) rfl
  have z4 := K1.out.cell (j := 4) rfl
  have hk1 : (0 : Int) < ((k + dkTot d : Nat) : Int) := by omega
  go_wp2_with fail
  refine (markTree_ex na nn nc (k + dkTot d) V s.1 _ N1.out.nod HK.out hn (by omega) (by omega)).mono ?_
  rintro e w2 ⟨rfl, hm, ho⟩
  have K2 := hid (K1.out.to ho (fun e => absurd (HLT.out _ (.inr (.inr (.inr e)))) (Nat.lt_irrefl _)))
  have M2 := hid hm
  have D2 := hid (M1.out.to ho (fun y hy e => H0.out.ap y hy (.inr (.inr e))))
  have P2 : Hid (w2.ownsRow 0 3 1 (.slice pa pn pc) s.2.length (s.2.map (Value.int .i64))) := own_kept N1.out.pla ho (fun y hy e => by obtain ⟨i, hi, hbl⟩ := e; exact (N1.out.bp y hy).2.2 i hi hbl)
  have O2 := hid ho
  clear hm ho z0 z1 z2 z3 z4 K1 M1
  have z0 := K2.out.cell (j := 0) rfl
  have z1 := K2.out.cell (j := 1) rfl
  have z2 := K2.out.cell (j := 2) rfl
  have z3 := K2.out.cell (j := 3) rfl
  have z4 := K2.out.cell (j := 4) rfl
  have HKW : Hid (Kw w2 (fun y => (Value.slice pa pn pc).ownBlock = some y) (.slice pa pn pc) pn pn isInt) := by
    have h1 := rw_own P2.out (S := fun y => (Value.slice pa pn pc).ownBlock = some y) (fun k hk _ _ => hk)
    have h2 := kw_of (K := isInt) (S' := fun y => (Value.slice pa pn pc).ownBlock = some y) h1 (fun u hu => by simp at hu; obtain ⟨s, _, rfl⟩ := hu; exact ⟨s, rfl⟩) (fun b hb _ => ⟨hb, st_uf P2.out hb⟩)
    rw [List.length_map, ← HPL.out.1] at h2
    exact h2
  go_wp2_with fail
  refine (markIntS_any _ pa pn pc (k + dkTot d + offN s.1 s.1.length) _ HKW.out (by omega) (by omega) (by omega)).mono ?_
  rintro e w3 ⟨rfl, hm⟩
  have O3 := hid hm.1.only
  have M3 := hid hm.lies
  clear hm z0 z1 z2 z3 z4 K2 HKW
  have HE : Hid ((k : Int) + (dkTot d : Int) + (offN s.1 s.1.length : Int) + (pn : Int) = ((k + stTot d s : Nat) : Int)) := by have h1 := HPL.out.1; show _ = _; unfold stTot; omega
  go_wp2
  go_ret
  refine ⟨by rw [← HE.out]; rfl, ⟨D2.out.to O3.out (fun y hy e => H0.out.ap y hy (.inr (.inl e))), ?_, ⟨HPL.out.1, HPL.out.2.1⟩, M3.out⟩, ?_⟩
  · exact MkT.to9 M2.out O3.out (fun y hy e => (N1.out.bp y e).2.1 hy) (fun i hi y hy e => (N1.out.bp y e).2.2 i hi hy)
  · have o0 : Only (stb xa xn xc ya yn yc na nn nc pa pn pc Vd Ud V s) U w3 := (O1.out.mono (fun y _ e => .inl e)).trans ((O2.out.mono (fun y _ e => .inr (.inr (.inr e)))).trans (O3.out.mono (fun y _ e => .inr (.inr (.inl e)))))
    exact (only_of_below HB0.out _).trans o0
set_option maxHeartbeats 6400000 in
set_option maxRecDepth 20000 in
theorem heldStore_any (xa : Option Addr) (xn xc : Nat) (ya : Option Addr) (yn yc : Nat) (na : Option Addr) (nn nc : Nat) (pa : Option Addr) (pn pc : Nat) (g : Int) (Vd : List Value) (Ud : List (Int × Value)) (V : List V3) (d : DK) (s : LS) (k : Nat) (w : World) (h : StQ w xa xn xc ya yn yc na nn nc pa pn pc Vd Ud V d s k) (ht : dkTot d ≤ 900000) (hs : smallK s.1) (hn : s.1.length ≤ 100000) (hl : s.2.length = s.1.length) (hk0 : 0 < k) (hk : k ≤ 100000) :
    Calls Tryz.prog 10 #[.agg #[.slice xa xn xc, .slice ya yn yc, .int .i64 g, .slice na nn nc, .slice pa pn pc], .int .i64 (k : Int)] w fun e w' => e = .returned (.int .i64 ((k + stTot d s : Nat) : Int)) ∧ Below w.heap.size w w' := by
  have hb := below_new (o := .cells #[.slice xa xn xc, .slice ya yn yc, .int .i64 g, .slice na nn nc, .slice pa pn pc] 31) (w := w) (Below.refl _ _)
  have K0 := hid (Bk.new w 31 [.slice xa xn xc, .slice ya yn yc, .int .i64 g, .slice na nn nc, .slice pa pn pc])
  have H0 := hid (h.below hb)
  have HK := hid hs
  have HT := hid ht
  have HO := offN_le hs s.1.length (Nat.le_refl _)
  have HPL := hid h.pl
  have hpn : pn ≤ 100000 := by have := h.pl; omega
  have HB0 := hid hb
  clear h hb hs
  go_enter Tryz.func10, Tryz.ntmps10
  go_wp2_with fail
  refine (heldDisk_any xa xn xc ya yn yc k Vd Ud d _ H0.out.dm (by omega) hk0 (by omega)).mono ?_
  generalize w.alloc (.cells #[.slice xa xn xc, .slice ya yn yc, .int .i64 g, .slice na nn nc, .slice pa pn pc] 31) = U at *
  rintro e w1 ⟨rfl, hb⟩
  have K1 := hid (K0.out.below hb)
  have H1 := hid (H0.out.below hb)
  have B1 := hid (HB0.out.trans (hb.mono HB0.out.size))
  have hk1 : ¬ ((k + dkTot d : Nat) : Int) < 0 := by omega
  clear hb K0 H0 HB0
  have z0 := K1.out.cell (j := 0) rfl
  have z1 := K1.out.cell (j := 1) rfl
  have z2 := K1.out.cell (j := 2) rfl
  have z3 := K1.out.cell (j := 3) rfl
  have z4 := K1.out.cell (j := 4) rfl
  go_wp2_with fail
  refine (heldTree_any na nn nc (k + dkTot d) V s.1 _ H1.out.mt HK.out hn (by omega) (by omega)).mono ?_
  rintro e w2 ⟨rfl, hb⟩
  have K2 := hid (K1.out.below hb)
  have H2 := hid (H1.out.below hb)
  have B2 := hid (B1.out.trans (hb.mono B1.out.size))
  have hk2 : ¬ ((k + dkTot d + offN s.1 s.1.length : Nat) : Int) < 0 := by omega
  clear hb K1 H1 B1 z0 z1 z2 z3 z4
  have z0 := K2.out.cell (j := 0) rfl
  have z1 := K2.out.cell (j := 1) rfl
  have z2 := K2.out.cell (j := 2) rfl
  have z3 := K2.out.cell (j := 3) rfl
  have z4 := K2.out.cell (j := 4) rfl
  go_wp2_with fail
  refine (heldIntS_any pa pn pc (k + dkTot d + offN s.1 s.1.length) _ H2.out.mi HPL.out.2 (by omega) (by omega) (by omega)).mono ?_
  rintro e w3 ⟨rfl, rfl⟩
  have hk3 : ¬ ((k + dkTot d + offN s.1 s.1.length + pn : Nat) : Int) < 0 := by omega
  have HE : Hid ((k : Int) + (dkTot d : Int) + (offN s.1 s.1.length : Int) + (pn : Int) = ((k + stTot d s : Nat) : Int)) := by have h1 := HPL.out.1; show _ = _; unfold stTot; omega
  go_wp2
  go_ret
  exact ⟨by rw [← HE.out]; rfl, B2.out⟩
open Go.RowKit
set_option linter.unusedVariables false
def ScPost (d : DK) (w : World) (e : Ending) (w' : World) : Prop := Below w.heap.size w w' ∧ ∃ xa xn xc ya yn yc na nn nc pa pn pc, e = .returned (.tuple #[.agg #[.slice xa xn xc, .slice ya yn yc, .int .i64 (stG d), .slice na nn nc, .slice pa pn pc], .int .i64 (stC d)]) ∧ StR w' (fun _ => True) xa xn xc ya yn yc na nn nc pa pn pc (stD d) (stL d)
theorem stR_nil (w : World) : StR w (fun _ => True) none 0 0 none 0 0 none 0 0 none 0 0 ⟨[], []⟩ ([], []) :=
  ⟨⟨⟨[], rfl, rw_nil _ _, fun i hi => by simp at hi⟩, ⟨[], rfl, rw_nil _ _, fun i hi => by simp at hi⟩⟩, ⟨[], rfl, rw_nil _ _, fun i hi => by simp at hi⟩, rw_nil _ _⟩
theorem sc_yes {d : DK} {w w' : World} {s : LS} {xa : Option Addr} {xn xc : Nat} {ya : Option Addr} {yn yc : Nat} {na : Option Addr} {nn nc : Nat} {pa : Option Addr} {pn pc : Nat} (hb : Below w.heap.size w w') (h0 : stC d = 0) (hs : stR d = some s) (hR : StR w' (fun _ => True) xa xn xc ya yn yc na nn nc pa pn pc d s) : ScPost d w (.returned (.tuple #[.agg #[.slice xa xn xc, .slice ya yn yc, .int .i64 (bestM d 2).1, .slice na nn nc, .slice pa pn pc], .int .i64 0])) w' := by
  refine ⟨hb, xa, xn, xc, ya, yn, yc, na, nn, nc, pa, pn, pc, ?_, ?_⟩
  · rw [stG, if_pos h0, h0]
  · rw [stD, if_pos h0, stL, if_pos h0, hs]
    exact hR
theorem stC_2 {d : DK} (h : ¬ (dkOk d = false ∨ 0 < d.dw.length)) (h2 : ¬ 0 < (bestM d 2).1) : stC d = 2 := by unfold stC; rw [if_neg h, if_neg h2]
theorem stC_3 {d : DK} (h : ¬ (dkOk d = false ∨ 0 < d.dw.length)) (h2 : 0 < (bestM d 2).1) (h3 : stR d = none) : stC d = 3 := by unfold stC; rw [if_neg h, if_pos h2, h3]
theorem stC_s {d : DK} {s : LS} (h : ¬ (dkOk d = false ∨ 0 < d.dw.length)) (h2 : 0 < (bestM d 2).1) (h3 : stR d = some s) : stC d = if (okT s.1).isSome = true then 0 else 3 := by unfold stC; rw [if_neg h, if_pos h2, h3]
theorem bk_back {v : World} {g j : Nat} {T : TypeId} {xs : List Value} {u : Value} (h : Bk v g T xs) (hc : v.cell? ⟨g, j, none⟩ = some u) : xs[j]? = some u := by
  have h' : v.heap[g]? = some (.cells xs.toArray T (0, 0)) := h
  simpa [World.cell?, h'] using hc
def smL (ns : List NB) (b : Nat) : Prop := ∀ i, b ≤ i → i < ns.length → (nAt ns i).ps.length ≤ 4 ∧ (nAt ns i).keys.length ≤ 4 ∧ (nAt ns i).kids.length ≤ 4
def okF (F : Int → LS → Option LS) : Prop := ∀ t s s', F t s = some s' → s.1.length + 1 ≤ s'.1.length ∧ (∀ i, i < s.1.length → nAt s'.1 i = nAt s.1 i) ∧ smL s'.1 s.1.length
theorem addK_at {ns : List NB} {me : Nat} (q : Int) (hme : me < ns.length) (i : Nat) : nAt (addK ns me q) i = if i = me then ⟨(nAt ns me).ps, (nAt ns me).keys, (nAt ns me).kids ++ [q]⟩ else nAt ns i := by
  unfold addK nAt
  by_cases e : i = me
  · subst e
    rw [if_pos rfl, List.getElem?_set_self hme]
    rfl
  · rw [if_neg e, List.getElem?_set_ne (fun q => e q.symm)]
theorem ldK_sm {F : Int → LS → Option LS} (hF : okF F) (me : Nat) : ∀ (ks : List Int) (s s' : LS), me < s.1.length → ldK F me ks s = some s' → s.1.length ≤ s'.1.length ∧ (∀ i, i < s.1.length → i ≠ me → nAt s'.1 i = nAt s.1 i) ∧ ((nAt s'.1 me).ps = (nAt s.1 me).ps ∧ (nAt s'.1 me).keys = (nAt s.1 me).keys ∧ (nAt s'.1 me).kids.length = (nAt s.1 me).kids.length + ks.length) ∧ smL s'.1 s.1.length
  | [], s, s', hme, h => by
    have e : s = s' := Option.some.inj h
    subst e
    exact ⟨Nat.le_refl _, fun _ _ _ => rfl, ⟨rfl, rfl, rfl⟩, fun i h1 h2 => by omega⟩
  | k :: ks, s, s', hme, h => by
    rw [ldK] at h
    cases e : F k (addK s.1 me (s.1.length : Int), s.2) with
    | none => rw [e] at h; cases h
    | some s1 =>
      rw [e] at h
      obtain ⟨f1, f2, f3⟩ := hF _ _ _ e
      simp only [addK_len] at f1 f2 f3
      obtain ⟨g1, g2, g3, g4⟩ := ldK_sm hF me ks s1 s' (by omega) h
      refine ⟨by omega, fun i hi hn => ?_, ?_, fun i h1 h2 => ?_⟩
      · rw [g2 i (by omega) hn, f2 i hi, addK_at _ hme, if_neg hn]
      · have q := f2 me hme
        rw [addK_at _ hme, if_pos rfl] at q
        rw [g3.1, g3.2.1, g3.2.2, q]
        simp
        omega
      · by_cases hi : i < s1.1.length
        · rw [g2 i hi (by omega)]
          exact f3 i h1 hi
        · exact g4 i (by omega) h2
theorem ldV_sm (ss : List (List Int)) : ∀ f, okF (ldV ss f)
  | 0 => fun t s s' h => by
    unfold ldV at h
    cases h
  | f + 1 => fun t s s' h => by
    cases hp : pgAt ss t with
    | none => rw [ldV_page hp] at h; cases h
    | some p =>
      by_cases hb : t ∈ s.2 ∨ 400 ≤ s.1.length
      · rw [ldV_bad hb] at h; cases h
      · rw [ldV_go hp hb] at h
        have hok : pgOk p = true := by
          unfold pgAt at hp
          split at hp
          · exact prd_ok hp
          · cases hp
        obtain ⟨-, h4, h5, -⟩ := pgOk_shape hok
        obtain ⟨g1, g2, g3, g4⟩ := ldK_sm (ldV_sm ss f) s.1.length p.kids _ s' (by simp) h
        simp only [List.length_append, List.length_cons, List.length_nil, Nat.zero_add] at g1 g2 g4
        have hat : ∀ i, i < s.1.length → nAt (s.1 ++ [nodeP p]) i = nAt s.1 i := fun i hi => by simp [nAt, List.getElem?_append_left hi]
        have hme : nAt (s.1 ++ [nodeP p]) s.1.length = nodeP p := by simp [nAt]
        refine ⟨by omega, fun i hi => ?_, fun i h1 h2 => ?_⟩
        · rw [g2 i (by omega) (by omega)]
          exact hat i hi
        · by_cases hi : i = s.1.length
          · subst hi
            rw [g3.1, g3.2.1, g3.2.2, hme]
            unfold nodeP
            split
            · refine ⟨by rw [pairsP_len]; exact h4, by simp, by simpa using h5⟩
            · exact ⟨by simp, h4, by simpa using h5⟩
          · exact g4 i (by omega) h2
structure S6 (U v : World) (gb : Nat) (xa : Option Addr) (xn xc : Nat) (ya : Option Addr) (yn yc : Nat) (Vd : List Value) (Ud : List (Int × Value)) (d : DK) (mg : Int) : Prop where
  bel : Below U.heap.size U v
  box : Bk v gb 31 [.slice xa xn xc, .slice ya yn yc, .int .i64 mg, .slice none 0 0, .slice none 0 0]
  own : DO v U.heap.size (.slice xa xn xc) Vd (.slice ya yn yc) Ud d
  lo : U.heap.size ≤ gb
  sep : ∀ y, dbl (.slice xa xn xc) Vd (.slice ya yn yc) Ud y → y ≠ gb
open Go.RowKit
set_option linter.unusedVariables false
theorem offS_le512 {ss : List (List Int)} (h : ∀ i, i < ss.length → (shAt ss i).length ≤ 512) : ∀ n, n ≤ ss.length → offS ss n ≤ n * 512
  | 0, _ => Nat.le_refl _
  | n + 1, hn => by
    have h1 := offS_le512 h n (by omega)
    have h2 := h n (by omega)
    rw [offS]
    omega
theorem ldK_two {F : Int → LS → Option LS} (hF : ∀ t s s', s.2.length = s.1.length → F t s = some s' → s'.2.length = s'.1.length) (me : Nat) : ∀ (ks : List Int) (s s' : LS), s.2.length = s.1.length → ldK F me ks s = some s' → s'.2.length = s'.1.length
  | [], s, s', h0, h => by
    have e : s = s' := Option.some.inj h
    rw [← e]
    exact h0
  | k :: ks, s, s', h0, h => by
    rw [ldK] at h
    cases e : F k (addK s.1 me (s.1.length : Int), s.2) with
    | none => rw [e] at h; cases h
    | some s1 =>
      rw [e] at h
      exact ldK_two hF me ks s1 s' (hF _ _ _ (by rw [addK_len]; exact h0) e) h
theorem ldV_two (ss : List (List Int)) : ∀ f t s s', s.2.length = s.1.length → ldV ss f t s = some s' → s'.2.length = s'.1.length
  | 0, t, s, s', h0, h => by
    unfold ldV at h
    cases h
  | f + 1, t, s, s', h0, h => by
    cases hp : pgAt ss t with
    | none => rw [ldV_page hp] at h; cases h
    | some p =>
      by_cases hb : t ∈ s.2 ∨ 400 ≤ s.1.length
      · rw [ldV_bad hb] at h; cases h
      · rw [ldV_go hp hb] at h
        exact ldK_two (ldV_two ss f) s.1.length p.kids _ s' (by simp [h0]) h
theorem st_bounds {d : DK} (hsm : smallD d) : smallD (stD d) ∧ dkTot (stD d) ≤ 900000 ∧ smallK (stL d).1 ∧ (stL d).1.length ≤ 400 ∧ (stL d).2.length = (stL d).1.length := by
  refine ⟨(stD_small hsm).1, ?_, ?_⟩
  · unfold stD
    split
    · rename_i hc
      obtain ⟨h1, h2⟩ := stC_ok hc
      have hw : d.dw = [] := List.eq_nil_of_length_eq_zero h2
      simp only [dkOk, Bool.and_eq_true, decide_eq_true_eq] at h1
      have hs : ∀ i, i < d.sh.length → (shAt d.sh i).length ≤ 512 := fun i hi => by
        have := (shtOk_iff _).1 ((allD_at []).1 h1.1.2 i hi)
        show (d.sh[i]?.getD []).length ≤ 512
        omega
      have := offS_le512 hs d.sh.length (Nat.le_refl _)
      unfold dkTot
      rw [hw]
      show _ + 0 ≤ _
      omega
    · show 0 ≤ _
      omega
  · unfold stL
    split
    · rename_i hc
      unfold stR
      split
      · exact ⟨fun i hi => by simp at hi, by simp, rfl⟩
      · cases e : ldV d.sh 400 (bestM d 2).2 ([], []) with
        | none => exact ⟨fun i hi => by simp at hi, by simp, rfl⟩
        | some s =>
          refine ⟨fun i hi => ?_, ?_, ldV_two d.sh 400 _ _ _ rfl e⟩
          · have := (ldV_sm d.sh 400 _ _ _ e).2.2 i (Nat.zero_le _) hi
            show (nAt s.1 i).ps.length ≤ _ ∧ (nAt s.1 i).keys.length ≤ _ ∧ (nAt s.1 i).kids.length ≤ _
            omega
          · have := (ldV_len d.sh 400 _ _ _ e).2
            show s.1.length ≤ _
            omega
    · exact ⟨fun i hi => by simp at hi, by simp, rfl⟩
theorem StR.lt {w : World} {xa : Option Addr} {xn xc : Nat} {ya : Option Addr} {yn yc : Nat} {na : Option Addr} {nn nc : Nat} {pa : Option Addr} {pn pc : Nat} {d : DK} {s : LS} (h : StR w (fun _ => True) xa xn xc ya yn yc na nn nc pa pn pc d s) : StR w (fun y => y < w.heap.size) xa xn xc ya yn yc na nn nc pa pn pc d s := ⟨h.dk.mono (fun b _ hb => hb), h.nr.mono (fun b _ hb => hb), Rw.mono h.ir (fun b _ hb => hb)⟩
structure StA (v : World) (b B : Nat) (xa : Option Addr) (xn xc : Nat) (ya : Option Addr) (yn yc : Nat) (na : Option Addr) (nn nc : Nat) (pa : Option Addr) (pn pc : Nat) (g : Int) (d : DK) (s : LS) : Prop where
  box : Bk v b 31 [.slice xa xn xc, .slice ya yn yc, .int .i64 g, .slice na nn nc, .slice pa pn pc]
  rd : StR v (fun y => y < B) xa xn xc ya yn yc na nn nc pa pn pc d s
theorem StA.new {v : World} {xa : Option Addr} {xn xc : Nat} {ya : Option Addr} {yn yc : Nat} {na : Option Addr} {nn nc : Nat} {pa : Option Addr} {pn pc : Nat} {g : Int} {d : DK} {s : LS} (h : StR v (fun y => y < v.heap.size) xa xn xc ya yn yc na nn nc pa pn pc d s) : StA (v.alloc (.cells #[.slice xa xn xc, .slice ya yn yc, .int .i64 g, .slice na nn nc, .slice pa pn pc] 31)) v.heap.size v.heap.size xa xn xc ya yn yc na nn nc pa pn pc g d s := ⟨Bk.new v _ [.slice xa xn xc, .slice ya yn yc, .int .i64 g, .slice na nn nc, .slice pa pn pc], h.below (below_new (Below.refl _ _))⟩
theorem StA.below {v v' : World} {b B : Nat} {xa : Option Addr} {xn xc : Nat} {ya : Option Addr} {yn yc : Nat} {na : Option Addr} {nn nc : Nat} {pa : Option Addr} {pn pc : Nat} {g : Int} {d : DK} {s : LS} (h : StA v b B xa xn xc ya yn yc na nn nc pa pn pc g d s) (hb : Below v.heap.size v v') : StA v' b B xa xn xc ya yn yc na nn nc pa pn pc g d s := ⟨h.box.below hb, h.rd.below hb⟩
theorem StA.to {v v' : World} {R : Nat → Prop} {b B : Nat} {xa : Option Addr} {xn xc : Nat} {ya : Option Addr} {yn yc : Nat} {na : Option Addr} {nn nc : Nat} {pa : Option Addr} {pn pc : Nat} {g : Int} {d : DK} {s : LS} (h : StA v b B xa xn xc ya yn yc na nn nc pa pn pc g d s) (ho : Only R v v') (hb : ¬ R b) (hR : ∀ y, y < B → ¬ R y) : StA v' b B xa xn xc ya yn yc na nn nc pa pn pc g d s := ⟨h.box.to ho hb, ⟨h.rd.dk.to ho (fun y hy _ => hR y hy), h.rd.nr.to ho (fun y hy _ => hR y hy), Rw.to h.rd.ir ho (fun y hy _ => hR y hy)⟩⟩
theorem StA.cells {v : World} {b B : Nat} {xa : Option Addr} {xn xc : Nat} {ya : Option Addr} {yn yc : Nat} {na : Option Addr} {nn nc : Nat} {pa : Option Addr} {pn pc : Nat} {g : Int} {d : DK} {s : LS} (h : StA v b B xa xn xc ya yn yc na nn nc pa pn pc g d s) : v.cell? ⟨b, 0, none⟩ = some (.slice xa xn xc) ∧ v.cell? ⟨b, 1, none⟩ = some (.slice ya yn yc) ∧ v.cell? ⟨b, 2, none⟩ = some (.int .i64 g) ∧ v.cell? ⟨b, 3, none⟩ = some (.slice na nn nc) ∧ v.cell? ⟨b, 4, none⟩ = some (.slice pa pn pc) := ⟨h.box.cell (j := 0) rfl, h.box.cell (j := 1) rfl, h.box.cell (j := 2) rfl, h.box.cell (j := 3) rfl, h.box.cell (j := 4) rfl⟩
structure StG (v : World) (b B : Nat) (xa : Option Addr) (xn xc : Nat) (ya : Option Addr) (yn yc : Nat) (na : Option Addr) (nn nc : Nat) (pa : Option Addr) (pn pc : Nat) (g : Int) (Vd : List Value) (Ud : List (Int × Value)) (V : List V3) (d : DK) (s : LS) : Prop where
  box : Bk v b 31 [.slice xa xn xc, .slice ya yn yc, .int .i64 g, .slice na nn nc, .slice pa pn pc]
  own : StO v B xa xn xc ya yn yc na nn nc pa pn pc Vd Ud V d s
  sep : ∀ y, stb xa xn xc ya yn yc na nn nc pa pn pc Vd Ud V s y → y < b
theorem StG.new {v : World} {B : Nat} {xa : Option Addr} {xn xc : Nat} {ya : Option Addr} {yn yc : Nat} {na : Option Addr} {nn nc : Nat} {pa : Option Addr} {pn pc : Nat} {g : Int} {Vd : List Value} {Ud : List (Int × Value)} {V : List V3} {d : DK} {s : LS} (h : StO v B xa xn xc ya yn yc na nn nc pa pn pc Vd Ud V d s) : StG (v.alloc (.cells #[.slice xa xn xc, .slice ya yn yc, .int .i64 g, .slice na nn nc, .slice pa pn pc] 31)) v.heap.size B xa xn xc ya yn yc na nn nc pa pn pc g Vd Ud V d s := ⟨Bk.new v _ [.slice xa xn xc, .slice ya yn yc, .int .i64 g, .slice na nn nc, .slice pa pn pc], h.below (below_new (Below.refl _ _)), fun y hy => (h.lt hy).2⟩
theorem StG.below {v v' : World} {b B : Nat} {xa : Option Addr} {xn xc : Nat} {ya : Option Addr} {yn yc : Nat} {na : Option Addr} {nn nc : Nat} {pa : Option Addr} {pn pc : Nat} {g : Int} {Vd : List Value} {Ud : List (Int × Value)} {V : List V3} {d : DK} {s : LS} (h : StG v b B xa xn xc ya yn yc na nn nc pa pn pc g Vd Ud V d s) (hb : Below v.heap.size v v') : StG v' b B xa xn xc ya yn yc na nn nc pa pn pc g Vd Ud V d s := ⟨h.box.below hb, h.own.below hb, h.sep⟩
theorem StG.here {v : World} {b B : Nat} {xa : Option Addr} {xn xc : Nat} {ya : Option Addr} {yn yc : Nat} {na : Option Addr} {nn nc : Nat} {pa : Option Addr} {pn pc : Nat} {g : Int} {Vd : List Value} {Ud : List (Int × Value)} {V : List V3} {d : DK} {s : LS} (h : StG v b B xa xn xc ya yn yc na nn nc pa pn pc g Vd Ud V d s) {y : Nat} (hy : stb xa xn xc ya yn yc na nn nc pa pn pc Vd Ud V s y) : B ≤ y ∧ y < b := ⟨(h.own.lt hy).1, h.sep y hy⟩
theorem StG.cells {v : World} {b B : Nat} {xa : Option Addr} {xn xc : Nat} {ya : Option Addr} {yn yc : Nat} {na : Option Addr} {nn nc : Nat} {pa : Option Addr} {pn pc : Nat} {g : Int} {Vd : List Value} {Ud : List (Int × Value)} {V : List V3} {d : DK} {s : LS} (h : StG v b B xa xn xc ya yn yc na nn nc pa pn pc g Vd Ud V d s) : v.cell? ⟨b, 0, none⟩ = some (.slice xa xn xc) ∧ v.cell? ⟨b, 1, none⟩ = some (.slice ya yn yc) ∧ v.cell? ⟨b, 2, none⟩ = some (.int .i64 g) ∧ v.cell? ⟨b, 3, none⟩ = some (.slice na nn nc) ∧ v.cell? ⟨b, 4, none⟩ = some (.slice pa pn pc) := ⟨h.box.cell (j := 0) rfl, h.box.cell (j := 1) rfl, h.box.cell (j := 2) rfl, h.box.cell (j := 3) rfl, h.box.cell (j := 4) rfl⟩
structure StM (v : World) (b : Nat) (xa : Option Addr) (xn xc : Nat) (ya : Option Addr) (yn yc : Nat) (na : Option Addr) (nn nc : Nat) (pa : Option Addr) (pn pc : Nat) (g : Int) (Vd : List Value) (Ud : List (Int × Value)) (V : List V3) (d : DK) (s : LS) (k : Nat) : Prop where
  box : Bk v b 31 [.slice xa xn xc, .slice ya yn yc, .int .i64 g, .slice na nn nc, .slice pa pn pc]
  own : StQ v xa xn xc ya yn yc na nn nc pa pn pc Vd Ud V d s k
theorem StM.below {v v' : World} {b : Nat} {xa : Option Addr} {xn xc : Nat} {ya : Option Addr} {yn yc : Nat} {na : Option Addr} {nn nc : Nat} {pa : Option Addr} {pn pc : Nat} {g : Int} {Vd : List Value} {Ud : List (Int × Value)} {V : List V3} {d : DK} {s : LS} {k : Nat} (h : StM v b xa xn xc ya yn yc na nn nc pa pn pc g Vd Ud V d s k) (hb : Below v.heap.size v v') : StM v' b xa xn xc ya yn yc na nn nc pa pn pc g Vd Ud V d s k := ⟨h.box.below hb, h.own.below hb⟩
theorem StM.cells {v : World} {b : Nat} {xa : Option Addr} {xn xc : Nat} {ya : Option Addr} {yn yc : Nat} {na : Option Addr} {nn nc : Nat} {pa : Option Addr} {pn pc : Nat} {g : Int} {Vd : List Value} {Ud : List (Int × Value)} {V : List V3} {d : DK} {s : LS} {k : Nat} (h : StM v b xa xn xc ya yn yc na nn nc pa pn pc g Vd Ud V d s k) : v.cell? ⟨b, 0, none⟩ = some (.slice xa xn xc) ∧ v.cell? ⟨b, 1, none⟩ = some (.slice ya yn yc) ∧ v.cell? ⟨b, 2, none⟩ = some (.int .i64 g) ∧ v.cell? ⟨b, 3, none⟩ = some (.slice na nn nc) ∧ v.cell? ⟨b, 4, none⟩ = some (.slice pa pn pc) := ⟨h.box.cell (j := 0) rfl, h.box.cell (j := 1) rfl, h.box.cell (j := 2) rfl, h.box.cell (j := 3) rfl, h.box.cell (j := 4) rfl⟩
open Go.RowKit
set_option linter.unusedVariables false
set_option maxHeartbeats 8000000 in
set_option maxRecDepth 100000 in
theorem storeOn0_any (S : Nat → Prop) (sa : Option Addr) (sn sc : Nat) (da : Option Addr) (dn dc : Nat) (d : DK) (w : World) (h : Dk w S sa sn sc da dn dc d) (hsm : smallD d) (q1 : dkOk d = true) (q2 : dn = 0) (q3g : 0 < (bestM d 2).1) (q4r : (bestM d 2).2 = 0) (he : Err w 0) (he2 : Err w 1) (he3 : Err w 3) :
    Calls Tryz.prog 81 #[.agg #[.slice sa sn sc, .slice da dn dc]] w fun e w' => SoPost sa sn sc da dn dc d w e w' := by
  have HD := hid h
  have HSM := hid hsm
  have HE := hid (And.intro he (And.intro he2 he3))
  have HDN := hid h.hd.len.1
  have hdc := h.hd.len.2.1
  have hdc' := h.hd.len.2.2
  have hsc := h.hs.len.2.1
  have hsc' := h.hs.len.2.2
  have HB0 : Hid (Below w.heap.size w ((w.alloc (.cells #[.slice sa sn sc, .slice da dn dc] 25)).alloc (.cells #[.slice none 0 0, .slice none 0 0, .int .i64 0, .slice none 0 0, .slice none 0 0] 31))) := below_new (below_new (Below.refl _ _))
  have KD := hid ((Bk.new w 25 [.slice sa sn sc, .slice da dn dc]).alloc (.cells #[.slice none 0 0, .slice none 0 0, .int .i64 0, .slice none 0 0, .slice none 0 0] 31))
  have KR : Hid (Bk ((w.alloc (.cells #[.slice sa sn sc, .slice da dn dc] 25)).alloc (.cells #[.slice none 0 0, .slice none 0 0, .int .i64 0, .slice none 0 0, .slice none 0 0] 31)) (w.heap.size + 1) 31 [.slice none 0 0, .slice none 0 0, .int .i64 0, .slice none 0 0, .slice none 0 0]) := by
    have h := Bk.new (w.alloc (.cells #[.slice sa sn sc, .slice da dn dc] 25)) 31 [.slice none 0 0, .slice none 0 0, .int .i64 0, .slice none 0 0, .slice none 0 0]
    show Bk _ _ _ _
    simpa using h
  have HOK := hid (fun v (hv : Below w.heap.size w v) => implDiskOk_any S sa sn sc da dn dc d v (HD.out.below hv))
  have HME := hid (fun v (hv : Below w.heap.size w v) => implDiskMeta_any S sa sn sc da dn dc d v (HD.out.below hv) hsm (he.below hv he.lt) (he2.below hv he2.lt))
  clear h hsm he he2 he3
  subst q2
  have HDW : Hid (d.dw.length = 0) := HDN.out.symm
  have HS1 : Hid (stC d = if 0 < (bestM d 2).1 then (match stR d with | none => 3 | some s => if (okT s.1).isSome = true then 0 else 3) else 2) := by show _ = _; (rw [stC, if_neg (by rw [q1, HDW.out]; simp)]) <;> rfl
  have HRT : Hid (stR d = if (bestM d 2).2 = 0 then some ([], []) else ldV d.sh 400 (bestM d 2).2 ([], [])) := rfl
  have HR0 := hid (bestM_root d 2)
  have HGG : Hid (∃ gg, gg = (bestM d 2).1) := ⟨_, rfl⟩
  have HRR : Hid (∃ rr, rr = (bestM d 2).2) := ⟨_, rfl⟩
  obtain ⟨gg, hgg⟩ := HGG.out
  obtain ⟨rr, hrr⟩ := HRR.out
  rw [← hgg] at HS1
  rw [← hrr] at HRT HR0
  rw [← hgg, ← hrr] at HME
  have HGG := hid hgg
  have q3 : 0 < gg := by rw [hgg]; exact q3g
  have q4 : rr = 0 := by rw [hrr]; exact q4r
  clear hgg hrr HRR q3g q4r
  have q3' : decide (0 < gg) = true := decide_eq_true q3
  rw [if_pos q3] at HS1
  have HSZ : Hid (∀ v, Below w.heap.size w v → w.heap.size + 1 < v.heap.size → True) := fun _ _ _ => trivial
  rw [if_pos q4] at HRT
  have HC : Hid (stC d = 0) := by show _ = _; rw [HS1.out, HRT.out]; rfl
  subst q4
  go_enter Tryz.func81, Tryz.ntmps81
  go_wp2_with fail
  refine (HOK.out _ HB0.out).mono ?_
  rintro e w1 ⟨rfl, hb1⟩
  rw [q1]
  have B1 := hid (bt7 HB0.out hb1)
  have KD1 := hid (KD.out.below hb1)
  have KR1 := hid (KR.out.below hb1)
  have d0 := KD1.out.cell (j := 0) rfl
  have d1 := KD1.out.cell (j := 1) rfl
  clear hb1
  go_wp2_with fail
  refine (HME.out _ B1.out).mono ?_
  rintro e w2 ⟨rfl, hb2⟩
  have B2 := hid (bt7 B1.out hb2)
  have KD2 := hid (KD1.out.below hb2)
  have KR2 := hid (KR1.out.below hb2)
  clear hb2 d0 d1 B1 KD1 KR1
  rw [q3']
  have B3 : Hid (Below w.heap.size w ((w2.alloc (.cells #[.int .i64 gg, .int .i64 0] 75)).alloc (.cells #[.slice sa sn sc, .slice none 0 0, .slice none 0 0] 190))) := bt7 B2.out (below_new (below_new (Below.refl _ _)))
  have KD3 := hid ((KD2.out.alloc (.cells #[.int .i64 gg, .int .i64 0] 75)).alloc (.cells #[.slice sa sn sc, .slice none 0 0, .slice none 0 0] 190))
  have KR3 := hid ((KR2.out.alloc (.cells #[.int .i64 gg, .int .i64 0] 75)).alloc (.cells #[.slice sa sn sc, .slice none 0 0, .slice none 0 0] 190))
  have KM := hid ((Bk.new w2 75 [.int .i64 gg, .int .i64 0]).alloc (.cells #[.slice sa sn sc, .slice none 0 0, .slice none 0 0] 190))
  have KT : Hid (Bk ((w2.alloc (.cells #[.int .i64 gg, .int .i64 0] 75)).alloc (.cells #[.slice sa sn sc, .slice none 0 0, .slice none 0 0] 190)) (w2.heap.size + 1) 190 [.slice sa sn sc, .slice none 0 0, .slice none 0 0]) := by
    have h := Bk.new (w2.alloc (.cells #[.int .i64 gg, .int .i64 0] 75)) 190 [.slice sa sn sc, .slice none 0 0, .slice none 0 0]
    show Bk _ _ _ _
    simpa using h
  have HW2 : Hid (w.heap.size + 1 < w2.heap.size) := KR2.out.lt
  have R3 : Hid (RS ((w2.alloc (.cells #[.int .i64 gg, .int .i64 0] 75)).alloc (.cells #[.slice sa sn sc, .slice none 0 0, .slice none 0 0] 190)) (fun y => y = w2.heap.size + 1) (w2.heap.size + 1) (.slice sa sn sc) none 0 0 none 0 0 [] ([], [])) := ⟨KT.out, na_nil _, World.ownsRow_nil _ _ _ _, rfl, fun y e => (by cases e), fun i hi => (by simp at hi), fun y e => (by cases e)⟩
  have d0 := (KD2.out.alloc (.cells #[.int .i64 gg, .int .i64 0] 75)).cell (j := 0) rfl
  have t1 := KT.out.cell (j := 1) rfl
  have m1 := KM.out.cell (j := 1) rfl
  go_wp2_with fail
  refine (implTreeOk_any (fun _ => True) none 0 0 [] _ ((na_nil _).nr (fun _ _ => trivial))).mono ?_
  rintro e w4 ⟨rfl, hb4⟩
  rw [okT_nil]
  have B5 := hid (bt7 B3.out hb4)
  have KD5 := hid (KD3.out.below hb4)
  have KR5 := hid (KR3.out.below hb4)
  have KM5 := hid (KM.out.below hb4)
  have R5 := hid ((R3.out.below hb4).mono (Q := fun y => y = w2.heap.size + 1 ∨ w2.heap.size ≤ y) (fun y _ h => .inl h))
  have HSS := HRT
  have HLL : Hid ((([] : List Int)).length = (([] : List NB)).length) := rfl
  clear hb4 d0 t1 m1 B3 KD3 KR3 KM KT R3
  have d0 := KD5.out.cell (j := 0) rfl
  have d1 := KD5.out.cell (j := 1) rfl
  have r0 := KR5.out.cell (j := 0) rfl
  have r1 := KR5.out.cell (j := 1) rfl
  have r2 := KR5.out.cell (j := 2) rfl
  have r3 := KR5.out.cell (j := 3) rfl
  have r4 := KR5.out.cell (j := 4) rfl
  have f0 := KR5.out.free 0
  have f1 := KR5.out.free 1
  have f2 := KR5.out.free 2
  have f3 := KR5.out.free 3
  have f4 := KR5.out.free 4
  have m0 := KM5.out.cell (j := 0) rfl
  have m1 := KM5.out.cell (j := 1) rfl
  have t0 := R5.out.box.cell (j := 0) rfl
  have t1 := R5.out.box.cell (j := 1) rfl
  have t2 := R5.out.box.cell (j := 2) rfl
  go_wp2
  try simp only [Exit.inBlock, Exit.then]
  refine bodyPost_ret (v := .tuple #[.agg #[.slice sa sn sc, .slice da 0 dc, .int .i64 gg, .slice none 0 0, .slice none 0 0], .int .i64 0]) ?_ rfl ?_
  · exact results_sto rfl _ _ (w.heap.size + 1) rfl rfl (by go_simp) (by go_simp) (by go_simp) (by go_simp) (by go_simp)
  · have h := so_fin sa sn sc da 0 dc d B5.out (by have := HW2.out; omega) R5.out HC.out HSS.out HLL.out
    rw [← HGG.out] at h
    exact h _ _ _ _ _
set_option maxHeartbeats 8000000 in
set_option maxRecDepth 100000 in
theorem implStoreOpen0_any (S : Nat → Prop) (sa : Option Addr) (sn sc : Nat) (da : Option Addr) (dn dc : Nat) (d : DK) (w : World) (h : Dk w S sa sn sc da dn dc d) (hsm : smallD d) (q1 : dkOk d = true) (q2 : dn = 0) (q3g : 0 < (bestM d 2).1) (q4r : (bestM d 2).2 = 0) (he : Err w 0) (he2 : Err w 1) (he3 : Err w 3) :
    Calls Tryz.prog 37 #[.agg #[.slice sa sn sc, .slice da dn dc]] w fun e w' => SiPost d w e w' := by
  have HB0 : Hid (Below w.heap.size w ((w.alloc (.cells #[.slice sa sn sc, .slice da dn dc] 25)).alloc (.cells #[.slice none 0 0, .slice none 0 0, .int .i64 0, .slice none 0 0, .slice none 0 0] 31))) := below_new (below_new (Below.refl _ _))
  have KR : Hid (Bk ((w.alloc (.cells #[.slice sa sn sc, .slice da dn dc] 25)).alloc (.cells #[.slice none 0 0, .slice none 0 0, .int .i64 0, .slice none 0 0, .slice none 0 0] 31)) (w.heap.size + 1) 31 [.slice none 0 0, .slice none 0 0, .int .i64 0, .slice none 0 0, .slice none 0 0]) := by
    have h := Bk.new (w.alloc (.cells #[.slice sa sn sc, .slice da dn dc] 25)) 31 [.slice none 0 0, .slice none 0 0, .int .i64 0, .slice none 0 0, .slice none 0 0]
    show Bk _ _ _ _
    simpa using h
  have HD0 := hid (h.below HB0.out)
  have HSO := hid (storeOn0_any S sa sn sc da dn dc d _ HD0.out hsm q1 q2 q3g q4r (he.below HB0.out he.lt) (he2.below HB0.out he2.lt) (he3.below HB0.out he3.lt))
  have HSM := hid (stD_small hsm)
  clear h hsm he he2 he3 q1 q2 q3g q4r
  go_enter Tryz.func37, Tryz.ntmps37
  go_wp2_with fail
  refine HSO.out.mono ?_
  intro e w1 hpost
  obtain ⟨hb1, xa, xn, xc, ya, yn, yc, na, nn, nc, pa, pn, pc, V, rfl, hDk, hSN⟩ := so_uni hpost HD0.out
  have B1 := hid (bt7 HB0.out hb1)
  have HS0 : Hid (w.heap.size + 2 ≤ ((w.alloc (.cells #[.slice sa sn sc, .slice da dn dc] 25)).alloc (.cells #[.slice none 0 0, .slice none 0 0, .int .i64 0, .slice none 0 0, .slice none 0 0] 31)).heap.size) := by have := KR.out.lt; show _ ≤ _; omega
  have B2 : Hid (Below w1.heap.size w1 (w1.alloc (.cells #[.slice xa xn xc, .slice ya yn yc, .int .i64 (stG d), .slice na nn nc, .slice pa pn pc] 31))) := below_new (Below.refl _ _)
  have DK2 := hid (hDk.below B2.out)
  have SN2 := hid ((hSN.base HS0.out).below B2.out)
  have SNL : Hid (∀ y, snb na nn nc pa pn pc V (stL d) y → w.heap.size + 2 ≤ y ∧ y < w1.heap.size) := fun y hy => (hSN.base HS0.out).lt hy
  have KR2 := hid ((KR.out.below hb1).below B2.out)
  have HZ : Hid (w1.heap.size < (w1.alloc (.cells #[.slice xa xn xc, .slice ya yn yc, .int .i64 (stG d), .slice na nn nc, .slice pa pn pc] 31)).heap.size) := by show _ < _; simp
  have KS := hid (Bk.new w1 31 [.slice xa xn xc, .slice ya yn yc, .int .i64 (stG d), .slice na nn nc, .slice pa pn pc])
  have HXN := DK2.out.hs.len
  have HYN := DK2.out.hd.len
  have HCP := hid (copyDisk_any _ xa xn xc ya yn yc (stD d) _ DK2.out HSM.out.1 (by have := HSM.out.2.1; omega) (by have := HSM.out.2.2; omega))
  have HR1 : Hid (w.heap.size + 1 < w1.heap.size) := Nat.lt_of_lt_of_le KR.out.lt hb1.size
  clear hpost hDk hSN hb1 HSO HD0 HXN HYN
  have s0 := KS.out.cell (j := 0) rfl
  have s1 := KS.out.cell (j := 1) rfl
  have s2 := KS.out.cell (j := 2) rfl
  have s3 := KS.out.cell (j := 3) rfl
  have s4 := KS.out.cell (j := 4) rfl
  have B12 := hid (bt7 B1.out B2.out)
  go_wp2_with fail
  refine HCP.out.mono ?_
  generalize w1.alloc (.cells #[.slice xa xn xc, .slice ya yn yc, .int .i64 (stG d), .slice na nn nc, .slice pa pn pc] 31) = U1 at *
  generalize w1.heap.size = b1 at *
  rintro e w2 ⟨za, zn, zc, ua, un, uc, Vd, U, rfl, hDO, hb2⟩
  have B3 := hid (bt7 B12.out hb2)
  have SN3 := hid (SN2.out.below hb2)
  have HDO := hid hDO
  have KR3 := hid (KR2.out.below hb2)
  have KS3 := hid (KS.out.below hb2)
  have hne : ¬ b1 = w.heap.size + 1 := by have := HR1.out; omega
  have hne' : ¬ w.heap.size + 1 = b1 := by have := HR1.out; omega
  clear hb2 hDO HCP s0 s1 s2 s3 s4
  have s0 := KS3.out.cell (j := 0) rfl
  have s1 := KS3.out.cell (j := 1) rfl
  have s2 := KS3.out.cell (j := 2) rfl
  have s3 := KS3.out.cell (j := 3) rfl
  have s4 := KS3.out.cell (j := 4) rfl
  have g0 := KS3.out.free 0
  have g1 := KS3.out.free 1
  have g2 := KS3.out.free 2
  have g3 := KS3.out.free 3
  have g4 := KS3.out.free 4
  have o1 : Hid (Only (fun y => y = b1) w2 ((w2.setCell ⟨b1, 0, none⟩ (.slice za zn zc)).setCell ⟨b1, 1, none⟩ (.slice ua un uc))) := (only_set (R := fun y => y = b1) (p := ⟨b1, 0, none⟩) rfl _).trans (only_set (R := fun y => y = b1) (p := ⟨b1, 1, none⟩) rfl _)
  have KR4 := hid (KR3.out.to o1.out (fun e => hne' e))
  clear KR3
  have r0 := KR4.out.cell (j := 0) rfl
  have r1 := KR4.out.cell (j := 1) rfl
  have r2 := KR4.out.cell (j := 2) rfl
  have r3 := KR4.out.cell (j := 3) rfl
  have r4 := KR4.out.cell (j := 4) rfl
  have f0 := KR4.out.free 0
  have f1 := KR4.out.free 1
  have f2 := KR4.out.free 2
  have f3 := KR4.out.free 3
  have f4 := KR4.out.free 4
  have KR5 := hid ((((((KR4.out.set 0 (.slice za zn zc)).set 1 (.slice ua un uc)).set 2 (.int .i64 (stG d))).set 3 (.slice na nn nc)).set 4 (.slice pa pn pc)))
  have o2 : Hid (Only (fun y => y = w.heap.size + 1) ((w2.setCell ⟨b1, 0, none⟩ (.slice za zn zc)).setCell ⟨b1, 1, none⟩ (.slice ua un uc)) (((((((w2.setCell ⟨b1, 0, none⟩ (.slice za zn zc)).setCell ⟨b1, 1, none⟩ (.slice ua un uc)).setCell ⟨w.heap.size + 1, 0, none⟩ (.slice za zn zc)).setCell ⟨w.heap.size + 1, 1, none⟩ (.slice ua un uc)).setCell ⟨w.heap.size + 1, 2, none⟩ (.int .i64 (stG d))).setCell ⟨w.heap.size + 1, 3, none⟩ (.slice na nn nc)).setCell ⟨w.heap.size + 1, 4, none⟩ (.slice pa pn pc))) := (((((only_set (R := fun y => y = w.heap.size + 1) (p := ⟨w.heap.size + 1, 0, none⟩) rfl _).trans (only_set (R := fun y => y = w.heap.size + 1) (p := ⟨w.heap.size + 1, 1, none⟩) rfl _)).trans (only_set (R := fun y => y = w.heap.size + 1) (p := ⟨w.heap.size + 1, 2, none⟩) rfl _)).trans (only_set (R := fun y => y = w.heap.size + 1) (p := ⟨w.heap.size + 1, 3, none⟩) rfl _)).trans (only_set (R := fun y => y = w.heap.size + 1) (p := ⟨w.heap.size + 1, 4, none⟩) rfl _))
  clear KR4
  go_wp2
  try simp only [Exit.inBlock, Exit.then]
  refine bodyPost_ret (v := .tuple #[.agg #[.slice za zn zc, .slice ua un uc, .int .i64 (stG d), .slice na nn nc, .slice pa pn pc], .int .i64 (stC d)]) ?_ rfl ?_
  · exact results_sto rfl _ _ (w.heap.size + 1) rfl rfl (KR5.out.cell (j := 0) rfl) (KR5.out.cell (j := 1) rfl) (KR5.out.cell (j := 2) rfl) (KR5.out.cell (j := 3) rfl) (KR5.out.cell (j := 4) rfl)
  · have key : ∀ v, Only (fun y => y = w.heap.size + 1 ∨ y = b1) w2 v → SiPost d w (.returned (.tuple #[.agg #[.slice za zn zc, .slice ua un uc, .int .i64 (stG d), .slice na nn nc, .slice pa pn pc], .int .i64 (stC d)])) v := by
      intro v o
      have h1 := HR1.out
      have h2 := HZ.out
      refine ⟨B3.out.trans (o.below B3.out.size (fun y hy e => by rcases e with e | e <;> omega)), za, zn, zc, ua, un, uc, Vd, U, na, nn, nc, pa, pn, pc, V, rfl, ?_, ?_, ?_⟩
      · refine (HDO.out.to o (fun y hy e => ?_)).base (by omega)
        have := (HDO.out.lt hy).1
        rcases e with e | e <;> omega
      · refine (SN3.out.to o (fun y hy e => ?_)).base (by omega)
        have h3 := SNL.out y hy
        rcases e with e | e <;> omega
      · intro y hy hz
        have h3 := SNL.out y hz
        have := (HDO.out.lt hy).1
        omega
    exact key _ ((o1.out.mono (fun y _ e => .inr e)).trans (o2.out.mono (fun y _ e => .inl e)))
end Go.Proofs.YtmilnejacnaejaaGreatDoor
