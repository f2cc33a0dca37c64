/-
  Looking a key up: in a list of pairs that ascend, in a tree. Nothing here speaks of the program.
-/
import Derived.Test.YtidjehapeanpbaaGreatDoorMo4
import Derived.Test.YtidjehapeanpbaaGreatDoorMo7
import Derived.Deep.DeepCutAuto
import Derived.Lib.Bytealg
import Derived.Deep.RegionLaw
import Derived.Test.YtidjehapeanpbaaGreatDoorMo2
import Derived.Test.YtidjehapeanpbaaGreatDoorMo1
import Derived.Test.YtidjehapeanpbaaGreatDoorMo3
import Derived.ProofKit
import Derived.OpenShut
import Derived.ChangeOld
import Derived.Stop.LaidErr
import Derived.Deep.Strs
import Derived.Deep.Slices
import Derived.ChangeSlices
import Derived.WideShapes
import Derived.ChangeSame
namespace Go.Proofs.YtidjehapeanpbaaGreatDoor
open Go.RowKit
def klt (a b : ByteArray) : Bool := Op.bytesLess a.toList b.toList
def Asc (l : List PB) : Prop := l.Pairwise fun p q => klt p.1 q.1 = true
theorem tAt_lt {ks : List T} {i : Nat} (h : i < ks.length) : tAt ks i = ks[i] := by simp [tAt, h]
def pos : List PB → ByteArray → Nat
 | [], _ => 0
 | p :: l, k => if klt p.1 k = true then pos l k + 1 else 0
open Go.RowKit
open Go.RowKit
open Go.RowKit
open Go.RowKit
def there (l : List PB) (k : ByteArray) : Bool := decide (pos l k < l.length ∧ (pAtB l (pos l k)).1 = k)
open Go.RowKit
open Go.RowKit
open Go.RowKit
structure GetOk (t : T) : Prop where
 asc : Asc t.all
 br : t.ks ≠ [] → t.ps = [] ∧ ∀ x ∈ t.ks, x.full false = true
 few : t.ps.length ≤ 8 ∧ t.ks.length ≤ 8
open Go.RowKit
def bareT : T := .mk [] []
structure LB (w : World) (S : Nat → Prop) (b : Nat) (pv kv : Value) (ps : List PB) (ks : List T) (A : Nat → Nat) (SS : Nat → Nat → Prop) : Prop where
 hb : S b
 hB : Bk w b 195 [pv, kv]
 hP : w.ownsRow 0 112 2 pv ps.length (pcs ps)
 hK : w.ownsRow 0 165 1 kv ks.length (ptrs A ks.length)
 hPS : ∀ x, pv.ownBlock = some x → S x ∧ x ≠ b
 hKS : ∀ x, kv.ownBlock = some x → S x ∧ x ≠ b ∧ pv.ownBlock ≠ some x
 hSS : ∀ i, i < ks.length → ∀ x, SS i x → S x ∧ x ≠ b ∧ pv.ownBlock ≠ some x ∧ kv.ownBlock ≠ some x
 hD : ∀ i j, i < ks.length → j < ks.length → i ≠ j → ∀ x, SS i x → ¬ SS j x
 hk : ∀ i, i < ks.length → Limb w (SS i) (A i) (tAt ks i)
open Go.RowKit
def two (r : T × T) : List T := if r.2.bare = true then [r.1] else [r.1, r.2]
structure PutIn (h : Nat) (r : Bool) (t : T) : Prop where
 ev : Ev h t
 full : t.full r = true ∨ (r = true ∧ t = bareT)
 asc : Asc t.all
structure PutOut (h : Nat) (r : Bool) (l : List PB) (x : T × T) : Prop where
 ev : ∀ y ∈ two x, Ev h y
 one : x.2.bare = true → x.1.full r = true
 both : x.2.bare = false → x.1.full false = true ∧ x.2.full false = true
 all : allL (two x) = l
open Go.RowKit
open Go.RowKit
theorem NA.rowAt {w : World} {a : Option Addr} {n c : Nat} {V : List V3} {ns : List NB} (h : NA w (.slice a n c) V ns) (hp : 0 < ns.length) : ∃ g, a = some ⟨g, 0, none⟩ ∧ Hid (n = ns.length) := by
 rcases h.row.2 with ⟨e, e2⟩ | ⟨g, cap, cur, e, _⟩
 ·omega
 ·cases e
  exact ⟨g, rfl, rfl⟩
open Go.RowKit
set_option linter.unusedVariables false
def cntN (x : NB) : Nat := x.ps.length * 2 + x.keys.length + x.kids.length
def offN (ns : List NB) : Nat → Nat
 | 0 => 0
 | i + 1 => offN ns i + cntN (nAt ns i)
def LiesV (w : World) (v : Value) (n m : Nat) (V : Nat → Value) : Prop := ∃ a c, v = .slice a n c ∧ n ≤ c ∧ Lies w a n m V
theorem LiesV.to {w w' : World} {R : Nat → Prop} {v : Value} {n m : Nat} {V : Nat → Value} (h : LiesV w v n m V) (ho : Only R w w') (hR : ∀ y, v.ownBlock = some y → ¬ R y) : LiesV w' v n m V := by
 obtain ⟨a, c, rfl, h1, h2⟩ := h
 refine ⟨a, c, rfl, h1, fun hn => ?_⟩
 obtain ⟨b, off, rfl, h4, h5⟩ := h2 hn
 exact ⟨b, off, rfl, Nat.lt_of_lt_of_le h4 ho.size, fun j hj => (World.cell?_of_block (w := w) (a := ⟨b, off + j, none⟩) (ho.block b h4 (hR b rfl))).trans (h5 j hj)⟩
def LiesN (w : World) (p : V3) (x : NB) (q : Nat) : Prop := LiesV w p.1 x.ps.length (x.ps.length * 2) (mV q) ∧ LiesV w p.2.1 x.keys.length x.keys.length (mV (q + x.ps.length * 2)) ∧ LiesV w p.2.2 x.kids.length x.kids.length (mI (q + x.ps.length * 2 + x.keys.length))
theorem LiesN.to {w w' : World} {R : Nat → Prop} {p : V3} {x : NB} {q : Nat} (h : LiesN w p x q) (ho : Only R w w') (hR : ∀ y, bl p y → ¬ R y) : LiesN w' p x q := ⟨h.1.to ho (fun y e => hR y (.inl e)), h.2.1.to ho (fun y e => hR y (.inr (.inl e))), h.2.2.to ho (fun y e => hR y (.inr (.inr e)))⟩
structure MkT (w : World) (v : Value) (V : List V3) (ns : List NB) (k : Nat) : Prop where
 len : V.length = ns.length
 row : w.ownsRow 0 85 3 v ns.length (ncs V)
 lie : ∀ i, i < ns.length → LiesN w (vAt V i) (nAt ns i) (k + offN ns i)
theorem MkT.below {w w' : World} {v : Value} {V : List V3} {ns : List NB} {k : Nat} (h : MkT w v V ns k) (hb : Below w.heap.size w w') : MkT w' v V ns k := ⟨h.len, own_kept h.row (only_of_below hb (fun _ => False)) (fun _ _ h => h), fun i hi => (h.lie i hi).to (only_of_below hb (fun _ => False)) (fun _ _ h => h)⟩
def smallK (ns : List NB) : Prop := ∀ i, i < ns.length → (nAt ns i).ps.length ≤ 1000 ∧ (nAt ns i).keys.length ≤ 1000 ∧ (nAt ns i).kids.length ≤ 1000
theorem offN_le {ns : List NB} (h : smallK ns) : ∀ i, i ≤ ns.length → offN ns i ≤ i * 4000
 | 0, _ => by simp [offN]
 | i + 1, hi => by
  have := offN_le h i (by omega)
  have h2 := h i (by omega)
  simp only [offN, cntN]
  omega
theorem kw_own {w : World} {base : Nat} {e : TypeId} {size : Nat} {v : Value} {n : Nat} {xs : List Value} {K : Value → Prop} (h : w.ownsRow base e size v n xs) (hx : ∀ u ∈ xs, K u) : Kw w (fun y => v.ownBlock = some y) v n xs.length K :=
 kw_of (rw_own h (S := fun y => v.ownBlock = some y) (fun k hk _ _ => hk)) hx (fun b hb _ => ⟨hb, by
  rcases h.2 with ⟨rfl, _⟩ | ⟨g, cap, cur, rfl, _, h4, _⟩
  ·cases hb
  ·have e : g = b := by simpa [Value.ownBlock] using hb
   subst e
   exact ⟨_, _, h4⟩⟩)
theorem row_cells {w : World} {g n c m : Nat} {V : List V3} (h : w.ownsRow 0 85 3 (.slice (some ⟨g, 0, none⟩) n c) m (ncs V)) {i : Nat} (hi : i < V.length) : w.cell? ⟨g, i * 3, none⟩ = some (vAt V i).1 ∧ w.cell? ⟨g, i * 3 + 1, none⟩ = some (vAt V i).2.1 ∧ w.cell? ⟨g, i * 3 + 2, none⟩ = some (vAt V i).2.2 := by
 have hc := World.ownsRow.cells h (g := g) rfl
 obtain ⟨c0, c1, c2⟩ := ncs_at V i hi
 have d0 := hc _ _ c0
 have d1 := hc _ _ c1
 have d2 := hc _ _ c2
 rw [Addr.add_lit, Nat.zero_add] at d0 d1 d2
 exact ⟨d0, d1, d2⟩
theorem row_cap {w : World} {base : Nat} {e : TypeId} {size : Nat} {a : Option Addr} {n c m : Nat} {xs : List Value} (h : w.ownsRow base e size (.slice a n c) m xs) : n = m ∧ n ≤ c ∧ c ≤ 9223372036854775807 := by
 rcases h.2 with ⟨h1, h2⟩ | ⟨g, cap, cur, h1, _, _, h3, h4, _⟩
 ·cases h1; exact ⟨h2.symm, Nat.le_refl _, by omega⟩
 ·cases h1; unfold maxLen at h4; exact ⟨rfl, h3, by omega⟩
open Go.RowKit
set_option linter.unusedVariables false
def MarkPost (w : World) (v : Value) (V : List V3) (ns : List NB) (k : Nat) (e : Ending) (w' : World) : Prop := e = .returned (.int .i64 ((k + offN ns ns.length : Nat) : Int)) ∧ MkT w' v V ns k ∧ Only (fun y => ∃ i, i < ns.length ∧ bl (vAt V i) y) w w'
set_option maxHeartbeats 4000000 in
set_option maxRecDepth 20000 in
theorem markNodeS_ex (a : Option Addr) (n c k : Nat) (V : List V3) (ns : List NB) (w : World) (h : NA w (.slice a n c) V ns) (hs : smallK ns) (hn : ns.length ≤ 100000) (hk0 : 0 < k) (hk : k ≤ 1000000) :
  Calls Tryz.prog 83 #[.slice a n c, .int .i64 k] w fun e w' => MarkPost w (.slice a n c) V ns k e w' := by
 obtain ⟨hnn, hnc, hcm⟩ := row_cap h.row
 have HNN := hid hnn
 have hn1 : n ≤ 100000 := by omega
 have H0 := hid h
 have HS := hid hs
 clear h hs hnn hn
 go_enter Tryz.func83, Tryz.ntmps83
 go_wp2_with fail
 go_loopw [1, 5] (fun x i wr => ∃ j q : Nat, x = .int .i64 (q : Int) ∧ i = .int .i64 j ∧ j ≤ n ∧ Hid (q = k + offN ns j) ∧ Hid (Only (fun y => ∃ i, i < j ∧ bl (vAt V i) y) w wr) ∧ Hid (∀ i, i < j → LiesN wr (vAt V i) (nAt ns i) (k + offN ns i))) (fun _ i _ => n - (intOf i).toNat)
 case atStart => exact ⟨0, k, rfl, rfl, Nat.zero_le _, rfl, Only.refl _ _, fun i hi => absurd hi (Nat.not_lt_zero _)⟩
 case round =>
  obtain ⟨j, q, rfl, rfl, hj, HQ, HO, HL⟩ := hrel
  by_cases hlt : j < n
  ·have hlt' : (j : Int) < (n : Int) := by omega
   have hj0 : (0 : Int) ≤ (j : Int) := by omega
   have hjl : j < ns.length := by rw [← HNN.out]; exact hlt
   have hq1 : 0 < q := by have := HQ.out; omega
   have hq2 : q ≤ 1000000000 := by have h1 := HQ.out; have h2 := offN_le HS.out j (by omega); omega
   have hbd := HS.out j hjl
   have hown := (H0.out.own j hjl).1.to HO.out (fun y hy => by
    rintro ⟨i, hi, hb⟩
    exact H0.out.apart j i hjl (by omega) (by omega) y hy hb)
   have hrow := own_kept H0.out.row HO.out (fun y e => by
    rintro ⟨i, hi, hb⟩
    exact H0.out.off i (by omega) y hb e)
   obtain ⟨g, ha, -⟩ : ∃ g, a = some ⟨g, 0, none⟩ ∧ True := by
    obtain ⟨g, e, _⟩ := H0.out.rowAt (by omega)
    exact ⟨g, e, trivial⟩
   subst ha
   have HRW := hid hrow
   have HAP := hid (H0.out.own j hjl).2
   have HOF : Hid (∀ y, bl (vAt V j) y → y ≠ g) := fun y hy e => H0.out.off j hjl y hy (by rw [e]; rfl)
   have hvl : j < V.length := by rw [H0.out.len]; exact hjl
   obtain ⟨c0, -, -⟩ := row_cells hrow hvl
   have HOW := hid hown
   have HQN : Hid (offN ns (j + 1) = offN ns j + cntN (nAt ns j)) := rfl
   obtain ⟨ap, cp, e0⟩ := own_shape hown.1
   obtain ⟨ax, cx, e1⟩ := own_shape hown.2.1
   obtain ⟨ai, ci, e2⟩ := own_shape hown.2.2
   have HVL := hid hvl
   clear hrow hown hvl
   generalize hxx : nAt ns j = xx at *
   have HXX := hid hxx
   generalize hpp : vAt V j = pp at *
   have HPP := hid hpp
   obtain ⟨p0, p1, p2⟩ := pp
   simp only at e0 e1 e2 c0
   clear hxx hpp
   generalize hnp : xx.ps.length = np at *
   generalize hnx : xx.keys.length = nx at *
   generalize hni : xx.kids.length = ni at *
   have HLN := hid (And.intro hnp (And.intro hnx hni))
   clear hnp hnx hni
   subst e0 e1 e2
   obtain ⟨b1, b2, b3⟩ := hbd
   have K1 : Hid (Kw wr (fun y => (Value.slice ap np cp).ownBlock = some y) (.slice ap np cp) np (np * 2) isStr) := by
    have := kw_own (K := isStr) HOW.out.1 (fun u hu => pcs_str _ u hu)
    rw [pcs_length, HLN.out.1] at this
    exact this
   have K2 : Hid (Kw wr (fun y => (Value.slice ax nx cx).ownBlock = some y) (.slice ax nx cx) nx nx isStr) := by
    have := kw_own (K := isStr) HOW.out.2.1 (fun u hu => by simp at hu; obtain ⟨s, _, rfl⟩ := hu; exact ⟨s, rfl⟩)
    rw [List.length_map, HLN.out.2.1] at this
    exact this
   have K3 : Hid (Kw wr (fun y => (Value.slice ai ni ci).ownBlock = some y) (.slice ai ni ci) ni ni isInt) := by
    have := kw_own (K := isInt) HOW.out.2.2 (fun u hu => by simp at hu; obtain ⟨s, _, rfl⟩ := hu; exact ⟨s, rfl⟩)
    rw [List.length_map, HLN.out.2.2] at this
    exact this
   have hcaps : np ≤ cp ∧ nx ≤ cx ∧ ni ≤ ci := ⟨(row_cap HOW.out.1).2.1, (row_cap HOW.out.2.1).2.1, (row_cap HOW.out.2.2).2.1⟩
   have HCP := hid hcaps
   clear hcaps HOW
   go_wp2_with fail
   refine (markPairS_any _ ap np cp q wr K1.out (by omega) hq1 (by omega)).mono ?_
   rintro e w1 ⟨rfl, hm⟩
   have HM1 := hid hm.1.only
   have HL1 := hid hm.lies
   have HK2 := hid (K2.out.mk hm.1 kind_str)
   have HK3 := hid (K3.out.mk hm.1 kind_int)
   have HR1 : Hid (w1.ownsRow 0 85 3 (.slice (some ⟨g, 0, none⟩) n c) ns.length (ncs V)) := own_kept HRW.out HM1.out (fun y e e2 => HOF.out y (.inl e2) (by simpa [Value.ownBlock] using e.symm))
   obtain ⟨-, c1, -⟩ := row_cells HR1.out HVL.out
   rw [HPP.out] at c1
   simp only at c1
   have hs1 : q + np * 2 ≤ 1000010000 := by omega
   have hs0 : 0 < q + np * 2 := by omega
   have HQ1 : Hid (∃ z, z = q + np * 2) := ⟨_, rfl⟩
   clear hm K1 K2 K3 c0 HQ1
   generalize hq1' : q + np * 2 = q1 at *
   have HQ1 := hid hq1'
   clear hq1'
   go_wp2_with fail
   refine (markStringS_any _ ax nx cx q1 w1 HK2.out (by omega) hs0 (by omega)).mono ?_
   rintro e w2 ⟨rfl, hm⟩
   have HM2 := hid hm.1.only
   have HL2 := hid hm.lies
   have HK4 := hid (HK3.out.mk hm.1 kind_int)
   have HR2 : Hid (w2.ownsRow 0 85 3 (.slice (some ⟨g, 0, none⟩) n c) ns.length (ncs V)) := own_kept HR1.out HM2.out (fun y e e2 => HOF.out y (.inr (.inl e2)) (by simpa [Value.ownBlock] using e.symm))
   obtain ⟨-, -, c2⟩ := row_cells HR2.out HVL.out
   rw [HPP.out] at c2
   simp only at c2
   have hs3 : q1 + nx ≤ 1000020000 := by omega
   have hs4 : 0 < q1 + nx := by omega
   clear hm HK2 HK3 c1
   generalize hq2' : q1 + nx = q2 at *
   have HQ2 := hid hq2'
   clear hq2'
   go_wp2_with fail
   refine (markIntS_any _ ai ni ci q2 w2 HK4.out (by omega) hs4 (by omega)).mono ?_
   rintro e w3 ⟨rfl, hm⟩
   have HM3 := hid hm.1.only
   have HL3 := hid hm.lies
   clear hm HK4 c2
   have HO3 : Hid (Only (fun y => ∃ i, i < j + 1 ∧ bl (vAt V i) y) w w3) := by
    have o1 := HM1.out.mono (R' := fun y => ∃ i, i < j + 1 ∧ bl (vAt V i) y) (fun y _ e => ⟨j, by omega, by rw [HPP.out]; exact .inl e⟩)
    have o2 := HM2.out.mono (R' := fun y => ∃ i, i < j + 1 ∧ bl (vAt V i) y) (fun y _ e => ⟨j, by omega, by rw [HPP.out]; exact .inr (.inl e)⟩)
    have o3 := HM3.out.mono (R' := fun y => ∃ i, i < j + 1 ∧ bl (vAt V i) y) (fun y _ e => ⟨j, by omega, by rw [HPP.out]; exact .inr (.inr e)⟩)
    exact (((HO.out.mono (fun y _ ⟨i, hi, hb⟩ => ⟨i, by omega, hb⟩)).trans o1).trans o2).trans o3
   have HLF : Hid (∀ i, i < j + 1 → LiesN w3 (vAt V i) (nAt ns i) (k + offN ns i)) := by
    intro i hi
    by_cases e : i = j
    ·subst e
     rw [HPP.out, HXX.out]
     unfold LiesN
     rw [HLN.out.1, HLN.out.2.1, HLN.out.2.2, ← HQ.out, HQ1.out, HQ2.out]
     have hap := HAP.out
     refine ⟨(LiesV.to ⟨_, cp, rfl, HCP.out.1, HL1.out⟩ HM2.out (fun y e e2 => ((hap y).1 e).1 e2)).to HM3.out (fun y e e2 => ((hap y).1 e).2 e2), LiesV.to ⟨ax, cx, rfl, HCP.out.2.1, HL2.out⟩ HM3.out (fun y e e2 => (hap y).2 e e2), ⟨ai, ci, rfl, HCP.out.2.2, HL3.out⟩⟩
    ·have h1 := HL.out i (by omega)
     have hd : ∀ y, bl (vAt V i) y → ¬ bl (Value.slice ap np cp, Value.slice ax nx cx, Value.slice ai ni ci) y := fun y hy hz => H0.out.apart i j (by omega) hjl e y hy (by rw [HPP.out]; exact hz)
     exact ((h1.to HM1.out (fun y hy e => hd y hy (.inl e))).to HM2.out (fun y hy e => hd y hy (.inr (.inl e)))).to HM3.out (fun y hy e => hd y hy (.inr (.inr e)))
   have HQ3 : Hid (q2 + ni = k + offN ns (j + 1)) := by
    show _ = _
    rw [HQN.out, cntN, HLN.out.1, HLN.out.2.1, HLN.out.2.2, ← HQ2.out, ← HQ1.out, HQ.out]; omega
   go_wp2
   go_roundw
   case rel => exact ⟨j + 1, q2 + ni, by go_num, by go_num, by omega, HQ3.out, HO3.out, HLF.out⟩
   case measure => simp [intOf]; omega
  ·have hlt' : ¬ (j : Int) < (n : Int) := by omega
   have hjn : j = ns.length := by rw [← HNN.out]; omega
   subst hjn
   have HF : Hid (MkT wr (.slice a n c) V ns k) := ⟨H0.out.len, own_kept H0.out.row HO.out (fun y e => by rintro ⟨i, hi, hb⟩; exact H0.out.off i hi y hb e), HL.out⟩
   clear HL
   go_wp2
   go_ret
   exact ⟨by rw [← HQ.out]; rfl, HF.out, HO.out⟩
set_option maxHeartbeats 1000000 in
theorem markTree_ex (a : Option Addr) (n c k : Nat) (V : List V3) (ns : List NB) (w : World) (h : NA w (.slice a n c) V ns) (hs : smallK ns) (hn : ns.length ≤ 100000) (hk0 : 0 < k) (hk : k ≤ 1000000) :
  Calls Tryz.prog 38 #[.agg #[.slice a n c], .int .i64 k] w fun e w' => MarkPost w (.slice a n c) V ns k e w' := by
 have hb := below_new (o := .cells #[.slice a n c] 33) (w := w) (Below.refl _ _)
 have HN := hid (markNodeS_ex a n c k V ns _ (h.kept hb) hs hn hk0 hk)
 have c0 := (Bk.new w 33 [.slice a n c]).cell (j := 0) rfl
 have HB := hid hb
 clear h hs hb
 go_enter Tryz.func38, Tryz.ntmps38
 go_wp2_with fail
 refine HN.out.mono ?_
 rintro e w1 ⟨rfl, hm, ho⟩
 have HM := hid hm
 have HO := hid ((only_of_below HB.out _).trans ho)
 clear hm ho
 generalize hq : k + offN ns ns.length = q at *
 have HQ := hid hq
 clear hq
 go_wp2
 go_ret
 exact ⟨by rw [HQ.out]; rfl, HM.out, HO.out⟩
set_option maxHeartbeats 4000000 in
set_option maxRecDepth 20000 in
theorem heldNodeS_any (a : Option Addr) (n c k : Nat) (V : List V3) (ns : List NB) (w : World) (h : MkT w (.slice a n c) V ns k) (hs : smallK ns) (hn : ns.length ≤ 100000) (hk0 : 0 < k) (hk : k ≤ 1000000) :
  Calls Tryz.prog 86 #[.slice a n c, .int .i64 k] w fun e w' => e = .returned (.int .i64 ((k + offN ns ns.length : Nat) : Int)) ∧ Below w.heap.size w w' := by
 obtain ⟨hnn, hnc, hcm⟩ := row_cap h.row
 have HNN := hid hnn
 have hn1 : n ≤ 100000 := by omega
 have H0 := hid h
 have HS := hid hs
 clear h hs hnn hn
 go_enter Tryz.func86, Tryz.ntmps86
 go_wp2_with fail
 go_loopw [1, 5] (fun x i wr => ∃ j q : Nat, x = .int .i64 (q : Int) ∧ i = .int .i64 j ∧ j ≤ n ∧ Hid (q = k + offN ns j) ∧ Hid (Below w.heap.size w wr)) (fun _ i _ => n - (intOf i).toNat)
 case atStart => exact ⟨0, k, rfl, rfl, Nat.zero_le _, rfl, Below.refl _ _⟩
 case round =>
  obtain ⟨j, q, rfl, rfl, hj, HQ, HB⟩ := hrel
  by_cases hlt : j < n
  ·have hlt' : (j : Int) < (n : Int) := by omega
   have hj0 : (0 : Int) ≤ (j : Int) := by omega
   have hjl : j < ns.length := by rw [← HNN.out]; exact hlt
   have hq1 : 0 < q := by have := HQ.out; omega
   have hq2 : q ≤ 1000000000 := by have h1 := HQ.out; have h2 := offN_le HS.out j (by omega); omega
   have hbd := HS.out j hjl
   have H1 := hid (H0.out.below HB.out)
   obtain ⟨g, ha, -⟩ : ∃ g, a = some ⟨g, 0, none⟩ ∧ True := by
    rcases H0.out.row.2 with ⟨e, e2⟩ | ⟨g, cap, cur, e, _⟩
    ·omega
    ·cases e; exact ⟨g, rfl, trivial⟩
   subst ha
   have hvl : j < V.length := by rw [H0.out.len]; exact hjl
   have HVL := hid hvl
   obtain ⟨c0, -, -⟩ := row_cells H1.out.row hvl
   have hlie := H1.out.lie j hjl
   rw [← HQ.out] at hlie
   have HQN : Hid (offN ns (j + 1) = offN ns j + cntN (nAt ns j)) := rfl
   generalize hpp : vAt V j = pp at *
   have HPP := hid hpp
   obtain ⟨p0, p1, p2⟩ := pp
   generalize hxx : nAt ns j = xx at *
   clear hpp hxx hvl
   unfold LiesN at hlie
   generalize hnp : xx.ps.length = np at *
   generalize hnx : xx.keys.length = nx at *
   generalize hni : xx.kids.length = ni at *
   have HLN := hid (And.intro hnp (And.intro hnx hni))
   clear hnp hnx hni
   obtain ⟨⟨ap, cp, e0, hc0, l0⟩, ⟨ax, cx, e1, hc1, l1⟩, ⟨ai, ci, e2, hc2, l2⟩⟩ := hlie
   simp only at e0 e1 e2 c0
   subst e0 e1 e2
   have L1 := hid l1
   have L2 := hid l2
   obtain ⟨b1, b2, b3⟩ := hbd
   have HP := hid (heldPairS_any ap np cp q wr l0 hc0 (by omega) hq1 (by omega))
   clear l0 l1 l2
   go_wp2_with fail
   refine HP.out.mono ?_
   rintro e w1 ⟨rfl, hb⟩
   have HB1 := hid (Below.then' HB.out hb (Nat.le_refl _))
   obtain ⟨-, c1, -⟩ := row_cells (H1.out.below hb).row HVL.out
   rw [HPP.out] at c1
   simp only at c1
   have M1 := hid (L1.out.below hb)
   have M2 := hid (L2.out.below hb)
   have H2 := hid (H1.out.below hb)
   have hs1 : q + np * 2 ≤ 1000010000 := by omega
   have hs0 : 0 < q + np * 2 := by omega
   clear hb c0 HP L1 L2 H1
   generalize hq1' : q + np * 2 = q1 at *
   have HQ1 := hid hq1'
   have HP2 := hid (heldStringS_any ax nx cx q1 w1 M1.out hc1 (by omega) hs0 (by omega))
   clear hq1'
   have hn0 : ¬ (q1 : Int) < 0 := by omega
   go_wp2_with fail
   refine HP2.out.mono ?_
   rintro e w2 ⟨rfl, hb⟩
   have HB2 := hid (Below.then' HB1.out hb (Nat.le_refl _))
   obtain ⟨-, -, c2⟩ := row_cells (H2.out.below hb).row HVL.out
   rw [HPP.out] at c2
   simp only at c2
   have N2 := hid (M2.out.below hb)
   have hs3 : q1 + nx ≤ 1000020000 := by omega
   have hs4 : 0 < q1 + nx := by omega
   clear hb c1 HP2 M1 M2 H2
   generalize hq2' : q1 + nx = q2 at *
   have HQ2 := hid hq2'
   have HP3 := hid (heldIntS_any ai ni ci q2 w2 N2.out hc2 (by omega) hs4 (by omega))
   clear hq2'
   have hn2 : ¬ (q2 : Int) < 0 := by omega
   go_wp2_with fail
   refine HP3.out.mono ?_
   rintro e w3 ⟨rfl, rfl⟩
   have HQ3 : Hid (q2 + ni = k + offN ns (j + 1)) := by
    show _ = _
    rw [HQN.out, cntN, HLN.out.1, HLN.out.2.1, HLN.out.2.2, ← HQ2.out, ← HQ1.out, HQ.out]; omega
   have hs5 : q2 + ni ≤ 1000030000 := by omega
   clear c2 HP3 N2
   generalize hq3' : q2 + ni = q3 at *
   clear hq3'
   have hn3 : ¬ (q3 : Int) < 0 := by omega
   go_wp2
   go_roundw
   case rel => exact ⟨j + 1, q3, rfl, by go_num, by omega, HQ3.out, HB2.out⟩
   case measure => simp [intOf]; omega
  ·have hlt' : ¬ (j : Int) < (n : Int) := by omega
   have hjn : j = ns.length := by rw [← HNN.out]; omega
   subst hjn
   have HE : Hid ((k : Int) + (offN ns ns.length : Int) = (q : Int)) := by have := HQ.out; show _ = _; omega
   go_wp2
   go_ret
   exact ⟨by rw [HE.out]; rfl, HB.out⟩
set_option maxHeartbeats 1000000 in
theorem heldTree_any (a : Option Addr) (n c k : Nat) (V : List V3) (ns : List NB) (w : World) (h : MkT w (.slice a n c) V ns k) (hs : smallK ns) (hn : ns.length ≤ 100000) (hk0 : 0 < k) (hk : k ≤ 1000000) :
  Calls Tryz.prog 41 #[.agg #[.slice a n c], .int .i64 k] w fun e w' => e = .returned (.int .i64 ((k + offN ns ns.length : Nat) : Int)) ∧ Below w.heap.size w w' := by
 have hb := below_new (o := .cells #[.slice a n c] 33) (w := w) (Below.refl _ _)
 have HN := hid (heldNodeS_any a n c k V ns _ (h.below hb) hs hn hk0 hk)
 have c0 := (Bk.new w 33 [.slice a n c]).cell (j := 0) rfl
 have HB := hid hb
 clear h hs hb
 go_enter Tryz.func41, Tryz.ntmps41
 go_wp2_with fail
 refine HN.out.mono ?_
 rintro e w1 ⟨rfl, hb⟩
 have HB1 := hid (Below.then' HB.out hb (Nat.le_refl _))
 clear hb
 generalize hq : k + offN ns ns.length = q at *
 have HQ := hid hq
 clear hq
 have hn0 : ¬ (q : Int) < 0 := by omega
 go_wp2
 go_ret
 exact ⟨by rw [HQ.out]; rfl, HB1.out⟩
open Go.RowKit
set_option linter.unusedVariables false
structure StR (w : World) (S : Nat → Prop) (xa : Option Addr) (xn xc : Nat) (ya : Option Addr) (yn yc : Nat) (na : Option Addr) (nn nc : Nat) (pa : Option Addr) (pn pc : Nat) (d : DK) (s : LS) : Prop where
 dk : Dk w S xa xn xc ya yn yc d
 nr : Nr w S (.slice na nn nc) s.1
 ir : Ir w S (.slice pa pn pc) s.2
theorem StR.below {w w' : World} {S : Nat → Prop} {xa : Option Addr} {xn xc : Nat} {ya : Option Addr} {yn yc : Nat} {na : Option Addr} {nn nc : Nat} {pa : Option Addr} {pn pc : Nat} {d : DK} {s : LS} (h : StR w S xa xn xc ya yn yc na nn nc pa pn pc d s) (hb : Below w.heap.size w w') : StR w' S xa xn xc ya yn yc na nn nc pa pn pc d s := ⟨h.dk.below hb, h.nr.below hb, Rw.to h.ir (only_of_below hb (fun _ => False)) (fun _ _ _ h => h)⟩
structure StO (w : World) (B : Nat) (xa : Option Addr) (xn xc : Nat) (ya : Option Addr) (yn yc : Nat) (na : Option Addr) (nn nc : Nat) (pa : Option Addr) (pn pc : Nat) (Vd : List Value) (Ud : List (Int × Value)) (V : List V3) (d : DK) (s : LS) : Prop where
 dk : DO w B (.slice xa xn xc) Vd (.slice ya yn yc) Ud d
 sn : SN w B na nn nc pa pn pc V s
 ap : ∀ y, dbl (.slice xa xn xc) Vd (.slice ya yn yc) Ud y → ¬ snb na nn nc pa pn pc V s y
def stb (xa : Option Addr) (xn xc : Nat) (ya : Option Addr) (yn yc : Nat) (na : Option Addr) (nn nc : Nat) (pa : Option Addr) (pn pc : Nat) (Vd : List Value) (Ud : List (Int × Value)) (V : List V3) (s : LS) (y : Nat) : Prop := dbl (.slice xa xn xc) Vd (.slice ya yn yc) Ud y ∨ snb na nn nc pa pn pc V s y
theorem StO.below {w w' : World} {B : Nat} {xa : Option Addr} {xn xc : Nat} {ya : Option Addr} {yn yc : Nat} {na : Option Addr} {nn nc : Nat} {pa : Option Addr} {pn pc : Nat} {Vd : List Value} {Ud : List (Int × Value)} {V : List V3} {d : DK} {s : LS} (h : StO w B xa xn xc ya yn yc na nn nc pa pn pc Vd Ud V d s) (hb : Below w.heap.size w w') : StO w' B xa xn xc ya yn yc na nn nc pa pn pc Vd Ud V d s := ⟨h.dk.below hb, h.sn.below hb, h.ap⟩
theorem StO.to {w w' : World} {B : Nat} {R : Nat → Prop} {xa : Option Addr} {xn xc : Nat} {ya : Option Addr} {yn yc : Nat} {na : Option Addr} {nn nc : Nat} {pa : Option Addr} {pn pc : Nat} {Vd : List Value} {Ud : List (Int × Value)} {V : List V3} {d : DK} {s : LS} (h : StO w B xa xn xc ya yn yc na nn nc pa pn pc Vd Ud V d s) (ho : Only R w w') (hR : ∀ y, stb xa xn xc ya yn yc na nn nc pa pn pc Vd Ud V s y → ¬ R y) : StO w' B xa xn xc ya yn yc na nn nc pa pn pc Vd Ud V d s := ⟨h.dk.to ho (fun y hy => hR y (.inl hy)), h.sn.to ho (fun y hy => hR y (.inr hy)), h.ap⟩
theorem StO.lt {w : World} {B : Nat} {xa : Option Addr} {xn xc : Nat} {ya : Option Addr} {yn yc : Nat} {na : Option Addr} {nn nc : Nat} {pa : Option Addr} {pn pc : Nat} {Vd : List Value} {Ud : List (Int × Value)} {V : List V3} {d : DK} {s : LS} (h : StO w B xa xn xc ya yn yc na nn nc pa pn pc Vd Ud V d s) {y : Nat} (hy : stb xa xn xc ya yn yc na nn nc pa pn pc Vd Ud V s y) : B ≤ y ∧ y < w.heap.size := hy.elim (fun h1 => h.dk.lt h1) (fun h1 => h.sn.lt h1)
theorem SN.ir {w : World} {B : Nat} {na : Option Addr} {nn nc : Nat} {pa : Option Addr} {pn pc : Nat} {V : List V3} {s : LS} (h : SN w B na nn nc pa pn pc V s) : Ir w (fun _ => True) (.slice pa pn pc) s.2 := by
 have := rw_own h.pla (S := fun _ => True) (fun _ _ _ _ => trivial)
 show Rw _ _ _ _ _
 simpa using this
theorem StO.rd {w : World} {B : Nat} {xa : Option Addr} {xn xc : Nat} {ya : Option Addr} {yn yc : Nat} {na : Option Addr} {nn nc : Nat} {pa : Option Addr} {pn pc : Nat} {Vd : List Value} {Ud : List (Int × Value)} {V : List V3} {d : DK} {s : LS} (h : StO w B xa xn xc ya yn yc na nn nc pa pn pc Vd Ud V d s) : StR w (fun _ => True) xa xn xc ya yn yc na nn nc pa pn pc d s := ⟨h.dk.dk (fun _ _ => trivial), h.sn.nod.nr (fun _ _ => trivial), h.sn.ir⟩
structure StQ (w : World) (xa : Option Addr) (xn xc : Nat) (ya : Option Addr) (yn yc : Nat) (na : Option Addr) (nn nc : Nat) (pa : Option Addr) (pn pc : Nat) (Vd : List Value) (Ud : List (Int × Value)) (V : List V3) (d : DK) (s : LS) (k : Nat) : Prop where
 dm : DM w (.slice xa xn xc) Vd (.slice ya yn yc) Ud d k
 mt : MkT w (.slice na nn nc) V s.1 (k + dkTot d)
 pl : pn = s.2.length ∧ pn ≤ pc
 mi : Lies w pa pn pn (mI (k + dkTot d + offN s.1 s.1.length))
theorem StQ.below {w w' : World} {xa : Option Addr} {xn xc : Nat} {ya : Option Addr} {yn yc : Nat} {na : Option Addr} {nn nc : Nat} {pa : Option Addr} {pn pc : Nat} {Vd : List Value} {Ud : List (Int × Value)} {V : List V3} {d : DK} {s : LS} {k : Nat} (h : StQ w xa xn xc ya yn yc na nn nc pa pn pc Vd Ud V d s k) (hb : Below w.heap.size w w') : StQ w' xa xn xc ya yn yc na nn nc pa pn pc Vd Ud V d s k := ⟨h.dm.below hb, h.mt.below hb, h.pl, h.mi.below hb⟩
theorem st_uf {w : World} {base : Nat} {e : TypeId} {size : Nat} {v : Value} {n : Nat} {xs : List Value} (h : w.ownsRow base e size v n xs) {k : Nat} (hk : v.ownBlock = some k) : Uf w k := by
 rcases h.2 with ⟨rfl, _⟩ | ⟨g, cap, cur, rfl, _, hg, _⟩
 ·cases hk
 ·cases hk
  exact ⟨_, _, hg⟩
theorem MkT.to9 {w w' : World} {R : Nat → Prop} {v : Value} {V : List V3} {ns : List NB} {k : Nat} (h : MkT w v V ns k) (ho : Only R w w') (hv : ∀ y, v.ownBlock = some y → ¬ R y) (hR : ∀ i, i < ns.length → ∀ y, bl (vAt V i) y → ¬ R y) : MkT w' v V ns k := ⟨h.len, own_kept h.row ho hv, fun i hi => (h.lie i hi).to ho (hR i hi)⟩
def stTot (d : DK) (s : LS) : Nat := dkTot d + offN s.1 s.1.length + s.2.length
set_option maxHeartbeats 6400000 in
set_option maxRecDepth 20000 in
theorem eqStore_same (S S' : Nat → Prop) (xa : Option Addr) (xn xc : Nat) (ya : Option Addr) (yn yc : Nat) (na : Option Addr) (nn nc : Nat) (pa : Option Addr) (pn pc : Nat) (xa' : Option Addr) (xn' xc' : Nat) (ya' : Option Addr) (yn' yc' : Nat) (na' : Option Addr) (nn' nc' : Nat) (pa' : Option Addr) (pn' pc' : Nat) (g : Int) (d : DK) (s : LS) (w : World) (h : StR w S xa xn xc ya yn yc na nn nc pa pn pc d s) (h' : StR w S' xa' xn' xc' ya' yn' yc' na' nn' nc' pa' pn' pc' d s) (hs : smallD d) :
  Calls Tryz.prog 10 #[.agg #[.slice xa xn xc, .slice ya yn yc, .int .i64 g, .slice na nn nc, .slice pa pn pc], .agg #[.slice xa' xn' xc', .slice ya' yn' yc', .int .i64 g, .slice na' nn' nc', .slice pa' pn' pc']] w fun e w' => e = .returned (.bool true) ∧ Below w.heap.size w w' := by
 have HB0 : Hid (Below w.heap.size w ((w.alloc (.cells #[.slice xa xn xc, .slice ya yn yc, .int .i64 g, .slice na nn nc, .slice pa pn pc] 36)).alloc (.cells #[.slice xa' xn' xc', .slice ya' yn' yc', .int .i64 g, .slice na' nn' nc', .slice pa' pn' pc'] 36))) := below_new (below_new (Below.refl _ _))
 have K0 := hid ((Bk.new w 36 [.slice xa xn xc, .slice ya yn yc, .int .i64 g, .slice na nn nc, .slice pa pn pc]).alloc (.cells #[.slice xa' xn' xc', .slice ya' yn' yc', .int .i64 g, .slice na' nn' nc', .slice pa' pn' pc'] 36))
 have J0 := hid (Bk.new (w.alloc (.cells #[.slice xa xn xc, .slice ya yn yc, .int .i64 g, .slice na nn nc, .slice pa pn pc] 36)) 36 [.slice xa' xn' xc', .slice ya' yn' yc', .int .i64 g, .slice na' nn' nc', .slice pa' pn' pc'])
 rw [show (w.alloc (.cells #[.slice xa xn xc, .slice ya yn yc, .int .i64 g, .slice na nn nc, .slice pa pn pc] 36)).heap.size = w.heap.size + 1 by simp] at J0
 have H0 := hid (h.below HB0.out)
 have G0 := hid (h'.below HB0.out)
 have HS := hid hs
 have hz : (g != g) = false := by simp
 clear h h' hs
 go_enter Tryz.func10, Tryz.ntmps10
 go_wp2_with fail
 refine (eqDisk_any S S' xa xn xc ya yn yc d xa' xn' xc' ya' yn' yc' d _ H0.out.dk G0.out.dk HS.out HS.out).mono ?_
 rw [decide_eq_true (rfl : d = d)]
 generalize (w.alloc (.cells #[.slice xa xn xc, .slice ya yn yc, .int .i64 g, .slice na nn nc, .slice pa pn pc] 36)).alloc (.cells #[.slice xa' xn' xc', .slice ya' yn' yc', .int .i64 g, .slice na' nn' nc', .slice pa' pn' pc'] 36) = U at *
 rintro e w1 ⟨rfl, hb⟩
 have H1 := hid (H0.out.below hb)
 have G1 := hid (G0.out.below hb)
 have K1 := hid (K0.out.below hb)
 have J1 := hid (J0.out.below hb)
 have B1 := hid (HB0.out.trans (hb.mono HB0.out.size))
 clear hb H0 G0 K0 J0 HB0
 have x0 := K1.out.cell (j := 0) rfl
 have y0 := J1.out.cell (j := 0) rfl
 have x1 := K1.out.cell (j := 1) rfl
 have y1 := J1.out.cell (j := 1) rfl
 have x2 := K1.out.cell (j := 2) rfl
 have y2 := J1.out.cell (j := 2) rfl
 have x3 := K1.out.cell (j := 3) rfl
 have y3 := J1.out.cell (j := 3) rfl
 have x4 := K1.out.cell (j := 4) rfl
 have y4 := J1.out.cell (j := 4) rfl
 go_wp2_with fail
 refine (eqTree_at S S' na na' nn nn' nc nc' s.1 s.1 _ H1.out.nr G1.out.nr).mono ?_
 rw [decide_eq_true (rfl : s.1 = s.1)]
 rintro e w2 ⟨rfl, hb⟩
 have H2 := hid (H1.out.below hb)
 have G2 := hid (G1.out.below hb)
 have K2 := hid (K1.out.below hb)
 have J2 := hid (J1.out.below hb)
 have B2 := hid (B1.out.trans (hb.mono B1.out.size))
 clear hb H1 G1 K1 J1 B1 x0 y0 x1 y1 x2 y2 x3 y3 x4 y4
 have x0 := K2.out.cell (j := 0) rfl
 have y0 := J2.out.cell (j := 0) rfl
 have x1 := K2.out.cell (j := 1) rfl
 have y1 := J2.out.cell (j := 1) rfl
 have x2 := K2.out.cell (j := 2) rfl
 have y2 := J2.out.cell (j := 2) rfl
 have x3 := K2.out.cell (j := 3) rfl
 have y3 := J2.out.cell (j := 3) rfl
 have x4 := K2.out.cell (j := 4) rfl
 have y4 := J2.out.cell (j := 4) rfl
 go_wp2_with fail
 refine (eqIntS_at S S' pa pa' pn pn' pc pc' s.2 s.2 _ H2.out.ir G2.out.ir).mono ?_
 rw [decide_eq_true (rfl : s.2 = s.2)]
 rintro e w3 ⟨rfl, hb⟩
 have B3 := hid (B2.out.trans (hb.mono B2.out.size))
 clear hb H2 G2 K2 J2 B2 x0 y0 x1 y1 x2 y2 x3 y3 x4 y4
 go_wp2
 go_ret
 exact ⟨rfl, B3.out⟩
set_option maxHeartbeats 6400000 in
set_option maxRecDepth 20000 in
theorem markStore_ex (B : Nat) (xa : Option Addr) (xn xc : Nat) (ya : Option Addr) (yn yc : Nat) (na : Option Addr) (nn nc : Nat) (pa : Option Addr) (pn pc : Nat) (g : Int) (Vd : List Value) (Ud : List (Int × Value)) (V : List V3) (d : DK) (s : LS) (k : Nat) (w : World) (h : StO w B xa xn xc ya yn yc na nn nc pa pn pc Vd Ud V d s) (ht : dkTot d ≤ 900000) (hs : smallK s.1) (hn : s.1.length ≤ 100000) (hk0 : 0 < k) (hk : k ≤ 100000) :
  Calls Tryz.prog 13 #[.agg #[.slice xa xn xc, .slice ya yn yc, .int .i64 g, .slice na nn nc, .slice pa pn pc], .int .i64 (k : Int)] w fun e w' => e = .returned (.int .i64 ((k + stTot d s : Nat) : Int)) ∧ StQ w' xa xn xc ya yn yc na nn nc pa pn pc Vd Ud V d s k ∧ Only (stb xa xn xc ya yn yc na nn nc pa pn pc Vd Ud V s) w w' := by
 have hb := below_new (o := .cells #[.slice xa xn xc, .slice ya yn yc, .int .i64 g, .slice na nn nc, .slice pa pn pc] 36) (w := w) (Below.refl _ _)
 have K0 := hid (Bk.new w 36 [.slice xa xn xc, .slice ya yn yc, .int .i64 g, .slice na nn nc, .slice pa pn pc])
 have H0 := hid (h.below hb)
 have HLT : Hid (∀ y, stb xa xn xc ya yn yc na nn nc pa pn pc Vd Ud V s y → y < w.heap.size) := fun y hy => (h.lt hy).2
 have HK := hid hs
 have HT := hid ht
 have HO := offN_le hs s.1.length (Nat.le_refl _)
 have HPL : Hid (pn = s.2.length ∧ pn ≤ pc ∧ pc ≤ 9223372036854775807 ∧ s.2.length = s.1.length) := ⟨by have := (own_at h.sn.pla).1; omega, (own_at h.sn.pla).2.1, (own_at h.sn.pla).2.2.1, h.sn.len⟩
 have hpn : pn ≤ 100000 := by have := HPL.out; omega
 have HB0 := hid hb
 clear h hb hs
 go_enter Tryz.func13, Tryz.ntmps13
 go_wp2_with fail
 refine (markDisk_ex B xa xn xc ya yn yc k Vd Ud d _ H0.out.dk (by omega) hk0 (by omega)).mono ?_
 generalize w.alloc (.cells #[.slice xa xn xc, .slice ya yn yc, .int .i64 g, .slice na nn nc, .slice pa pn pc] 36) = U at *
 rintro e w1 ⟨rfl, hm, ho⟩
 have K1 := hid (K0.out.to ho (fun e => absurd (HLT.out _ (.inl e)) (Nat.lt_irrefl _)))
 have N1 := hid (H0.out.sn.to ho (fun y hy e => H0.out.ap y e hy))
 have M1 := hid hm
 have O1 := hid ho
 clear hm ho
 have z0 := K1.out.cell (j := 0) rfl
 have z1 := K1.out.cell (j := 1) rfl
 have z2 := K1.out.cell (j := 2) rfl
 have z3 := K1.out.cell (j := 3) rfl
 have z4 := K1.out.cell (j := 4) rfl
 have hk1 : (0 : Int) < ((k + dkTot d : Nat) : Int) := by omega
 go_wp2_with fail
 refine (markTree_ex na nn nc (k + dkTot d) V s.1 _ N1.out.nod HK.out hn (by omega) (by omega)).mono ?_
 rintro e w2 ⟨rfl, hm, ho⟩
 have K2 := hid (K1.out.to ho (fun e => absurd (HLT.out _ (.inr (.inr (.inr e)))) (Nat.lt_irrefl _)))
 have M2 := hid hm
 have D2 := hid (M1.out.to ho (fun y hy e => H0.out.ap y hy (.inr (.inr e))))
 have P2 : Hid (w2.ownsRow 0 3 1 (.slice pa pn pc) s.2.length (s.2.map (Value.int .i64))) := own_kept N1.out.pla ho (fun y hy e => by obtain ⟨i, hi, hbl⟩ := e; exact (N1.out.bp y hy).2.2 i hi hbl)
 have O2 := hid ho
 clear hm ho z0 z1 z2 z3 z4 K1 M1
 have z0 := K2.out.cell (j := 0) rfl
 have z1 := K2.out.cell (j := 1) rfl
 have z2 := K2.out.cell (j := 2) rfl
 have z3 := K2.out.cell (j := 3) rfl
 have z4 := K2.out.cell (j := 4) rfl
 have HKW : Hid (Kw w2 (fun y => (Value.slice pa pn pc).ownBlock = some y) (.slice pa pn pc) pn pn isInt) := by
  have h1 := rw_own P2.out (S := fun y => (Value.slice pa pn pc).ownBlock = some y) (fun k hk _ _ => hk)
  have h2 := kw_of (K := isInt) (S' := fun y => (Value.slice pa pn pc).ownBlock = some y) h1 (fun u hu => by simp at hu; obtain ⟨s, _, rfl⟩ := hu; exact ⟨s, rfl⟩) (fun b hb _ => ⟨hb, st_uf P2.out hb⟩)
  rw [List.length_map, ← HPL.out.1] at h2
  exact h2
 go_wp2_with fail
 refine (markIntS_any _ pa pn pc (k + dkTot d + offN s.1 s.1.length) _ HKW.out (by omega) (by omega) (by omega)).mono ?_
 rintro e w3 ⟨rfl, hm⟩
 have O3 := hid hm.1.only
 have M3 := hid hm.lies
 clear hm z0 z1 z2 z3 z4 K2 HKW
 have HE : Hid ((k : Int) + (dkTot d : Int) + (offN s.1 s.1.length : Int) + (pn : Int) = ((k + stTot d s : Nat) : Int)) := by have h1 := HPL.out.1; show _ = _; unfold stTot; omega
 go_wp2
 go_ret
 refine ⟨by rw [← HE.out]; rfl, ⟨D2.out.to O3.out (fun y hy e => H0.out.ap y hy (.inr (.inl e))), ?_, ⟨HPL.out.1, HPL.out.2.1⟩, M3.out⟩, ?_⟩
 ·exact MkT.to9 M2.out O3.out (fun y hy e => (N1.out.bp y e).2.1 hy) (fun i hi y hy e => (N1.out.bp y e).2.2 i hi hy)
 ·have o0 : Only (stb xa xn xc ya yn yc na nn nc pa pn pc Vd Ud V s) U w3 := (O1.out.mono (fun y _ e => .inl e)).trans ((O2.out.mono (fun y _ e => .inr (.inr (.inr e)))).trans (O3.out.mono (fun y _ e => .inr (.inr (.inl e)))))
  exact (only_of_below HB0.out _).trans o0
set_option maxHeartbeats 6400000 in
set_option maxRecDepth 20000 in
theorem heldStore_any (xa : Option Addr) (xn xc : Nat) (ya : Option Addr) (yn yc : Nat) (na : Option Addr) (nn nc : Nat) (pa : Option Addr) (pn pc : Nat) (g : Int) (Vd : List Value) (Ud : List (Int × Value)) (V : List V3) (d : DK) (s : LS) (k : Nat) (w : World) (h : StQ w xa xn xc ya yn yc na nn nc pa pn pc Vd Ud V d s k) (ht : dkTot d ≤ 900000) (hs : smallK s.1) (hn : s.1.length ≤ 100000) (hl : s.2.length = s.1.length) (hk0 : 0 < k) (hk : k ≤ 100000) :
  Calls Tryz.prog 14 #[.agg #[.slice xa xn xc, .slice ya yn yc, .int .i64 g, .slice na nn nc, .slice pa pn pc], .int .i64 (k : Int)] w fun e w' => e = .returned (.int .i64 ((k + stTot d s : Nat) : Int)) ∧ Below w.heap.size w w' := by
 have hb := below_new (o := .cells #[.slice xa xn xc, .slice ya yn yc, .int .i64 g, .slice na nn nc, .slice pa pn pc] 36) (w := w) (Below.refl _ _)
 have K0 := hid (Bk.new w 36 [.slice xa xn xc, .slice ya yn yc, .int .i64 g, .slice na nn nc, .slice pa pn pc])
 have H0 := hid (h.below hb)
 have HK := hid hs
 have HT := hid ht
 have HO := offN_le hs s.1.length (Nat.le_refl _)
 have HPL := hid h.pl
 have hpn : pn ≤ 100000 := by have := h.pl; omega
 have HB0 := hid hb
 clear h hb hs
 go_enter Tryz.func14, Tryz.ntmps14
 go_wp2_with fail
 refine (heldDisk_any xa xn xc ya yn yc k Vd Ud d _ H0.out.dm (by omega) hk0 (by omega)).mono ?_
 generalize w.alloc (.cells #[.slice xa xn xc, .slice ya yn yc, .int .i64 g, .slice na nn nc, .slice pa pn pc] 36) = U at *
 rintro e w1 ⟨rfl, hb⟩
 have K1 := hid (K0.out.below hb)
 have H1 := hid (H0.out.below hb)
 have B1 := hid (HB0.out.trans (hb.mono HB0.out.size))
 have hk1 : ¬ ((k + dkTot d : Nat) : Int) < 0 := by omega
 clear hb K0 H0 HB0
 have z0 := K1.out.cell (j := 0) rfl
 have z1 := K1.out.cell (j := 1) rfl
 have z2 := K1.out.cell (j := 2) rfl
 have z3 := K1.out.cell (j := 3) rfl
 have z4 := K1.out.cell (j := 4) rfl
 go_wp2_with fail
 refine (heldTree_any na nn nc (k + dkTot d) V s.1 _ H1.out.mt HK.out hn (by omega) (by omega)).mono ?_
 rintro e w2 ⟨rfl, hb⟩
 have K2 := hid (K1.out.below hb)
 have H2 := hid (H1.out.below hb)
 have B2 := hid (B1.out.trans (hb.mono B1.out.size))
 have hk2 : ¬ ((k + dkTot d + offN s.1 s.1.length : Nat) : Int) < 0 := by omega
 clear hb K1 H1 B1 z0 z1 z2 z3 z4
 have z0 := K2.out.cell (j := 0) rfl
 have z1 := K2.out.cell (j := 1) rfl
 have z2 := K2.out.cell (j := 2) rfl
 have z3 := K2.out.cell (j := 3) rfl
 have z4 := K2.out.cell (j := 4) rfl
 go_wp2_with fail
 refine (heldIntS_any pa pn pc (k + dkTot d + offN s.1 s.1.length) _ H2.out.mi HPL.out.2 (by omega) (by omega) (by omega)).mono ?_
 rintro e w3 ⟨rfl, rfl⟩
 have hk3 : ¬ ((k + dkTot d + offN s.1 s.1.length + pn : Nat) : Int) < 0 := by omega
 have HE : Hid ((k : Int) + (dkTot d : Int) + (offN s.1 s.1.length : Int) + (pn : Int) = ((k + stTot d s : Nat) : Int)) := by have h1 := HPL.out.1; show _ = _; unfold stTot; omega
 go_wp2
 go_ret
 exact ⟨by rw [← HE.out]; rfl, B2.out⟩
open Go.RowKit
set_option linter.unusedVariables false
def ScPost (d : DK) (w : World) (e : Ending) (w' : World) : Prop := Below w.heap.size w w' ∧ ∃ xa xn xc ya yn yc na nn nc pa pn pc, e = .returned (.tuple #[.agg #[.slice xa xn xc, .slice ya yn yc, .int .i64 (stG d), .slice na nn nc, .slice pa pn pc], .int .i64 (stC d)]) ∧ StR w' (fun _ => True) xa xn xc ya yn yc na nn nc pa pn pc (stD d) (stL d)
theorem stR_nil (w : World) : StR w (fun _ => True) none 0 0 none 0 0 none 0 0 none 0 0 ⟨[], []⟩ ([], []) :=
 ⟨⟨⟨[], rfl, rw_nil _ _, fun i hi => by simp at hi⟩, ⟨[], rfl, rw_nil _ _, fun i hi => by simp at hi⟩⟩, ⟨[], rfl, rw_nil _ _, fun i hi => by simp at hi⟩, rw_nil _ _⟩
theorem sc_no {d : DK} {w w' : World} {k : Int} (hb : Below w.heap.size w w') (h : stC d = k) (hk : k ≠ 0) : ScPost d w (.returned (.tuple #[.agg #[.slice none 0 0, .slice none 0 0, .int .i64 0, .slice none 0 0, .slice none 0 0], .int .i64 k])) w' := by
 have h0 : ¬ stC d = 0 := by rw [h]; exact hk
 refine ⟨hb, none, 0, 0, none, 0, 0, none, 0, 0, none, 0, 0, ?_, ?_⟩
 ·rw [stG, if_neg h0, h]
 ·rw [stD, if_neg h0, stL, if_neg h0]
  exact stR_nil w'
theorem sc_yes {d : DK} {w w' : World} {s : LS} {xa : Option Addr} {xn xc : Nat} {ya : Option Addr} {yn yc : Nat} {na : Option Addr} {nn nc : Nat} {pa : Option Addr} {pn pc : Nat} (hb : Below w.heap.size w w') (h0 : stC d = 0) (hs : stR d = some s) (hR : StR w' (fun _ => True) xa xn xc ya yn yc na nn nc pa pn pc d s) : ScPost d w (.returned (.tuple #[.agg #[.slice xa xn xc, .slice ya yn yc, .int .i64 (bestM d 2).1, .slice na nn nc, .slice pa pn pc], .int .i64 0])) w' := by
 refine ⟨hb, xa, xn, xc, ya, yn, yc, na, nn, nc, pa, pn, pc, ?_, ?_⟩
 ·rw [stG, if_pos h0, h0]
 ·rw [stD, if_pos h0, stL, if_pos h0, hs]
  exact hR
theorem stC_1 {d : DK} (h : dkOk d = false ∨ 0 < d.dw.length) : stC d = 1 := by unfold stC; rw [if_pos h]
theorem stC_2 {d : DK} (h : ¬ (dkOk d = false ∨ 0 < d.dw.length)) (h2 : ¬ 0 < (bestM d 2).1) : stC d = 2 := by unfold stC; rw [if_neg h, if_neg h2]
theorem stC_3 {d : DK} (h : ¬ (dkOk d = false ∨ 0 < d.dw.length)) (h2 : 0 < (bestM d 2).1) (h3 : stR d = none) : stC d = 3 := by unfold stC; rw [if_neg h, if_pos h2, h3]
theorem stC_s {d : DK} {s : LS} (h : ¬ (dkOk d = false ∨ 0 < d.dw.length)) (h2 : 0 < (bestM d 2).1) (h3 : stR d = some s) : stC d = if (okT s.1).isSome = true then 0 else 3 := by unfold stC; rw [if_neg h, if_pos h2, h3]
theorem bk_back {v : World} {g j : Nat} {T : TypeId} {xs : List Value} {u : Value} (h : Bk v g T xs) (hc : v.cell? ⟨g, j, none⟩ = some u) : xs[j]? = some u := by
 have h' : v.heap[g]? = some (.cells xs.toArray T (0, 0)) := h
 simpa [World.cell?, h'] using hc
theorem rw_off {v : World} {S : Nat → Prop} {x : Value} {n g : Nat} {xs ys : List Value} {T : TypeId} (h : Rw v S x n xs) (hs : ∀ u ∈ xs, isStr u) (hne : 0 < n → ∃ u, xs[0]? = some u) (hg : Bk v g T ys) (hy : ∀ u ∈ ys, ¬ isStr u) : Rw v (fun y => S y ∧ y ≠ g) x n xs := by
 obtain ⟨a, c, h1, h2, h3, h4, hn, h5⟩ := h
 refine ⟨a, c, h1, h2, h3, h4, hn, fun hp => ?_⟩
 obtain ⟨b, off, h6, h7, h8, h9⟩ := h5 hp
 refine ⟨b, off, h6, h7, ⟨h8, fun e => ?_⟩, h9⟩
 obtain ⟨u, hu⟩ := hne hp
 have hc := h9 0 u hu
 rw [e] at hc
 exact hy u (List.mem_of_getElem? (bk_back hg hc)) (hs u (List.mem_of_getElem? hu))
theorem LT.nrOff {v v' : World} {P : Nat → Prop} {na : Option Addr} {nn nc : Nat} {pa : Option Addr} {pn pc g r : Nat} {V : List V3} {s : LS} {T T' : TypeId} {ys zs : List Value} (h : LT v P na nn nc pa pn pc V s) (hg : Bk v g T ys) (hy : ∀ u ∈ ys, ¬ isStr u) (hr : Bk v r T' zs) (hz : ∀ u ∈ zs, ¬ isStr u) (hP : ∀ y, P y → y ≠ g ∧ y ≠ r) (ho : Only (fun y => y = g) v v') : Nr v' (fun y => y ≠ r) (.slice na nn nc) s.1 ∧ Ir v' (fun y => y ≠ r) (.slice pa pn pc) s.2 := by
 refine ⟨⟨V, h.len, rw_own (own_kept h.row ho (fun y e q => (hP y (h.pn' y e)).1 q)) (fun k e _ _ => (hP k (h.pn' k e)).2), fun i hi => ⟨?_, ?_, ?_⟩⟩, ?_⟩
 ·have hne : 0 < (nAt s.1 i).ps.length → ∃ u, (pcs (nAt s.1 i).ps)[0]? = some u := fun hp => by
   have : 0 < (pcs (nAt s.1 i).ps).length := by rw [pcs_length]; omega
   exact ⟨_, List.getElem?_eq_getElem this⟩
  exact Rw.mono (Rw.to (rw_off (rw_off (h.rd i hi).1 (pcs_str _) hne hg hy) (pcs_str _) hne hr hz) ho (fun b hb _ e => hb.1.2 e)) (fun b hb _ => hb.2)
 ·have hne : 0 < (nAt s.1 i).keys.length → ∃ u, ((nAt s.1 i).keys.map Value.string)[0]? = some u := fun hp => by
   have : 0 < ((nAt s.1 i).keys.map Value.string).length := by simpa using hp
   exact ⟨_, List.getElem?_eq_getElem this⟩
  have hst : ∀ u ∈ (nAt s.1 i).keys.map Value.string, isStr u := fun u hu => by simp at hu; obtain ⟨t, _, rfl⟩ := hu; exact ⟨t, rfl⟩
  exact Rw.mono (Rw.to (rw_off (rw_off (h.rd i hi).2 hst hne hg hy) hst hne hr hz) ho (fun b hb _ e => hb.1.2 e)) (fun b hb _ => hb.2)
 ·have := rw_own (own_kept (h.kid i hi) ho (fun y e q => (hP y (h.off i hi y e).1).1 q)) (S := fun y => y ≠ r) (fun k e _ _ => (hP k (h.off i hi k e).1).2)
  show Rw _ _ _ _ _
  simpa using this
 ·have := rw_own (own_kept h.pla ho (fun y e q => (hP y (h.pp y e).1).1 q)) (S := fun y => y ≠ r) (fun k e _ _ => (hP k (h.pp k e).1).2)
  show Rw _ _ _ _ _
  simpa using this
def smL (ns : List NB) (b : Nat) : Prop := ∀ i, b ≤ i → i < ns.length → (nAt ns i).ps.length ≤ 4 ∧ (nAt ns i).keys.length ≤ 4 ∧ (nAt ns i).kids.length ≤ 4
def okF (F : Int → LS → Option LS) : Prop := ∀ t s s', F t s = some s' → s.1.length + 1 ≤ s'.1.length ∧ (∀ i, i < s.1.length → nAt s'.1 i = nAt s.1 i) ∧ smL s'.1 s.1.length
theorem addK_at {ns : List NB} {me : Nat} (q : Int) (hme : me < ns.length) (i : Nat) : nAt (addK ns me q) i = if i = me then ⟨(nAt ns me).ps, (nAt ns me).keys, (nAt ns me).kids ++ [q]⟩ else nAt ns i := by
 unfold addK nAt
 by_cases e : i = me
 ·subst e
  rw [if_pos rfl, List.getElem?_set_self hme]
  rfl
 ·rw [if_neg e, List.getElem?_set_ne (fun q => e q.symm)]
theorem ldK_sm {F : Int → LS → Option LS} (hF : okF F) (me : Nat) : ∀ (ks : List Int) (s s' : LS), me < s.1.length → ldK F me ks s = some s' → s.1.length ≤ s'.1.length ∧ (∀ i, i < s.1.length → i ≠ me → nAt s'.1 i = nAt s.1 i) ∧ ((nAt s'.1 me).ps = (nAt s.1 me).ps ∧ (nAt s'.1 me).keys = (nAt s.1 me).keys ∧ (nAt s'.1 me).kids.length = (nAt s.1 me).kids.length + ks.length) ∧ smL s'.1 s.1.length
 | [], s, s', hme, h => by
  have e : s = s' := Option.some.inj h
  subst e
  exact ⟨Nat.le_refl _, fun _ _ _ => rfl, ⟨rfl, rfl, rfl⟩, fun i h1 h2 => by omega⟩
 | k :: ks, s, s', hme, h => by
  rw [ldK] at h
  cases e : F k (addK s.1 me (s.1.length : Int), s.2) with
  | none => rw [e] at h; cases h
  | some s1 =>
   rw [e] at h
   obtain ⟨f1, f2, f3⟩ := hF _ _ _ e
   simp only [addK_len] at f1 f2 f3
   obtain ⟨g1, g2, g3, g4⟩ := ldK_sm hF me ks s1 s' (by omega) h
   refine ⟨by omega, fun i hi hn => ?_, ?_, fun i h1 h2 => ?_⟩
   ·rw [g2 i (by omega) hn, f2 i hi, addK_at _ hme, if_neg hn]
   ·have q := f2 me hme
    rw [addK_at _ hme, if_pos rfl] at q
    rw [g3.1, g3.2.1, g3.2.2, q]
    simp
    omega
   ·by_cases hi : i < s1.1.length
    ·rw [g2 i hi (by omega)]
     exact f3 i h1 hi
    ·exact g4 i (by omega) h2
theorem ldV_sm (ss : List (List Int)) : ∀ f, okF (ldV ss f)
 | 0 => fun t s s' h => by
  unfold ldV at h
  cases h
 | f + 1 => fun t s s' h => by
  cases hp : pgAt ss t with
  | none => rw [ldV_page hp] at h; cases h
  | some p =>
   by_cases hb : t ∈ s.2 ∨ 400 ≤ s.1.length
   ·rw [ldV_bad hb] at h; cases h
   ·rw [ldV_go hp hb] at h
    have hok : pgOk p = true := by
     unfold pgAt at hp
     split at hp
     ·exact prd_ok hp
     ·cases hp
    obtain ⟨-, h4, h5, -⟩ := pgOk_shape hok
    obtain ⟨g1, g2, g3, g4⟩ := ldK_sm (ldV_sm ss f) s.1.length p.kids _ s' (by simp) h
    simp only [List.length_append, List.length_cons, List.length_nil, Nat.zero_add] at g1 g2 g4
    have hat : ∀ i, i < s.1.length → nAt (s.1 ++ [nodeP p]) i = nAt s.1 i := fun i hi => by simp [nAt, List.getElem?_append_left hi]
    have hme : nAt (s.1 ++ [nodeP p]) s.1.length = nodeP p := by simp [nAt]
    refine ⟨by omega, fun i hi => ?_, fun i h1 h2 => ?_⟩
    ·rw [g2 i (by omega) (by omega)]
     exact hat i hi
    ·by_cases hi : i = s.1.length
     ·subst hi
      rw [g3.1, g3.2.1, g3.2.2, hme]
      unfold nodeP
      split
      ·refine ⟨by rw [pairsP_len]; exact h4, by simp, by simpa using h5⟩
      ·exact ⟨by simp, h4, by simpa using h5⟩
     ·exact g4 i (by omega) h2
structure S6 (U v : World) (gb : Nat) (xa : Option Addr) (xn xc : Nat) (ya : Option Addr) (yn yc : Nat) (Vd : List Value) (Ud : List (Int × Value)) (d : DK) (mg : Int) : Prop where
 bel : Below U.heap.size U v
 box : Bk v gb 36 [.slice xa xn xc, .slice ya yn yc, .int .i64 mg, .slice none 0 0, .slice none 0 0]
 own : DO v U.heap.size (.slice xa xn xc) Vd (.slice ya yn yc) Ud d
 lo : U.heap.size ≤ gb
 sep : ∀ y, dbl (.slice xa xn xc) Vd (.slice ya yn yc) Ud y → y ≠ gb
theorem lt_nil (v : World) (P : Nat → Prop) : LT v P none 0 0 none 0 0 [] ([], []) :=
 ⟨rfl, World.ownsRow_nil _ _ _ _, fun i hi => (by simp at hi), fun i hi => (by simp at hi), fun i j hi => (by simp at hi), fun i hi => (by simp at hi), fun y e => (by cases e), World.ownsRow_nil _ _ _ _, fun y e => (by cases e)⟩
set_option maxHeartbeats 16000000 in
set_option maxRecDepth 100000 in
theorem specStoreOpen_any (S : Nat → Prop) (sa : Option Addr) (sn sc : Nat) (da : Option Addr) (dn dc : Nat) (d : DK) (w : World) (h : Dk w S sa sn sc da dn dc d) (hsm : smallD d) (h1 : sn ≤ 1048576) (h2 : dn ≤ 1048576) :
  Calls Tryz.prog 7 #[.agg #[.slice sa sn sc, .slice da dn dc]] w fun e w' => ScPost d w e w' := by
 have B0 : Hid (Below w.heap.size w ((w.alloc (.cells #[.slice sa sn sc, .slice da dn dc] 30)).alloc (.cells #[.slice none 0 0, .slice none 0 0, .int .i64 0, .slice none 0 0, .slice none 0 0] 36))) := below_new (below_new (Below.refl _ _))
 have K0 := hid ((Bk.new w 30 [.slice sa sn sc, .slice da dn dc]).alloc (.cells #[.slice none 0 0, .slice none 0 0, .int .i64 0, .slice none 0 0, .slice none 0 0] 36))
 have R0 : Hid (Bk ((w.alloc (.cells #[.slice sa sn sc, .slice da dn dc] 30)).alloc (.cells #[.slice none 0 0, .slice none 0 0, .int .i64 0, .slice none 0 0, .slice none 0 0] 36)) (w.heap.size + 1) 36 [.slice none 0 0, .slice none 0 0, .int .i64 0, .slice none 0 0, .slice none 0 0]) := by
  have h := Bk.new (w.alloc (.cells #[.slice sa sn sc, .slice da dn dc] 30)) 36 [.slice none 0 0, .slice none 0 0, .int .i64 0, .slice none 0 0, .slice none 0 0]
  show Bk _ _ _ _
  simpa using h
 have D0 := hid ((h.mono (R := fun y => y < w.heap.size) (fun y _ hy => hy)).below B0.out)
 have HSM := hid hsm
 have HND : Hid (dn = d.dw.length) := h.hd.len.1
 clear h hsm
 go_enter Tryz.func7, Tryz.ntmps7
 go_wp2_with fail
 refine (specDiskOk_any _ sa sn sc da dn dc d _ D0.out).mono ?_
 generalize (w.alloc (.cells #[.slice sa sn sc, .slice da dn dc] 30)).alloc (.cells #[.slice none 0 0, .slice none 0 0, .int .i64 0, .slice none 0 0, .slice none 0 0] 36) = U at *
 rintro e w1 ⟨rfl, hb⟩
 have K1 := hid (K0.out.below hb)
 have R1 := hid (R0.out.below hb)
 have D1 := hid (D0.out.below hb)
 have B1 := hid (B0.out.trans ((hb).mono B0.out.size))
 clear K0 R0 D0 B0 hb
 cases hok : dkOk d with
 | false =>
  have HC := hid (stC_1 (d := d) (.inl hok))
  have r0 := R1.out.cell (j := 0) rfl
  have r1 := R1.out.cell (j := 1) rfl
  have r2 := R1.out.cell (j := 2) rfl
  have r3 := R1.out.cell (j := 3) rfl
  have r4 := R1.out.cell (j := 4) rfl
  have f0 := R1.out.free 0
  have f1 := R1.out.free 1
  have f2 := R1.out.free 2
  have f3 := R1.out.free 3
  have f4 := R1.out.free 4
  have RF := hid (((((R1.out.set 0 (.slice none 0 0)).set 1 (.slice none 0 0)).set 2 (.int .i64 0)).set 3 (.slice none 0 0)).set 4 (.slice none 0 0))
  have oF : Hid (Only (fun y => y = w.heap.size + 1) w1 (((((w1.setCell ⟨w.heap.size + 1, 0, none⟩ (.slice none 0 0)).setCell ⟨w.heap.size + 1, 1, none⟩ (.slice none 0 0)).setCell ⟨w.heap.size + 1, 2, none⟩ (.int .i64 0)).setCell ⟨w.heap.size + 1, 3, none⟩ (.slice none 0 0)).setCell ⟨w.heap.size + 1, 4, none⟩ (.slice none 0 0))) := (((((only_set (R := fun y => y = w.heap.size + 1) (p := ⟨w.heap.size + 1, 0, none⟩) rfl _).trans (only_set (R := fun y => y = w.heap.size + 1) (p := ⟨w.heap.size + 1, 1, none⟩) rfl _)).trans (only_set (R := fun y => y = w.heap.size + 1) (p := ⟨w.heap.size + 1, 2, none⟩) rfl _)).trans (only_set (R := fun y => y = w.heap.size + 1) (p := ⟨w.heap.size + 1, 3, none⟩) rfl _)).trans (only_set (R := fun y => y = w.heap.size + 1) (p := ⟨w.heap.size + 1, 4, none⟩) rfl _))
  have BF := hid (B1.out.trans (oF.out.below B1.out.size (fun y hy e => by omega)))
  go_wp2
  try simp only [Exit.inBlock, Exit.then]
  refine bodyPost_ret (v := .tuple #[.agg #[.slice none 0 0, .slice none 0 0, .int .i64 0, .slice none 0 0, .slice none 0 0], .int .i64 1]) ?_ rfl ?_
  ·exact results_sto rfl _ _ (w.heap.size + 1) rfl rfl (RF.out.cell (j := 0) rfl) (RF.out.cell (j := 1) rfl) (RF.out.cell (j := 2) rfl) (RF.out.cell (j := 3) rfl) (RF.out.cell (j := 4) rfl)
  ·exact sc_no BF.out HC.out (by decide)
 | true =>
  have x0 := K1.out.cell (j := 0) rfl
  have x1 := K1.out.cell (j := 1) rfl
  by_cases hdw : 0 < dn
  ·have hdw2 : (0 : Int) < (dn : Int) := by omega
   have HC := hid (stC_1 (d := d) (.inr (by rw [← HND.out]; exact hdw)))
   have r0 := R1.out.cell (j := 0) rfl
   have r1 := R1.out.cell (j := 1) rfl
   have r2 := R1.out.cell (j := 2) rfl
   have r3 := R1.out.cell (j := 3) rfl
   have r4 := R1.out.cell (j := 4) rfl
   have f0 := R1.out.free 0
   have f1 := R1.out.free 1
   have f2 := R1.out.free 2
   have f3 := R1.out.free 3
   have f4 := R1.out.free 4
   have RF := hid (((((R1.out.set 0 (.slice none 0 0)).set 1 (.slice none 0 0)).set 2 (.int .i64 0)).set 3 (.slice none 0 0)).set 4 (.slice none 0 0))
   have oF : Hid (Only (fun y => y = w.heap.size + 1) w1 (((((w1.setCell ⟨w.heap.size + 1, 0, none⟩ (.slice none 0 0)).setCell ⟨w.heap.size + 1, 1, none⟩ (.slice none 0 0)).setCell ⟨w.heap.size + 1, 2, none⟩ (.int .i64 0)).setCell ⟨w.heap.size + 1, 3, none⟩ (.slice none 0 0)).setCell ⟨w.heap.size + 1, 4, none⟩ (.slice none 0 0))) := (((((only_set (R := fun y => y = w.heap.size + 1) (p := ⟨w.heap.size + 1, 0, none⟩) rfl _).trans (only_set (R := fun y => y = w.heap.size + 1) (p := ⟨w.heap.size + 1, 1, none⟩) rfl _)).trans (only_set (R := fun y => y = w.heap.size + 1) (p := ⟨w.heap.size + 1, 2, none⟩) rfl _)).trans (only_set (R := fun y => y = w.heap.size + 1) (p := ⟨w.heap.size + 1, 3, none⟩) rfl _)).trans (only_set (R := fun y => y = w.heap.size + 1) (p := ⟨w.heap.size + 1, 4, none⟩) rfl _))
   have BF := hid (B1.out.trans (oF.out.below B1.out.size (fun y hy e => by omega)))
   go_wp2
   try simp only [Exit.inBlock, Exit.then]
   refine bodyPost_ret (v := .tuple #[.agg #[.slice none 0 0, .slice none 0 0, .int .i64 0, .slice none 0 0, .slice none 0 0], .int .i64 1]) ?_ rfl ?_
   ·exact results_sto rfl _ _ (w.heap.size + 1) rfl rfl (RF.out.cell (j := 0) rfl) (RF.out.cell (j := 1) rfl) (RF.out.cell (j := 2) rfl) (RF.out.cell (j := 3) rfl) (RF.out.cell (j := 4) rfl)
   ·exact sc_no BF.out HC.out (by decide)
  ·have hdw2 : ¬ (0 : Int) < (dn : Int) := by omega
   have HNO : Hid (¬ (dkOk d = false ∨ 0 < d.dw.length)) := fun e => e.elim (fun e => by rw [hok] at e; cases e) (fun e => hdw (by rw [HND.out]; exact e))
   have HDN : Hid (d.dw = []) := List.eq_nil_of_length_eq_zero (by have := HND.out; omega)
   have HOK := hid hok
   clear hok
   go_wp2_with fail
   refine (specDiskMeta_any _ sa sn sc da dn dc d _ D1.out HSM.out).mono ?_
   rintro e w2 ⟨rfl, hb⟩
   have K2 := hid (K1.out.below hb)
   have R2 := hid (R1.out.below hb)
   have D2 := hid (D1.out.below hb)
   have B2 := hid (B1.out.trans ((hb).mono B1.out.size))
   clear K1 R1 D1 B1 hb x0 x1
   have HBR := hid (bestM_root d 2)
   have HSR : Hid (stR d = if (bestM d 2).2 = 0 then some ([], []) else ldV d.sh 400 (bestM d 2).2 ([], [])) := rfl
   have HS2 := hid (stC_2 HNO.out)
   have HS3 := hid (stC_3 HNO.out)
   have HSS := hid (fun s => stC_s (s := s) HNO.out)
   have HY : Hid (∀ (w' : World) s xa xn xc ya yn yc na nn nc pa pn pc, Below w.heap.size w w' → stC d = 0 → stR d = some s → StR w' (fun _ => True) xa xn xc ya yn yc na nn nc pa pn pc d s → ScPost d w (.returned (.tuple #[.agg #[.slice xa xn xc, .slice ya yn yc, .int .i64 (bestM d 2).1, .slice na nn nc, .slice pa pn pc], .int .i64 0])) w') := fun w' s xa xn xc ya yn yc na nn nc pa pn pc h1 h2 h3 h4 => sc_yes h1 h2 h3 h4
   generalize (bestM d 2).1 = mg at *
   generalize (bestM d 2).2 = mr at *
   have hbn : Below w2.heap.size w2 (w2.alloc (.cells #[.int .i64 mg, .int .i64 mr] 61)) := below_new (Below.refl _ _)
   have M3 := hid (Bk.new w2 61 [.int .i64 mg, .int .i64 mr])
   have HLT : Hid (w.heap.size + 1 < w2.heap.size) := R2.out.lt
   have K3 := hid (K2.out.below hbn)
   have R3 := hid (R2.out.below hbn)
   have D3 := hid (D2.out.below hbn)
   have B3 := hid (B2.out.trans ((hbn).mono B2.out.size))
   clear K2 R2 D2 B2 hbn
   by_cases hm : 0 < mg
   ·skip
    have HM := hid hm
    rw [show decide (0 < mg) = true from decide_eq_true hm]
    clear hm
    go_upto_region 6 with (fail)
    generalize w2.alloc (.cells #[.int .i64 mg, .int .i64 mr] 61) = V3 at *
    generalize w2.heap.size = bm at *
    have K4 := hid (K3.out.below (below_drew V3))
    have R4 := hid (R3.out.below (below_drew V3))
    have D4 := hid (D3.out.below (below_drew V3))
    have M4 := hid (M3.out.below (below_drew V3))
    have B4 := hid (B3.out.trans (((below_drew V3)).mono B3.out.size))
    go_cut [6] (fun x v => ∃ V gb xa xn xc ya yn yc Vd Ud, V = v ∧ x = .pointer (some ⟨gb, 0, none⟩) ∧ S6 V3 V gb xa xn xc ya yn yc Vd Ud d mg)
    case first =>
     refine wp_region_noPanic ?_
     refine wp_region_held_drew (S := fun v => v.cell? ⟨w.heap.size, 0, none⟩ = some (.slice sa sn sc) ∧ v.cell? ⟨w.heap.size, 1, none⟩ = some (.slice da dn dc) ∧ v.cell? ⟨bm, 0, none⟩ = some (.int .i64 mg)) (by kernel_rfl) (⟨K4.out.cell (j := 0) rfl, K4.out.cell (j := 1) rfl, M4.out.cell (j := 0) rfl⟩) (fun hHeld => ?_)
     simp only [List.size_toArray, List.length_cons, List.length_nil, Array.replicate_succ, Array.replicate_zero, Nat.reduceAdd, List.push_toArray, List.nil_append, List.cons_append]
     refine wpAnyH_take (i := 0) (v := (.agg #[.slice sa sn sc, .slice da dn dc])) rfl (by kernel_rfl) (by kernel_rfl) (by kernel_rfl) (fun _ _ _ h => h) (Or.inl ⟨by rfl, ?_⟩) (by assumption) ?_
     ·intro w hSw
      (try dsimp only at hSw)
      go_simp
     try simp only [List.getElem_toArray]
     try simp only [List.getElem_cons_succ]
     try simp only [List.getElem_cons_zero]
     try simp only [Act.put]
     try simp only [List.setIfInBounds_toArray]
     try simp only [List.set_cons_succ]
     try simp only [List.set_cons_zero]
     refine wpAnyH_take (i := 2) (v := (.pointer (some ⟨bm, 0, none⟩))) rfl (by kernel_rfl) (by kernel_rfl) (by kernel_rfl) (fun _ _ _ h => h) (Or.inl ⟨by rfl, ?_⟩) (by assumption) ?_
     ·intro w hSw
      (try dsimp only at hSw)
      go_simp
     try simp only [List.getElem_toArray]
     try simp only [List.getElem_cons_succ]
     try simp only [List.getElem_cons_zero]
     try simp only [Act.put]
     try simp only [List.setIfInBounds_toArray]
     try simp only [List.set_cons_succ]
     try simp only [List.set_cons_zero]
     refine wpAnyH_take (i := 3) (v := (.int .i64 mg)) rfl (by kernel_rfl) (by kernel_rfl) (by kernel_rfl) (fun _ _ _ h => h) (Or.inl ⟨by rfl, ?_⟩) (by assumption) ?_
     ·intro w hSw
      (try dsimp only at hSw)
      go_simp
     try simp only [List.getElem_toArray]
     try simp only [List.getElem_cons_succ]
     try simp only [List.getElem_cons_zero]
     try simp only [Act.put]
     try simp only [List.setIfInBounds_toArray]
     try simp only [List.set_cons_succ]
     try simp only [List.set_cons_zero]
     refine wpAnyH_ready (rs := [1, 5]) (by kernel_rfl) (by simp) ?_
     refine AllReadyH.cons rfl (fun K1 hK => ?_) (AllReadyH.cons rfl (fun K1 hK => ?_) AllReadyH.nil)
     ·go_simp
      refine (l05Copy_any _ sa sn sc da dn dc d _ D4.out HSM.out h1 h2).mono ?_
      rintro r q1 ⟨xa, xn, xc, ya, yn, yc, Vd, Ud, rfl, hO, hbC⟩
      go_wp2_with fail
      refine hK.out _ _ ?_ (fun hHeld => ?_)
      ·exact ⟨(K4.out.below hbC).cell (j := 0) rfl, (K4.out.below hbC).cell (j := 1) rfl, (M4.out.below hbC).cell (j := 0) rfl⟩
      clear hK K1
      try simp only [List.getElem_toArray]
      try simp only [List.getElem_cons_succ]
      try simp only [List.getElem_cons_zero]
      try simp only [Act.put]
      try simp only [List.setIfInBounds_toArray]
      try simp only [List.set_cons_succ]
      try simp only [List.set_cons_zero]
      refine wpAnyH_take (i := 4) (v := (.agg #[.slice xa xn xc, .slice ya yn yc, .int .i64 mg, .slice none 0 0, .slice none 0 0])) rfl (by kernel_rfl) (by kernel_rfl) (by kernel_rfl) (fun _ _ _ h => h) (Or.inl ⟨by rfl, ?_⟩) (by assumption) ?_
      ·intro w hSw
       (try dsimp only at hSw)
       go_simp
      try simp only [List.getElem_toArray]
      try simp only [List.getElem_cons_succ]
      try simp only [List.getElem_cons_zero]
      try simp only [Act.put]
      try simp only [List.setIfInBounds_toArray]
      try simp only [List.set_cons_succ]
      try simp only [List.set_cons_zero]
      refine wpAnyH_ready (rs := [5]) (by kernel_rfl) (by simp) ?_
      refine AllReadyH.cons rfl (fun K1 hK => ?_) AllReadyH.nil
      go_simp
      try go_wp2_with fail
      have hbn := below_new (o := .cells #[.slice none 0 0, .slice none 0 0, .int .i64 0, .slice none 0 0, .slice none 0 0] 36) (w := q1) (Below.refl _ _)
      have hbX : Below V3.drew.heap.size V3.drew (q1.alloc (.cells #[.slice none 0 0, .slice none 0 0, .int .i64 0, .slice none 0 0, .slice none 0 0] 36)) := hbC.trans (hbn.mono hbC.size)
      have C5 := hid hbX
      have E5 := hid (Bk.new q1 36 [.slice none 0 0, .slice none 0 0, .int .i64 0, .slice none 0 0, .slice none 0 0])
      have G5 : Hid (V3.heap.size ≤ q1.heap.size) := hbC.size
      have F5 : Hid (∀ y, dbl (.slice xa xn xc) Vd (.slice ya yn yc) Ud y → y ≠ q1.heap.size) := fun y hy => by have := (hO.lt hy).2; omega
      have O5 : Hid (DO (q1.alloc (.cells #[.slice none 0 0, .slice none 0 0, .int .i64 0, .slice none 0 0, .slice none 0 0] 36)) V3.heap.size (.slice xa xn xc) Vd (.slice ya yn yc) Ud d) := (hO.base (Nat.le_refl _)).below hbn
      have Q5 : Hid (Below V3.heap.size V3 (q1.alloc (.cells #[.slice none 0 0, .slice none 0 0, .int .i64 0, .slice none 0 0, .slice none 0 0] 36))) := (below_drew V3).trans hbX
      clear hbC hbn hbX hO
      refine hK.out _ _ ?_ (fun hHeld => ?_)
      ·exact ⟨(K4.out.below C5.out).cell (j := 0) rfl, (K4.out.below C5.out).cell (j := 1) rfl, (M4.out.below C5.out).cell (j := 0) rfl⟩
      clear hK K1
      try simp only [List.getElem_toArray]
      try simp only [List.getElem_cons_succ]
      try simp only [List.getElem_cons_zero]
      try simp only [Act.put]
      try simp only [List.setIfInBounds_toArray]
      try simp only [List.set_cons_succ]
      try simp only [List.set_cons_zero]
      generalize q1.alloc (.cells #[.slice none 0 0, .slice none 0 0, .int .i64 0, .slice none 0 0, .slice none 0 0] 36) = v8 at *
      generalize q1.heap.size = gb at *
      have z0 := E5.out.cell (j := 0) rfl
      have z1 := E5.out.cell (j := 1) rfl
      have z2 := E5.out.cell (j := 2) rfl
      have z3 := E5.out.cell (j := 3) rfl
      have z4 := E5.out.cell (j := 4) rfl
      have e0 := E5.out.free 0
      have e1 := E5.out.free 1
      have e2 := E5.out.free 2
      have e3 := E5.out.free 3
      have e4 := E5.out.free 4
      have o5 : Only (fun y => y = gb) v8 (((((v8.setCell ⟨gb, 0, none⟩ (.slice xa xn xc)).setCell ⟨gb, 1, none⟩ (.slice ya yn yc)).setCell ⟨gb, 2, none⟩ (.int .i64 mg)).setCell ⟨gb, 3, none⟩ (.slice none 0 0)).setCell ⟨gb, 4, none⟩ (.slice none 0 0)) := (((((only_set (R := fun y => y = gb) (p := ⟨gb, 0, none⟩) rfl _).trans (only_set (R := fun y => y = gb) (p := ⟨gb, 1, none⟩) rfl _)).trans (only_set (R := fun y => y = gb) (p := ⟨gb, 2, none⟩) rfl _)).trans (only_set (R := fun y => y = gb) (p := ⟨gb, 3, none⟩) rfl _)).trans (only_set (R := fun y => y = gb) (p := ⟨gb, 4, none⟩) rfl _))
      have AF : Hid (S6 V3 (((((v8.setCell ⟨gb, 0, none⟩ (.slice xa xn xc)).setCell ⟨gb, 1, none⟩ (.slice ya yn yc)).setCell ⟨gb, 2, none⟩ (.int .i64 mg)).setCell ⟨gb, 3, none⟩ (.slice none 0 0)).setCell ⟨gb, 4, none⟩ (.slice none 0 0)) gb xa xn xc ya yn yc Vd Ud d mg) := ⟨Q5.out.trans (o5.below Q5.out.size (fun y hy e => by have := G5.out; omega)), (((((E5.out.set 0 (.slice xa xn xc)).set 1 (.slice ya yn yc)).set 2 (.int .i64 mg)).set 3 (.slice none 0 0)).set 4 (.slice none 0 0)), O5.out.to o5 (fun y hy e => F5.out y hy e), G5.out, F5.out⟩
      have hK5 := (K4.out.below C5.out).to o5 (fun e => by have h1 := G5.out; have h2 := K3.out.lt; omega)
      have hM5 := (M4.out.below C5.out).to o5 (fun e => by have h1 := G5.out; have h2 := M3.out.lt; omega)
      refine wpAnyH_ready (rs := [6]) (by kernel_rfl) (by simp) ?_
      refine AllReadyH.cons rfl (fun K1 hK => ?_) AllReadyH.nil
      go_simp
      try go_wp2_with fail
      refine hK.out _ _ ?_ (fun hHeld => ?_)
      ·exact ⟨hK5.cell (j := 0) rfl, hK5.cell (j := 1) rfl, hM5.cell (j := 0) rfl⟩
      clear hK K1
      try simp only [List.getElem_toArray]
      try simp only [List.getElem_cons_succ]
      try simp only [List.getElem_cons_zero]
      try simp only [Act.put]
      try simp only [List.setIfInBounds_toArray]
      try simp only [List.set_cons_succ]
      try simp only [List.set_cons_zero]
      refine wpAnyH_done (by kernel_rfl) ?_ _
      refine NoPanic.normal ?_
      clear z0 z1 z2 z3 z4 e0 e1 e2 e3 e4 hK5 hM5 o5
      go_wp2_with fail
      go_meet
      exact ⟨_, gb, xa, xn, xc, ya, yn, yc, Vd, Ud, rfl, by simp, AF.out⟩
     ·go_simp
      try go_wp2_with fail
      have h0 := below_new (o := .cells #[.slice none 0 0, .slice none 0 0, .int .i64 0, .slice none 0 0, .slice none 0 0] 36) (w := V3) (below_drew _)
      have hbC : Below V3.drew.heap.size V3.drew (V3.alloc (.cells #[.slice none 0 0, .slice none 0 0, .int .i64 0, .slice none 0 0, .slice none 0 0] 36)).drew := ⟨h0.os, h0.tape, h0.output, h0.size, h0.block⟩
      have C4 := hid hbC
      have E4 : Hid (Bk (V3.alloc (.cells #[.slice none 0 0, .slice none 0 0, .int .i64 0, .slice none 0 0, .slice none 0 0] 36)).drew V3.heap.size 36 [.slice none 0 0, .slice none 0 0, .int .i64 0, .slice none 0 0, .slice none 0 0]) := (Bk.new V3 36 [.slice none 0 0, .slice none 0 0, .int .i64 0, .slice none 0 0, .slice none 0 0]).below (below_drew _)
      clear hbC h0
      refine hK.out _ _ ?_ (fun hHeld => ?_)
      ·exact ⟨(K4.out.below C4.out).cell (j := 0) rfl, (K4.out.below C4.out).cell (j := 1) rfl, (M4.out.below C4.out).cell (j := 0) rfl⟩
      clear hK K1
      try simp only [List.getElem_toArray]
      try simp only [List.getElem_cons_succ]
      try simp only [List.getElem_cons_zero]
      try simp only [Act.put]
      try simp only [List.setIfInBounds_toArray]
      try simp only [List.set_cons_succ]
      try simp only [List.set_cons_zero]
      generalize (V3.alloc (.cells #[.slice none 0 0, .slice none 0 0, .int .i64 0, .slice none 0 0, .slice none 0 0] 36)).drew = v6 at *
      refine wpAnyH_ready (rs := [1]) (by kernel_rfl) (by simp) ?_
      refine AllReadyH.cons rfl (fun K1 hK => ?_) AllReadyH.nil
      go_simp
      refine (l05Copy_any _ sa sn sc da dn dc d _ (D4.out.below C4.out) HSM.out h1 h2).mono ?_
      rintro r q1 ⟨xa, xn, xc, ya, yn, yc, Vd, Ud, rfl, hO, hbC⟩
      go_wp2_with fail
      have hbX : Below V3.drew.heap.size V3.drew q1 := C4.out.trans (hbC.mono C4.out.size)
      have C5 := hid hbX
      have E5 := hid (E4.out.below hbC)
      have HV6 : V3.heap.size < v6.heap.size := E4.out.lt
      have G5 : Hid (V3.heap.size ≤ V3.heap.size) := Nat.le_refl _
      have F5 : Hid (∀ y, dbl (.slice xa xn xc) Vd (.slice ya yn yc) Ud y → y ≠ V3.heap.size) := fun y hy => by have := (hO.lt hy).1; omega
      have O5 : Hid (DO q1 V3.heap.size (.slice xa xn xc) Vd (.slice ya yn yc) Ud d) := hO.base (by omega)
      have Q5 : Hid (Below V3.heap.size V3 q1) := (below_drew V3).trans hbX
      clear hbC hbX hO E4 C4 HV6
      refine hK.out _ _ ?_ (fun hHeld => ?_)
      ·exact ⟨(K4.out.below C5.out).cell (j := 0) rfl, (K4.out.below C5.out).cell (j := 1) rfl, (M4.out.below C5.out).cell (j := 0) rfl⟩
      clear hK K1
      try simp only [List.getElem_toArray]
      try simp only [List.getElem_cons_succ]
      try simp only [List.getElem_cons_zero]
      try simp only [Act.put]
      try simp only [List.setIfInBounds_toArray]
      try simp only [List.set_cons_succ]
      try simp only [List.set_cons_zero]
      refine wpAnyH_take (i := 4) (v := (.agg #[.slice xa xn xc, .slice ya yn yc, .int .i64 mg, .slice none 0 0, .slice none 0 0])) rfl (by kernel_rfl) (by kernel_rfl) (by kernel_rfl) (fun _ _ _ h => h) (Or.inl ⟨by rfl, ?_⟩) (by assumption) ?_
      ·intro w hSw
       (try dsimp only at hSw)
       go_simp
      try simp only [List.getElem_toArray]
      try simp only [List.getElem_cons_succ]
      try simp only [List.getElem_cons_zero]
      try simp only [Act.put]
      try simp only [List.setIfInBounds_toArray]
      try simp only [List.set_cons_succ]
      try simp only [List.set_cons_zero]
      have z0 := E5.out.cell (j := 0) rfl
      have z1 := E5.out.cell (j := 1) rfl
      have z2 := E5.out.cell (j := 2) rfl
      have z3 := E5.out.cell (j := 3) rfl
      have z4 := E5.out.cell (j := 4) rfl
      have e0 := E5.out.free 0
      have e1 := E5.out.free 1
      have e2 := E5.out.free 2
      have e3 := E5.out.free 3
      have e4 := E5.out.free 4
      have o5 : Only (fun y => y = V3.heap.size) q1 (((((q1.setCell ⟨V3.heap.size, 0, none⟩ (.slice xa xn xc)).setCell ⟨V3.heap.size, 1, none⟩ (.slice ya yn yc)).setCell ⟨V3.heap.size, 2, none⟩ (.int .i64 mg)).setCell ⟨V3.heap.size, 3, none⟩ (.slice none 0 0)).setCell ⟨V3.heap.size, 4, none⟩ (.slice none 0 0)) := (((((only_set (R := fun y => y = V3.heap.size) (p := ⟨V3.heap.size, 0, none⟩) rfl _).trans (only_set (R := fun y => y = V3.heap.size) (p := ⟨V3.heap.size, 1, none⟩) rfl _)).trans (only_set (R := fun y => y = V3.heap.size) (p := ⟨V3.heap.size, 2, none⟩) rfl _)).trans (only_set (R := fun y => y = V3.heap.size) (p := ⟨V3.heap.size, 3, none⟩) rfl _)).trans (only_set (R := fun y => y = V3.heap.size) (p := ⟨V3.heap.size, 4, none⟩) rfl _))
      have AF : Hid (S6 V3 (((((q1.setCell ⟨V3.heap.size, 0, none⟩ (.slice xa xn xc)).setCell ⟨V3.heap.size, 1, none⟩ (.slice ya yn yc)).setCell ⟨V3.heap.size, 2, none⟩ (.int .i64 mg)).setCell ⟨V3.heap.size, 3, none⟩ (.slice none 0 0)).setCell ⟨V3.heap.size, 4, none⟩ (.slice none 0 0)) V3.heap.size xa xn xc ya yn yc Vd Ud d mg) := ⟨Q5.out.trans (o5.below Q5.out.size (fun y hy e => by have := G5.out; omega)), (((((E5.out.set 0 (.slice xa xn xc)).set 1 (.slice ya yn yc)).set 2 (.int .i64 mg)).set 3 (.slice none 0 0)).set 4 (.slice none 0 0)), O5.out.to o5 (fun y hy e => F5.out y hy e), G5.out, F5.out⟩
      have hK5 := (K4.out.below C5.out).to o5 (fun e => by have h1 := G5.out; have h2 := K3.out.lt; omega)
      have hM5 := (M4.out.below C5.out).to o5 (fun e => by have h1 := G5.out; have h2 := M3.out.lt; omega)
      refine wpAnyH_ready (rs := [6]) (by kernel_rfl) (by simp) ?_
      refine AllReadyH.cons rfl (fun K1 hK => ?_) AllReadyH.nil
      go_simp
      try go_wp2_with fail
      refine hK.out _ _ ?_ (fun hHeld => ?_)
      ·exact ⟨hK5.cell (j := 0) rfl, hK5.cell (j := 1) rfl, hM5.cell (j := 0) rfl⟩
      clear hK K1
      try simp only [List.getElem_toArray]
      try simp only [List.getElem_cons_succ]
      try simp only [List.getElem_cons_zero]
      try simp only [Act.put]
      try simp only [List.setIfInBounds_toArray]
      try simp only [List.set_cons_succ]
      try simp only [List.set_cons_zero]
      refine wpAnyH_done (by kernel_rfl) ?_ _
      refine NoPanic.normal ?_
      clear z0 z1 z2 z3 z4 e0 e1 e2 e3 e4 hK5 hM5 o5
      go_wp2_with fail
      go_meet
      exact ⟨_, V3.heap.size, xa, xn, xc, ya, yn, yc, Vd, Ud, rfl, by simp, AF.out⟩
    case rest =>
     obtain ⟨V, gb, xa, xn, xc, ya, yn, yc, Vd, Ud, rfl, rfl, hX⟩ := hcut
     have X5 := hid hX
     have hb5 := hX.bel
     have K5 := hid (K3.out.below hb5)
     have R5 := hid (R3.out.below hb5)
     have D5 := hid (D3.out.below hb5)
     have M5 := hid (M3.out.below hb5)
     have B5 := hid (B3.out.trans ((hb5).mono B3.out.size))
     have HLV : Hid (w.heap.size + 1 < V3.heap.size) := R3.out.lt
     have HGB : Hid (w.heap.size + 1 < gb) := by have h1 := X5.out.lo; have h2 := R3.out.lt; show _ < _; omega
     clear hX hb5 K3 K4 R3 R4 D3 D4 M3 M4 B3 B4
     have m1 := M5.out.cell (j := 1) rfl
     by_cases hr : mr = 0
     ·subst hr
      have HSR0 : Hid (stR d = some ([], [])) := HSR.out
      have HC0 : Hid (stC d = 0) := by show _ = _; rw [HSS.out ([], []) HM.out HSR0.out, if_pos okT_nil]
      have HST : Hid (∀ v, Only (fun y => y = w.heap.size + 1) V v → StR v (fun _ => True) xa xn xc ya yn yc none 0 0 none 0 0 d ([], [])) := fun v ho => ⟨(X5.out.own.to ho (fun y hy e => by have h1 := (X5.out.own.lt hy).1; have h2 := HLV.out; omega)).dk (fun _ _ => trivial), (stR_nil v).nr, (stR_nil v).ir⟩
      have X5B := hid X5.out.box
      have s0 := X5B.out.cell (j := 0) rfl
      have s1 := X5B.out.cell (j := 1) rfl
      have s2 := X5B.out.cell (j := 2) rfl
      have s3 := X5B.out.cell (j := 3) rfl
      have s4 := X5B.out.cell (j := 4) rfl
      have hne : ¬ gb = w.heap.size + 1 := by have := HGB.out; omega
      have hne' : ¬ w.heap.size + 1 = gb := fun e => hne e.symm
      have r0 := R5.out.cell (j := 0) rfl
      have r1 := R5.out.cell (j := 1) rfl
      have r2 := R5.out.cell (j := 2) rfl
      have r3 := R5.out.cell (j := 3) rfl
      have r4 := R5.out.cell (j := 4) rfl
      have f0 := R5.out.free 0
      have f1 := R5.out.free 1
      have f2 := R5.out.free 2
      have f3 := R5.out.free 3
      have f4 := R5.out.free 4
      have RF := hid (((((R5.out.set 0 (.slice xa xn xc)).set 1 (.slice ya yn yc)).set 2 (.int .i64 mg)).set 3 (.slice none 0 0)).set 4 (.slice none 0 0))
      have oF : Hid (Only (fun y => y = w.heap.size + 1) V (((((V.setCell ⟨w.heap.size + 1, 0, none⟩ (.slice xa xn xc)).setCell ⟨w.heap.size + 1, 1, none⟩ (.slice ya yn yc)).setCell ⟨w.heap.size + 1, 2, none⟩ (.int .i64 mg)).setCell ⟨w.heap.size + 1, 3, none⟩ (.slice none 0 0)).setCell ⟨w.heap.size + 1, 4, none⟩ (.slice none 0 0))) := (((((only_set (R := fun y => y = w.heap.size + 1) (p := ⟨w.heap.size + 1, 0, none⟩) rfl _).trans (only_set (R := fun y => y = w.heap.size + 1) (p := ⟨w.heap.size + 1, 1, none⟩) rfl _)).trans (only_set (R := fun y => y = w.heap.size + 1) (p := ⟨w.heap.size + 1, 2, none⟩) rfl _)).trans (only_set (R := fun y => y = w.heap.size + 1) (p := ⟨w.heap.size + 1, 3, none⟩) rfl _)).trans (only_set (R := fun y => y = w.heap.size + 1) (p := ⟨w.heap.size + 1, 4, none⟩) rfl _))
      have BF := hid (B5.out.trans (oF.out.below B5.out.size (fun y hy e => by omega)))
      go_wp2
      try simp only [Exit.inBlock, Exit.then]
      refine bodyPost_ret (v := .tuple #[.agg #[.slice xa xn xc, .slice ya yn yc, .int .i64 mg, .slice none 0 0, .slice none 0 0], .int .i64 0]) ?_ rfl ?_
      ·exact results_sto rfl _ _ (w.heap.size + 1) rfl rfl (RF.out.cell (j := 0) rfl) (RF.out.cell (j := 1) rfl) (RF.out.cell (j := 2) rfl) (RF.out.cell (j := 3) rfl) (RF.out.cell (j := 4) rfl)
      ·exact HY.out _ ([], []) xa xn xc ya yn yc none 0 0 none 0 0 BF.out HC0.out HSR0.out (HST.out _ oF.out)
     ·have HSR0 : Hid (stR d = ldV d.sh 400 mr ([], [])) := by show _ = _; rw [HSR.out, if_neg hr]
      have x0 := K5.out.cell (j := 0) rfl
      have x1 := K5.out.cell (j := 1) rfl
      go_wp2_with fail
      refine (l06Load_any d HOK.out HDN.out HSM.out sa sn sc da dn dc 400 (fun y => y < w.heap.size) (fun _ => False) none 0 0 none 0 0 [] ([], []) mr V D5.out (fun y hy => ⟨by have h1 := B5.out.size; have h2 : y < w.heap.size := hy; omega, fun e => e⟩) (fun y e => e.elim) (lt_nil V _) rfl (by simp) (by simp)).mono ?_
      rintro e w7 ⟨ho, hcase⟩
      have hb := ho.below (B := V.heap.size) (Nat.le_refl _) (fun _ _ e => e)
      clear ho m1 x0 x1
      have K7 := hid (K5.out.below hb)
      have R7 := hid (R5.out.below hb)
      have D7 := hid (D5.out.below hb)
      have M7 := hid (M5.out.below hb)
      have B7 := hid (B5.out.trans ((hb).mono B5.out.size))
      have X7 := hid (X5.out.box.below hb)
      have O7 := hid (X5.out.own.below hb)
      have HGV : Hid (gb < V.heap.size) := X5.out.box.lt
      have s0 := X7.out.cell (j := 0) rfl
      have s1 := X7.out.cell (j := 1) rfl
      have s2 := X7.out.cell (j := 2) rfl
      have s3 := X7.out.cell (j := 3) rfl
      have s4 := X7.out.cell (j := 4) rfl
      have t0 := X7.out.free 0
      have t1 := X7.out.free 1
      have t2 := X7.out.free 2
      have t3 := X7.out.free 3
      have t4 := X7.out.free 4
      have hne : ¬ gb = w.heap.size + 1 := by have := HGB.out; omega
      have hne' : ¬ w.heap.size + 1 = gb := fun e => hne e.symm
      rcases hcase with ⟨hnone, rfl⟩ | ⟨s, P', na, nn, nc, pa, pn, pc, V', hsome, hlen, rfl, hP, hLT⟩
      ·have HC := hid (HS3.out HM.out (HSR0.out.trans hnone))
       clear hnone
       have ho : Only (fun y => y = gb) w7 ((w7.setCell ⟨gb, 3, none⟩ (.slice none 0 0)).setCell ⟨gb, 4, none⟩ (.slice none 0 0)) := (only_set (R := fun y => y = gb) (p := ⟨gb, 3, none⟩) rfl _).trans (only_set (R := fun y => y = gb) (p := ⟨gb, 4, none⟩) rfl _)
       have R8 := hid (R7.out.to ho (fun e => hne e.symm))
       have B8 := hid (B7.out.trans (ho.below B7.out.size (fun y hy e => by have := HGB.out; omega)))
       clear ho
       go_upto_region 13 with (fail)
       generalize ((w7.setCell ⟨gb, 3, none⟩ (.slice none 0 0)).setCell ⟨gb, 4, none⟩ (.slice none 0 0)) = V8 at *
       clear s0 s1 s2 s3 s4 t0 t1 t2 t3 t4
       have r0 := R8.out.cell (j := 0) rfl
       have r1 := R8.out.cell (j := 1) rfl
       have r2 := R8.out.cell (j := 2) rfl
       have r3 := R8.out.cell (j := 3) rfl
       have r4 := R8.out.cell (j := 4) rfl
       have f0 := R8.out.free 0
       have f1 := R8.out.free 1
       have f2 := R8.out.free 2
       have f3 := R8.out.free 3
       have f4 := R8.out.free 4
       have RF := hid (((((R8.out.set 0 (.slice none 0 0)).set 1 (.slice none 0 0)).set 2 (.int .i64 0)).set 3 (.slice none 0 0)).set 4 (.slice none 0 0))
       have oF : Hid (Only (fun y => y = w.heap.size + 1) V8 (((((V8.setCell ⟨w.heap.size + 1, 0, none⟩ (.slice none 0 0)).setCell ⟨w.heap.size + 1, 1, none⟩ (.slice none 0 0)).setCell ⟨w.heap.size + 1, 2, none⟩ (.int .i64 0)).setCell ⟨w.heap.size + 1, 3, none⟩ (.slice none 0 0)).setCell ⟨w.heap.size + 1, 4, none⟩ (.slice none 0 0))) := (((((only_set (R := fun y => y = w.heap.size + 1) (p := ⟨w.heap.size + 1, 0, none⟩) rfl _).trans (only_set (R := fun y => y = w.heap.size + 1) (p := ⟨w.heap.size + 1, 1, none⟩) rfl _)).trans (only_set (R := fun y => y = w.heap.size + 1) (p := ⟨w.heap.size + 1, 2, none⟩) rfl _)).trans (only_set (R := fun y => y = w.heap.size + 1) (p := ⟨w.heap.size + 1, 3, none⟩) rfl _)).trans (only_set (R := fun y => y = w.heap.size + 1) (p := ⟨w.heap.size + 1, 4, none⟩) rfl _))
       have BF := hid (B8.out.trans (oF.out.below B8.out.size (fun y hy e => by omega)))
       go_wp2
       try simp only [Exit.inBlock, Exit.then]
       refine bodyPost_ret (v := .tuple #[.agg #[.slice none 0 0, .slice none 0 0, .int .i64 0, .slice none 0 0, .slice none 0 0], .int .i64 3]) ?_ rfl ?_
       ·exact results_sto rfl _ _ (w.heap.size + 1) rfl rfl (RF.out.cell (j := 0) rfl) (RF.out.cell (j := 1) rfl) (RF.out.cell (j := 2) rfl) (RF.out.cell (j := 3) rfl) (RF.out.cell (j := 4) rfl)
       ·exact sc_no BF.out HC.out (by decide)
      ·have HSO : Hid (stR d = some s) := HSR0.out.trans hsome
       have HCS := hid (HSS.out s HM.out HSO.out)
       have HSE := hid (spOk_eq s.1)
       have ho : Hid (Only (fun y => y = gb) w7 ((w7.setCell ⟨gb, 3, none⟩ (.slice na nn nc)).setCell ⟨gb, 4, none⟩ (.slice pa pn pc))) := (only_set (R := fun y => y = gb) (p := ⟨gb, 3, none⟩) rfl _).trans (only_set (R := fun y => y = gb) (p := ⟨gb, 4, none⟩) rfl _)
       have hnrir := hLT.nrOff X7.out (fun u hu e => by obtain ⟨t, rfl⟩ := e; simp at hu) R7.out (fun u hu e => by obtain ⟨t, rfl⟩ := e; simp at hu) (fun y hy => by have h1 := (hP y hy).1; have h2 := HGV.out; have h3 := HGB.out; exact ⟨fun e => h1.elim id (fun h => by omega), fun e => h1.elim id (fun h => by omega)⟩) ho.out
       have NR8 := hid hnrir.1
       have IR8 := hid hnrir.2
       have HSZ : Hid (s.1.length ≤ 400) := (ldV_len d.sh 400 mr ([], []) s hsome).2
       have HSN : Hid (smallN s.1) := fun i hi => by have h1 := (ldV_sm d.sh 400 mr ([], []) s hsome).2.2 i (Nat.zero_le _) hi; omega
       have X8 := hid ((X7.out.set 3 (.slice na nn nc)).set 4 (.slice pa pn pc))
       have R8 := hid (R7.out.to ho.out (fun e => hne e.symm))
       have O8 := hid (O7.out.to ho.out (fun y hy e => X5.out.sep y hy e))
       have B8 := hid (B7.out.trans (ho.out.below B7.out.size (fun y hy e => by have := HGB.out; omega)))
       clear hsome hlen hP hLT hnrir
       go_upto_region 12 with (fail)
       generalize ((w7.setCell ⟨gb, 3, none⟩ (.slice na nn nc)).setCell ⟨gb, 4, none⟩ (.slice pa pn pc)) = V8 at *
       clear s0 s1 s2 s3 s4 t0 t1 t2 t3 t4 ho
       have s0 := X8.out.cell (j := 0) rfl
       have s1 := X8.out.cell (j := 1) rfl
       have s2 := X8.out.cell (j := 2) rfl
       have s3 := X8.out.cell (j := 3) rfl
       have s4 := X8.out.cell (j := 4) rfl
       go_wp2_with fail
       refine (specTreeOk_any s.1 (by have := HSZ.out; omega) HSN.out _ na nn nc _ NR8.out).mono ?_
       rintro e w9 ⟨rfl, hb9⟩
       clear s0 s1 s2 s3 s4
       have R9 := hid (R8.out.below hb9)
       have X9 := hid (X8.out.below hb9)
       have O9 := hid (O8.out.below hb9)
       have NR9 := hid (NR8.out.below hb9)
       have IR9 := hid (Rw.to IR8.out (only_of_below hb9 (fun _ => False)) (fun _ _ _ h => h))
       have B9 := hid (B8.out.trans (hb9.mono B8.out.size))
       rw [HSE.out]
       clear hb9
       cases hok : (okT s.1).isSome with
       | false =>
        have HC : Hid (stC d = 3) := by show _ = _; rw [HCS.out, hok]; rfl
        have r0 := R9.out.cell (j := 0) rfl
        have r1 := R9.out.cell (j := 1) rfl
        have r2 := R9.out.cell (j := 2) rfl
        have r3 := R9.out.cell (j := 3) rfl
        have r4 := R9.out.cell (j := 4) rfl
        have f0 := R9.out.free 0
        have f1 := R9.out.free 1
        have f2 := R9.out.free 2
        have f3 := R9.out.free 3
        have f4 := R9.out.free 4
        have RF := hid (((((R9.out.set 0 (.slice none 0 0)).set 1 (.slice none 0 0)).set 2 (.int .i64 0)).set 3 (.slice none 0 0)).set 4 (.slice none 0 0))
        have oF : Hid (Only (fun y => y = w.heap.size + 1) w9 (((((w9.setCell ⟨w.heap.size + 1, 0, none⟩ (.slice none 0 0)).setCell ⟨w.heap.size + 1, 1, none⟩ (.slice none 0 0)).setCell ⟨w.heap.size + 1, 2, none⟩ (.int .i64 0)).setCell ⟨w.heap.size + 1, 3, none⟩ (.slice none 0 0)).setCell ⟨w.heap.size + 1, 4, none⟩ (.slice none 0 0))) := (((((only_set (R := fun y => y = w.heap.size + 1) (p := ⟨w.heap.size + 1, 0, none⟩) rfl _).trans (only_set (R := fun y => y = w.heap.size + 1) (p := ⟨w.heap.size + 1, 1, none⟩) rfl _)).trans (only_set (R := fun y => y = w.heap.size + 1) (p := ⟨w.heap.size + 1, 2, none⟩) rfl _)).trans (only_set (R := fun y => y = w.heap.size + 1) (p := ⟨w.heap.size + 1, 3, none⟩) rfl _)).trans (only_set (R := fun y => y = w.heap.size + 1) (p := ⟨w.heap.size + 1, 4, none⟩) rfl _))
        have BF := hid (B9.out.trans (oF.out.below B9.out.size (fun y hy e => by omega)))
        go_wp2
        try simp only [Exit.inBlock, Exit.then]
        refine bodyPost_ret (v := .tuple #[.agg #[.slice none 0 0, .slice none 0 0, .int .i64 0, .slice none 0 0, .slice none 0 0], .int .i64 3]) ?_ rfl ?_
        ·exact results_sto rfl _ _ (w.heap.size + 1) rfl rfl (RF.out.cell (j := 0) rfl) (RF.out.cell (j := 1) rfl) (RF.out.cell (j := 2) rfl) (RF.out.cell (j := 3) rfl) (RF.out.cell (j := 4) rfl)
        ·exact sc_no BF.out HC.out (by decide)
       | true =>
        have HC : Hid (stC d = 0) := by show _ = _; rw [HCS.out, hok]; rfl
        have HST : Hid (∀ v, Only (fun y => y = w.heap.size + 1) w9 v → StR v (fun _ => True) xa xn xc ya yn yc na nn nc pa pn pc d s) := fun v ho => ⟨(O9.out.to ho (fun y hy e => by have h1 := (O9.out.lt hy).1; have h2 := HLV.out; omega)).dk (fun _ _ => trivial), (NR9.out.to ho (fun y hy _ e => hy e)).mono (fun _ _ _ => trivial), Rw.mono (Rw.to IR9.out ho (fun y hy _ e => hy e)) (fun _ _ _ => trivial)⟩
        have s0 := X9.out.cell (j := 0) rfl
        have s1 := X9.out.cell (j := 1) rfl
        have s2 := X9.out.cell (j := 2) rfl
        have s3 := X9.out.cell (j := 3) rfl
        have s4 := X9.out.cell (j := 4) rfl
        have r0 := R9.out.cell (j := 0) rfl
        have r1 := R9.out.cell (j := 1) rfl
        have r2 := R9.out.cell (j := 2) rfl
        have r3 := R9.out.cell (j := 3) rfl
        have r4 := R9.out.cell (j := 4) rfl
        have f0 := R9.out.free 0
        have f1 := R9.out.free 1
        have f2 := R9.out.free 2
        have f3 := R9.out.free 3
        have f4 := R9.out.free 4
        have RF := hid (((((R9.out.set 0 (.slice xa xn xc)).set 1 (.slice ya yn yc)).set 2 (.int .i64 mg)).set 3 (.slice na nn nc)).set 4 (.slice pa pn pc))
        have oF : Hid (Only (fun y => y = w.heap.size + 1) w9 (((((w9.setCell ⟨w.heap.size + 1, 0, none⟩ (.slice xa xn xc)).setCell ⟨w.heap.size + 1, 1, none⟩ (.slice ya yn yc)).setCell ⟨w.heap.size + 1, 2, none⟩ (.int .i64 mg)).setCell ⟨w.heap.size + 1, 3, none⟩ (.slice na nn nc)).setCell ⟨w.heap.size + 1, 4, none⟩ (.slice pa pn pc))) := (((((only_set (R := fun y => y = w.heap.size + 1) (p := ⟨w.heap.size + 1, 0, none⟩) rfl _).trans (only_set (R := fun y => y = w.heap.size + 1) (p := ⟨w.heap.size + 1, 1, none⟩) rfl _)).trans (only_set (R := fun y => y = w.heap.size + 1) (p := ⟨w.heap.size + 1, 2, none⟩) rfl _)).trans (only_set (R := fun y => y = w.heap.size + 1) (p := ⟨w.heap.size + 1, 3, none⟩) rfl _)).trans (only_set (R := fun y => y = w.heap.size + 1) (p := ⟨w.heap.size + 1, 4, none⟩) rfl _))
        have BF := hid (B9.out.trans (oF.out.below B9.out.size (fun y hy e => by omega)))
        go_wp2
        try simp only [Exit.inBlock, Exit.then]
        refine bodyPost_ret (v := .tuple #[.agg #[.slice xa xn xc, .slice ya yn yc, .int .i64 mg, .slice na nn nc, .slice pa pn pc], .int .i64 0]) ?_ rfl ?_
        ·exact results_sto rfl _ _ (w.heap.size + 1) rfl rfl (RF.out.cell (j := 0) rfl) (RF.out.cell (j := 1) rfl) (RF.out.cell (j := 2) rfl) (RF.out.cell (j := 3) rfl) (RF.out.cell (j := 4) rfl)
        ·exact HY.out _ s xa xn xc ya yn yc na nn nc pa pn pc BF.out HC.out HSO.out (HST.out _ oF.out)
   ·have HC := hid (HS2.out hm)
    rw [show decide (0 < mg) = false from decide_eq_false hm]
    clear hm
    go_upto_region 5 with (fail)
    generalize w2.alloc (.cells #[.int .i64 mg, .int .i64 mr] 61) = V3 at *
    generalize w2.heap.size = bm at *
    have r0 := R3.out.cell (j := 0) rfl
    have r1 := R3.out.cell (j := 1) rfl
    have r2 := R3.out.cell (j := 2) rfl
    have r3 := R3.out.cell (j := 3) rfl
    have r4 := R3.out.cell (j := 4) rfl
    have f0 := R3.out.free 0
    have f1 := R3.out.free 1
    have f2 := R3.out.free 2
    have f3 := R3.out.free 3
    have f4 := R3.out.free 4
    have RF := hid (((((R3.out.set 0 (.slice none 0 0)).set 1 (.slice none 0 0)).set 2 (.int .i64 0)).set 3 (.slice none 0 0)).set 4 (.slice none 0 0))
    have oF : Hid (Only (fun y => y = w.heap.size + 1) V3 (((((V3.setCell ⟨w.heap.size + 1, 0, none⟩ (.slice none 0 0)).setCell ⟨w.heap.size + 1, 1, none⟩ (.slice none 0 0)).setCell ⟨w.heap.size + 1, 2, none⟩ (.int .i64 0)).setCell ⟨w.heap.size + 1, 3, none⟩ (.slice none 0 0)).setCell ⟨w.heap.size + 1, 4, none⟩ (.slice none 0 0))) := (((((only_set (R := fun y => y = w.heap.size + 1) (p := ⟨w.heap.size + 1, 0, none⟩) rfl _).trans (only_set (R := fun y => y = w.heap.size + 1) (p := ⟨w.heap.size + 1, 1, none⟩) rfl _)).trans (only_set (R := fun y => y = w.heap.size + 1) (p := ⟨w.heap.size + 1, 2, none⟩) rfl _)).trans (only_set (R := fun y => y = w.heap.size + 1) (p := ⟨w.heap.size + 1, 3, none⟩) rfl _)).trans (only_set (R := fun y => y = w.heap.size + 1) (p := ⟨w.heap.size + 1, 4, none⟩) rfl _))
    have BF := hid (B3.out.trans (oF.out.below B3.out.size (fun y hy e => by omega)))
    go_wp2
    try simp only [Exit.inBlock, Exit.then]
    refine bodyPost_ret (v := .tuple #[.agg #[.slice none 0 0, .slice none 0 0, .int .i64 0, .slice none 0 0, .slice none 0 0], .int .i64 2]) ?_ rfl ?_
    ·exact results_sto rfl _ _ (w.heap.size + 1) rfl rfl (RF.out.cell (j := 0) rfl) (RF.out.cell (j := 1) rfl) (RF.out.cell (j := 2) rfl) (RF.out.cell (j := 3) rfl) (RF.out.cell (j := 4) rfl)
    ·exact sc_no BF.out HC.out (by decide)
open Go.RowKit
set_option linter.unusedVariables false
theorem offS_le512 {ss : List (List Int)} (h : ∀ i, i < ss.length → (shAt ss i).length ≤ 512) : ∀ n, n ≤ ss.length → offS ss n ≤ n * 512
 | 0, _ => Nat.le_refl _
 | n + 1, hn => by
  have h1 := offS_le512 h n (by omega)
  have h2 := h n (by omega)
  rw [offS]
  omega
theorem ldK_two {F : Int → LS → Option LS} (hF : ∀ t s s', s.2.length = s.1.length → F t s = some s' → s'.2.length = s'.1.length) (me : Nat) : ∀ (ks : List Int) (s s' : LS), s.2.length = s.1.length → ldK F me ks s = some s' → s'.2.length = s'.1.length
 | [], s, s', h0, h => by
  have e : s = s' := Option.some.inj h
  rw [← e]
  exact h0
 | k :: ks, s, s', h0, h => by
  rw [ldK] at h
  cases e : F k (addK s.1 me (s.1.length : Int), s.2) with
  | none => rw [e] at h; cases h
  | some s1 =>
   rw [e] at h
   exact ldK_two hF me ks s1 s' (hF _ _ _ (by rw [addK_len]; exact h0) e) h
theorem ldV_two (ss : List (List Int)) : ∀ f t s s', s.2.length = s.1.length → ldV ss f t s = some s' → s'.2.length = s'.1.length
 | 0, t, s, s', h0, h => by
  unfold ldV at h
  cases h
 | f + 1, t, s, s', h0, h => by
  cases hp : pgAt ss t with
  | none => rw [ldV_page hp] at h; cases h
  | some p =>
   by_cases hb : t ∈ s.2 ∨ 400 ≤ s.1.length
   ·rw [ldV_bad hb] at h; cases h
   ·rw [ldV_go hp hb] at h
    exact ldK_two (ldV_two ss f) s.1.length p.kids _ s' (by simp [h0]) h
theorem st_bounds {d : DK} (hsm : smallD d) : smallD (stD d) ∧ dkTot (stD d) ≤ 900000 ∧ smallK (stL d).1 ∧ (stL d).1.length ≤ 400 ∧ (stL d).2.length = (stL d).1.length := by
 refine ⟨(stD_small hsm).1, ?_, ?_⟩
 ·unfold stD
  split
  ·rename_i hc
   obtain ⟨h1, h2⟩ := stC_ok hc
   have hw : d.dw = [] := List.eq_nil_of_length_eq_zero h2
   simp only [dkOk, Bool.and_eq_true, decide_eq_true_eq] at h1
   have hs : ∀ i, i < d.sh.length → (shAt d.sh i).length ≤ 512 := fun i hi => by
    have := (shtOk_iff _).1 ((allD_at []).1 h1.1.2 i hi)
    show (d.sh[i]?.getD []).length ≤ 512
    omega
   have := offS_le512 hs d.sh.length (Nat.le_refl _)
   unfold dkTot
   rw [hw]
   show _ + 0 ≤ _
   omega
  ·show 0 ≤ _
   omega
 ·unfold stL
  split
  ·rename_i hc
   unfold stR
   split
   ·exact ⟨fun i hi => by simp at hi, by simp, rfl⟩
   ·cases e : ldV d.sh 400 (bestM d 2).2 ([], []) with
    | none => exact ⟨fun i hi => by simp at hi, by simp, rfl⟩
    | some s =>
     refine ⟨fun i hi => ?_, ?_, ldV_two d.sh 400 _ _ _ rfl e⟩
     ·have := (ldV_sm d.sh 400 _ _ _ e).2.2 i (Nat.zero_le _) hi
      show (nAt s.1 i).ps.length ≤ _ ∧ (nAt s.1 i).keys.length ≤ _ ∧ (nAt s.1 i).kids.length ≤ _
      omega
     ·have := (ldV_len d.sh 400 _ _ _ e).2
      show s.1.length ≤ _
      omega
  ·exact ⟨fun i hi => by simp at hi, by simp, rfl⟩
theorem StR.lt {w : World} {xa : Option Addr} {xn xc : Nat} {ya : Option Addr} {yn yc : Nat} {na : Option Addr} {nn nc : Nat} {pa : Option Addr} {pn pc : Nat} {d : DK} {s : LS} (h : StR w (fun _ => True) xa xn xc ya yn yc na nn nc pa pn pc d s) : StR w (fun y => y < w.heap.size) xa xn xc ya yn yc na nn nc pa pn pc d s := ⟨h.dk.mono (fun b _ hb => hb), h.nr.mono (fun b _ hb => hb), Rw.mono h.ir (fun b _ hb => hb)⟩
structure StA (v : World) (b B : Nat) (xa : Option Addr) (xn xc : Nat) (ya : Option Addr) (yn yc : Nat) (na : Option Addr) (nn nc : Nat) (pa : Option Addr) (pn pc : Nat) (g : Int) (d : DK) (s : LS) : Prop where
 box : Bk v b 36 [.slice xa xn xc, .slice ya yn yc, .int .i64 g, .slice na nn nc, .slice pa pn pc]
 rd : StR v (fun y => y < B) xa xn xc ya yn yc na nn nc pa pn pc d s
theorem StA.new {v : World} {xa : Option Addr} {xn xc : Nat} {ya : Option Addr} {yn yc : Nat} {na : Option Addr} {nn nc : Nat} {pa : Option Addr} {pn pc : Nat} {g : Int} {d : DK} {s : LS} (h : StR v (fun y => y < v.heap.size) xa xn xc ya yn yc na nn nc pa pn pc d s) : StA (v.alloc (.cells #[.slice xa xn xc, .slice ya yn yc, .int .i64 g, .slice na nn nc, .slice pa pn pc] 36)) v.heap.size v.heap.size xa xn xc ya yn yc na nn nc pa pn pc g d s := ⟨Bk.new v _ [.slice xa xn xc, .slice ya yn yc, .int .i64 g, .slice na nn nc, .slice pa pn pc], h.below (below_new (Below.refl _ _))⟩
theorem StA.below {v v' : World} {b B : Nat} {xa : Option Addr} {xn xc : Nat} {ya : Option Addr} {yn yc : Nat} {na : Option Addr} {nn nc : Nat} {pa : Option Addr} {pn pc : Nat} {g : Int} {d : DK} {s : LS} (h : StA v b B xa xn xc ya yn yc na nn nc pa pn pc g d s) (hb : Below v.heap.size v v') : StA v' b B xa xn xc ya yn yc na nn nc pa pn pc g d s := ⟨h.box.below hb, h.rd.below hb⟩
theorem StA.to {v v' : World} {R : Nat → Prop} {b B : Nat} {xa : Option Addr} {xn xc : Nat} {ya : Option Addr} {yn yc : Nat} {na : Option Addr} {nn nc : Nat} {pa : Option Addr} {pn pc : Nat} {g : Int} {d : DK} {s : LS} (h : StA v b B xa xn xc ya yn yc na nn nc pa pn pc g d s) (ho : Only R v v') (hb : ¬ R b) (hR : ∀ y, y < B → ¬ R y) : StA v' b B xa xn xc ya yn yc na nn nc pa pn pc g d s := ⟨h.box.to ho hb, ⟨h.rd.dk.to ho (fun y hy _ => hR y hy), h.rd.nr.to ho (fun y hy _ => hR y hy), Rw.to h.rd.ir ho (fun y hy _ => hR y hy)⟩⟩
theorem StA.cells {v : World} {b B : Nat} {xa : Option Addr} {xn xc : Nat} {ya : Option Addr} {yn yc : Nat} {na : Option Addr} {nn nc : Nat} {pa : Option Addr} {pn pc : Nat} {g : Int} {d : DK} {s : LS} (h : StA v b B xa xn xc ya yn yc na nn nc pa pn pc g d s) : v.cell? ⟨b, 0, none⟩ = some (.slice xa xn xc) ∧ v.cell? ⟨b, 1, none⟩ = some (.slice ya yn yc) ∧ v.cell? ⟨b, 2, none⟩ = some (.int .i64 g) ∧ v.cell? ⟨b, 3, none⟩ = some (.slice na nn nc) ∧ v.cell? ⟨b, 4, none⟩ = some (.slice pa pn pc) := ⟨h.box.cell (j := 0) rfl, h.box.cell (j := 1) rfl, h.box.cell (j := 2) rfl, h.box.cell (j := 3) rfl, h.box.cell (j := 4) rfl⟩
structure StG (v : World) (b B : Nat) (xa : Option Addr) (xn xc : Nat) (ya : Option Addr) (yn yc : Nat) (na : Option Addr) (nn nc : Nat) (pa : Option Addr) (pn pc : Nat) (g : Int) (Vd : List Value) (Ud : List (Int × Value)) (V : List V3) (d : DK) (s : LS) : Prop where
 box : Bk v b 36 [.slice xa xn xc, .slice ya yn yc, .int .i64 g, .slice na nn nc, .slice pa pn pc]
 own : StO v B xa xn xc ya yn yc na nn nc pa pn pc Vd Ud V d s
 sep : ∀ y, stb xa xn xc ya yn yc na nn nc pa pn pc Vd Ud V s y → y < b
theorem StG.new {v : World} {B : Nat} {xa : Option Addr} {xn xc : Nat} {ya : Option Addr} {yn yc : Nat} {na : Option Addr} {nn nc : Nat} {pa : Option Addr} {pn pc : Nat} {g : Int} {Vd : List Value} {Ud : List (Int × Value)} {V : List V3} {d : DK} {s : LS} (h : StO v B xa xn xc ya yn yc na nn nc pa pn pc Vd Ud V d s) : StG (v.alloc (.cells #[.slice xa xn xc, .slice ya yn yc, .int .i64 g, .slice na nn nc, .slice pa pn pc] 36)) v.heap.size B xa xn xc ya yn yc na nn nc pa pn pc g Vd Ud V d s := ⟨Bk.new v _ [.slice xa xn xc, .slice ya yn yc, .int .i64 g, .slice na nn nc, .slice pa pn pc], h.below (below_new (Below.refl _ _)), fun y hy => (h.lt hy).2⟩
theorem StG.below {v v' : World} {b B : Nat} {xa : Option Addr} {xn xc : Nat} {ya : Option Addr} {yn yc : Nat} {na : Option Addr} {nn nc : Nat} {pa : Option Addr} {pn pc : Nat} {g : Int} {Vd : List Value} {Ud : List (Int × Value)} {V : List V3} {d : DK} {s : LS} (h : StG v b B xa xn xc ya yn yc na nn nc pa pn pc g Vd Ud V d s) (hb : Below v.heap.size v v') : StG v' b B xa xn xc ya yn yc na nn nc pa pn pc g Vd Ud V d s := ⟨h.box.below hb, h.own.below hb, h.sep⟩
theorem StG.to {v v' : World} {R : Nat → Prop} {b B : Nat} {xa : Option Addr} {xn xc : Nat} {ya : Option Addr} {yn yc : Nat} {na : Option Addr} {nn nc : Nat} {pa : Option Addr} {pn pc : Nat} {g : Int} {Vd : List Value} {Ud : List (Int × Value)} {V : List V3} {d : DK} {s : LS} (h : StG v b B xa xn xc ya yn yc na nn nc pa pn pc g Vd Ud V d s) (ho : Only R v v') (hb : ¬ R b) (hR : ∀ y, stb xa xn xc ya yn yc na nn nc pa pn pc Vd Ud V s y → ¬ R y) : StG v' b B xa xn xc ya yn yc na nn nc pa pn pc g Vd Ud V d s := ⟨h.box.to ho hb, h.own.to ho hR, h.sep⟩
theorem StG.here {v : World} {b B : Nat} {xa : Option Addr} {xn xc : Nat} {ya : Option Addr} {yn yc : Nat} {na : Option Addr} {nn nc : Nat} {pa : Option Addr} {pn pc : Nat} {g : Int} {Vd : List Value} {Ud : List (Int × Value)} {V : List V3} {d : DK} {s : LS} (h : StG v b B xa xn xc ya yn yc na nn nc pa pn pc g Vd Ud V d s) {y : Nat} (hy : stb xa xn xc ya yn yc na nn nc pa pn pc Vd Ud V s y) : B ≤ y ∧ y < b := ⟨(h.own.lt hy).1, h.sep y hy⟩
theorem StG.cells {v : World} {b B : Nat} {xa : Option Addr} {xn xc : Nat} {ya : Option Addr} {yn yc : Nat} {na : Option Addr} {nn nc : Nat} {pa : Option Addr} {pn pc : Nat} {g : Int} {Vd : List Value} {Ud : List (Int × Value)} {V : List V3} {d : DK} {s : LS} (h : StG v b B xa xn xc ya yn yc na nn nc pa pn pc g Vd Ud V d s) : v.cell? ⟨b, 0, none⟩ = some (.slice xa xn xc) ∧ v.cell? ⟨b, 1, none⟩ = some (.slice ya yn yc) ∧ v.cell? ⟨b, 2, none⟩ = some (.int .i64 g) ∧ v.cell? ⟨b, 3, none⟩ = some (.slice na nn nc) ∧ v.cell? ⟨b, 4, none⟩ = some (.slice pa pn pc) := ⟨h.box.cell (j := 0) rfl, h.box.cell (j := 1) rfl, h.box.cell (j := 2) rfl, h.box.cell (j := 3) rfl, h.box.cell (j := 4) rfl⟩
structure StM (v : World) (b : Nat) (xa : Option Addr) (xn xc : Nat) (ya : Option Addr) (yn yc : Nat) (na : Option Addr) (nn nc : Nat) (pa : Option Addr) (pn pc : Nat) (g : Int) (Vd : List Value) (Ud : List (Int × Value)) (V : List V3) (d : DK) (s : LS) (k : Nat) : Prop where
 box : Bk v b 36 [.slice xa xn xc, .slice ya yn yc, .int .i64 g, .slice na nn nc, .slice pa pn pc]
 own : StQ v xa xn xc ya yn yc na nn nc pa pn pc Vd Ud V d s k
theorem StM.below {v v' : World} {b : Nat} {xa : Option Addr} {xn xc : Nat} {ya : Option Addr} {yn yc : Nat} {na : Option Addr} {nn nc : Nat} {pa : Option Addr} {pn pc : Nat} {g : Int} {Vd : List Value} {Ud : List (Int × Value)} {V : List V3} {d : DK} {s : LS} {k : Nat} (h : StM v b xa xn xc ya yn yc na nn nc pa pn pc g Vd Ud V d s k) (hb : Below v.heap.size v v') : StM v' b xa xn xc ya yn yc na nn nc pa pn pc g Vd Ud V d s k := ⟨h.box.below hb, h.own.below hb⟩
theorem StM.cells {v : World} {b : Nat} {xa : Option Addr} {xn xc : Nat} {ya : Option Addr} {yn yc : Nat} {na : Option Addr} {nn nc : Nat} {pa : Option Addr} {pn pc : Nat} {g : Int} {Vd : List Value} {Ud : List (Int × Value)} {V : List V3} {d : DK} {s : LS} {k : Nat} (h : StM v b xa xn xc ya yn yc na nn nc pa pn pc g Vd Ud V d s k) : v.cell? ⟨b, 0, none⟩ = some (.slice xa xn xc) ∧ v.cell? ⟨b, 1, none⟩ = some (.slice ya yn yc) ∧ v.cell? ⟨b, 2, none⟩ = some (.int .i64 g) ∧ v.cell? ⟨b, 3, none⟩ = some (.slice na nn nc) ∧ v.cell? ⟨b, 4, none⟩ = some (.slice pa pn pc) := ⟨h.box.cell (j := 0) rfl, h.box.cell (j := 1) rfl, h.box.cell (j := 2) rfl, h.box.cell (j := 3) rfl, h.box.cell (j := 4) rfl⟩
set_option maxHeartbeats 16000000 in
set_option maxRecDepth 20000 in
theorem lawStoreOpen_walk (sa : Option Addr) (sn sc : Nat) (da : Option Addr) (dn dc : Nat) (d : DK) (w : World) (h : Dk w (fun _ => True) sa sn sc da dn dc d) (he : Err w 0) (he2 : Err w 1) (he3 : Err w 2) (_e4 : Err w 3) (_l1 : 0 < w.heap.size) (_l2 : 1 < w.heap.size) (_l3 : 2 < w.heap.size) (_l4 : 3 < w.heap.size) :
  Calls Tryz.prog 3 #[.agg #[.slice sa sn sc, .slice da dn dc]] w fun e w' => e = .returned (.bool true) ∧ Below w.heap.size w w' := by
 have X0 := hid (DX.start h)
 have NS := hid h.hs.len.1
 have ND := hid h.hd.len.1
 have HE := hid he
 have HE2 := hid he2
 have HE3 := hid he3
 clear h he he2 he3 _e4 _l1 _l2 _l3 _l4
 go_enter Tryz.func3, Tryz.ntmps3
 go_wp2_with fail
 refine (szDisk_any _ sa sn sc da dn dc d _ X0.out.hA).mono ?_
 generalize w.alloc (.cells #[.slice sa sn sc, .slice da dn dc] 25) = U at *
 rintro e w1 ⟨⟨x, rfl, hx1, hx2, hx3⟩, hb⟩
 have X1 := hid (X0.out.below hb)
 have HX := hid hx3
 clear hb hx3 X0
 by_cases hneg : x < 0
 ·go_wp2
  go_ret
  exact ⟨rfl, X1.out.bel⟩
 ·have HSM := hid (small_of_sum (HX.out (by omega))).1
  have HTO := hid (tot_of_sum (HX.out (by omega)))
  have m0 : sn ≤ 1048576 := by rw [NS.out]; exact (small_of_sum (HX.out (by omega))).2.1
  have m1 : dn ≤ 1048576 := by rw [ND.out]; exact (small_of_sum (HX.out (by omega))).2.2
  clear HX
  have HSP : Hid (∀ (v : World) g0 g1 V Uu B, DO v B (.slice (some ⟨g0, 0, none⟩) sn sn) V (.slice (some ⟨g1, 0, none⟩) dn dn) Uu d → Calls Tryz.prog 7 #[.agg #[.slice (some ⟨g0, 0, none⟩) sn sn, .slice (some ⟨g1, 0, none⟩) dn dn]] v fun e w' => ∃ Axa Axn Axc Aya Ayn Ayc Ana Ann Anc Apa Apn Apc, e = .returned (.tuple #[.agg #[.slice Axa Axn Axc, .slice Aya Ayn Ayc, .int .i64 (stG d), .slice Ana Ann Anc, .slice Apa Apn Apc], .int .i64 (stC d)]) ∧ StR w' (fun y => y < w'.heap.size) Axa Axn Axc Aya Ayn Ayc Ana Ann Anc Apa Apn Apc (stD d) (stL d) ∧ Below v.heap.size v w') := fun v g0 g1 V Uu B hO => (specStoreOpen_any (fun _ => True) _ _ _ _ _ _ d v (hO.dk (fun _ _ => trivial)) HSM.out m0 m1).mono (by
   rintro e w' ⟨hb, Axa, Axn, Axc, Aya, Ayn, Ayc, Ana, Ann, Anc, Apa, Apn, Apc, rfl, hR⟩
   exact ⟨Axa, Axn, Axc, Aya, Ayn, Ayc, Ana, Ann, Anc, Apa, Apn, Apc, rfl, hR.lt, hb⟩)
  have HIM : Hid (∀ (v : World) g0 g1 V Uu B, DO v B (.slice (some ⟨g0, 0, none⟩) sn sn) V (.slice (some ⟨g1, 0, none⟩) dn dn) Uu d → Below w.heap.size w v → Calls Tryz.prog 9 #[.agg #[.slice (some ⟨g0, 0, none⟩) sn sn, .slice (some ⟨g1, 0, none⟩) dn dn]] v fun e w' => ∃ Gxa Gxn Gxc Gya Gyn Gyc Gna Gnn Gnc Gpa Gpn Gpc VG UG VN, e = .returned (.tuple #[.agg #[.slice Gxa Gxn Gxc, .slice Gya Gyn Gyc, .int .i64 (stG d), .slice Gna Gnn Gnc, .slice Gpa Gpn Gpc], .int .i64 (stC d)]) ∧ StO w' v.heap.size Gxa Gxn Gxc Gya Gyn Gyc Gna Gnn Gnc Gpa Gpn Gpc VG UG VN (stD d) (stL d) ∧ Below v.heap.size v w') := fun v g0 g1 V Uu B hO hw => (implStoreOpen_any (fun _ => True) _ _ _ _ _ _ d v (hO.dk (fun _ _ => trivial)) HSM.out (HE.out.below hw HE.out.lt) (HE2.out.below hw HE2.out.lt) (HE3.out.below hw HE3.out.lt)).mono (by
   rintro e w' ⟨hb, Gxa, Gxn, Gxc, Gya, Gyn, Gyc, VG, UG, Gna, Gnn, Gnc, Gpa, Gpn, Gpc, VN, rfl, h1, h2, h3⟩
   exact ⟨Gxa, Gxn, Gxc, Gya, Gyn, Gyc, Gna, Gnn, Gnc, Gpa, Gpn, Gpc, VG, UG, VN, rfl, ⟨h1, h2, h3⟩, hb⟩)
  have HAS := hid (st_bounds HSM.out)
  clear HE HE2 HE3
  generalize stD d = dd at *
  generalize stL d = ss at *
  generalize stG d = gg at *
  generalize stC d = cd at *
  have hcd : (cd != cd) = false := by simp
  have HS2 := hid HAS.out.1
  have HT2 := hid HAS.out.2.1
  have HSK := hid HAS.out.2.2.1
  have HSL := hid HAS.out.2.2.2.1
  have HSP2 := hid HAS.out.2.2.2.2
  clear HAS
  obtain ⟨x0, x1⟩ := X1.out.cells
  go_wp2_with fail
  refine (toDisk_any _ sa sn sc da dn dc d _ X1.out.hA m0 m1 HSM.out).mono ?_
  rintro e w2 ⟨g0, g1, V, Uu, rfl, hO, hb⟩
  have X2 := hid (X1.out.below hb)
  have C2 := hid hO
  clear hb X1 hO x0 x1
  go_wp2_with fail
  refine (HSP.out _ _ _ _ _ _ C2.out).mono ?_
  rintro e w3 ⟨Axa, Axn, Axc, Aya, Ayn, Ayc, Ana, Ann, Anc, Apa, Apn, Apc, rfl, hO, hb⟩
  have hb2 := bt5 hb (below_new (o := .cells #[.slice Axa Axn Axc, .slice Aya Ayn Ayc, .int .i64 gg, .slice Ana Ann Anc, .slice Apa Apn Apc] 36) (w := w3) (Below.refl _ _))
  have X3 := hid (X2.out.below hb2)
  have A3 := hid (StA.new (g := gg) hO)
  have W3S : Hid (w3.heap.size ≤ (w3.alloc (.cells #[.slice Axa Axn Axc, .slice Aya Ayn Ayc, .int .i64 gg, .slice Ana Ann Anc, .slice Apa Apn Apc] 36)).heap.size) := by show _ ≤ _; simp
  clear hb hb2 X2 C2 hO HSP
  obtain ⟨x0, x1⟩ := X3.out.cells
  go_wp2_with fail
  refine (toDisk_any _ sa sn sc da dn dc d _ X3.out.hA m0 m1 HSM.out).mono ?_
  generalize w3.alloc (.cells #[.slice Axa Axn Axc, .slice Aya Ayn Ayc, .int .i64 gg, .slice Ana Ann Anc, .slice Apa Apn Apc] 36) = u3 at *
  generalize w3.heap.size = bA at *
  rintro e w4 ⟨h0, h1, V4, U4, rfl, hO, hb⟩
  have hb2 := bt5 hb (below_new (o := .cells #[.slice (some ⟨h0, 0, none⟩) sn sn, .slice (some ⟨h1, 0, none⟩) dn dn] 30) (w := w4) (Below.refl _ _))
  have X5 := hid (X3.out.below hb2)
  have A5 := hid (A3.out.below hb2)
  have D5 := hid (DB.new hO)
  have SA : Hid (bA < u3.heap.size ∧ w.heap.size < u3.heap.size) := ⟨A3.out.box.lt, X3.out.kA.lt⟩
  have S3 : Hid (bA ≤ u3.heap.size) := W3S.out
  clear hb hb2 hO X3 x0 x1 A3 W3S
  go_wp2_with fail
  refine (HIM.out _ _ _ _ _ _ D5.out.own X5.out.bel).mono ?_
  generalize w4.alloc (.cells #[.slice (some ⟨h0, 0, none⟩) sn sn, .slice (some ⟨h1, 0, none⟩) dn dn] 30) = u5 at *
  generalize w4.heap.size = bX at *
  rintro e w6 ⟨Gxa, Gxn, Gxc, Gya, Gyn, Gyc, Gna, Gnn, Gnc, Gpa, Gpn, Gpc, VG, UG, VN, rfl, hO, hb⟩
  have hb2 := bt5 hb (below_new (o := .cells #[.slice Gxa Gxn Gxc, .slice Gya Gyn Gyc, .int .i64 gg, .slice Gna Gnn Gnc, .slice Gpa Gpn Gpc] 36) (w := w6) (Below.refl _ _))
  have X6 := hid (X5.out.below hb2)
  have A6 := hid (A5.out.below hb2)
  have D6 := hid (D5.out.below hb2)
  have G6 := hid (StG.new (g := gg) hO)
  have SX : Hid (bX < u5.heap.size) := D5.out.box.lt
  have SU : Hid (u3.heap.size ≤ u5.heap.size) := by have h1 := D5.out.here (y := h0) (.inl (.inl rfl)); have h2 := D5.out.box.lt; show _ ≤ _; omega
  have SG : Hid (u5.heap.size ≤ w6.heap.size) := hb.size
  clear hb hb2 hO X5 A5 D5
  obtain ⟨x0, x1, x2, x3, x4⟩ := A6.out.cells
  obtain ⟨y0, y1, y2, y3, y4⟩ := G6.out.cells
  go_wp2_with fail
  refine (eqStore_same _ _ Gxa Gxn Gxc Gya Gyn Gyc Gna Gnn Gnc Gpa Gpn Gpc Axa Axn Axc Aya Ayn Ayc Ana Ann Anc Apa Apn Apc gg dd ss _ G6.out.own.rd A6.out.rd HS2.out).mono ?_
  generalize w6.alloc (.cells #[.slice Gxa Gxn Gxc, .slice Gya Gyn Gyc, .int .i64 gg, .slice Gna Gnn Gnc, .slice Gpa Gpn Gpc] 36) = u6 at *
  generalize w6.heap.size = bG at *
  rintro e w7 ⟨rfl, hb⟩
  have X7 := hid (X6.out.below hb)
  have A7 := hid (A6.out.below hb)
  have D7 := hid (D6.out.below hb)
  have G7 := hid (G6.out.below hb)
  clear hb X6 A6 D6 G6 x0 x1 x2 x3 x4 y0 y1 y2 y3 y4
  obtain ⟨x0, x1⟩ := X7.out.cells
  obtain ⟨y0, y1⟩ := D7.out.cells
  have X8 := hid (X7.out.below (below_drew _))
  have A8 := hid (A7.out.below (below_drew _))
  have D8 := hid (D7.out.below (below_drew _))
  have G8 := hid (G7.out.below (below_drew _))
  clear X7 A7 G7
  go_wp2_with fail
  go_cut [45] (fun x v => x = .bool false ∧ DX w v sa sn sc da dn dc d ∧ StA v bA bA Axa Axn Axc Aya Ayn Ayc Ana Ann Anc Apa Apn Apc gg dd ss ∧ DB v bX u3.heap.size (some ⟨h0, 0, none⟩) sn sn (some ⟨h1, 0, none⟩) dn dn V4 U4 d ∧ StG v bG u5.heap.size Gxa Gxn Gxc Gya Gyn Gyc Gna Gnn Gnc Gpa Gpn Gpc gg VG UG VN dd ss)
  case first =>
   go_region_with (first
    | (go_at_call 8; refine (toDisk_any _ sa sn sc da dn dc d _ X8.out.hA m0 m1 HSM.out).mono ?_; rintro e w8 ⟨f0, f1, V8, U8, rfl, hO8, hb8⟩; have z0 := (D8.out.below hb8).cells.1; have z1 := (D8.out.below hb8).cells.2)
    | (go_at_call 11; refine (eqDisk_any (fun _ => True) (fun _ => True) _ _ _ _ _ _ d _ _ _ _ _ _ d _ (D8.out.below hb8).dk (hO8.dk (S := fun _ => True) (fun _ _ => trivial)) HSM.out HSM.out).mono ?_; rintro e w9 ⟨rfl, hb9⟩))
   all_goals (go_wp2_with fail; go_meet)
   all_goals exact ⟨by simp, (X8.out.below hb8).below hb9, (A8.out.below hb8).below hb9, (D8.out.below hb8).below hb9, (G8.out.below hb8).below hb9⟩
  case rest =>
   obtain ⟨rfl, hX, hA, hD, hG⟩ := hcut
   have X9 := hid hX
   have A9 := hid hA
   have D9 := hid hD
   have G9 := hid hG
   clear hX hA hD hG D7 X8 A8 D8 G8 x0 x1 y0 y1
   obtain ⟨y0, y1⟩ := D9.out.cells
   go_wp2_with fail
   refine (markDisk_ex _ _ _ _ _ _ _ 1 V4 U4 d _ D9.out.own HTO.out (by omega) (by omega)).mono ?_
   rintro e w10 ⟨rfl, -, ho⟩
   have hsx : ∀ y, dbl (.slice (some ⟨h0, 0, none⟩) sn sn) V4 (.slice (some ⟨h1, 0, none⟩) dn dn) U4 y → u3.heap.size ≤ y ∧ y < u5.heap.size := fun y hy => by have h1 := D9.out.here hy; have h2 := SX.out; omega
   have X10 := hid (X9.out.only ho (fun b hb => by have h1 := hsx b hb; have h2 := SA.out; omega))
   have A10 := hid (A9.out.to ho (fun e => by have h1 := hsx _ e; have h2 := SA.out; omega) (fun y hy e => by have h1 := hsx y e; have h3 := S3.out; omega))
   have G10 := hid (G9.out.to ho (fun e => by have h1 := hsx _ e; have h2 := SG.out; omega) (fun y hy e => by have h1 := hsx y e; have h2 := G9.out.here hy; omega))
   clear ho hsx X9 A9 D9 G9 y0 y1
   have hkn : ¬ ((1 + dkTot d : Nat) : Int) < 0 := by omega
   generalize 1 + dkTot d = kk at *
   obtain ⟨x0, x1, x2, x3, x4⟩ := A10.out.cells
   obtain ⟨y0, y1, y2, y3, y4⟩ := G10.out.cells
   go_wp2_with fail
   refine (eqStore_same _ _ Gxa Gxn Gxc Gya Gyn Gyc Gna Gnn Gnc Gpa Gpn Gpc Axa Axn Axc Aya Ayn Ayc Ana Ann Anc Apa Apn Apc gg dd ss _ G10.out.own.rd A10.out.rd HS2.out).mono ?_
   rintro e w11 ⟨rfl, hb⟩
   have X11 := hid (X10.out.below hb)
   have A11 := hid (A10.out.below hb)
   have G11 := hid (G10.out.below hb)
   clear hb X10 A10 G10 x0 x1 x2 x3 x4 y0 y1 y2 y3 y4
   obtain ⟨y0, y1, y2, y3, y4⟩ := G11.out.cells
   go_wp2_with fail
   refine (markStore_ex _ Gxa Gxn Gxc Gya Gyn Gyc Gna Gnn Gnc Gpa Gpn Gpc gg VG UG VN dd ss 1 _ G11.out.own HT2.out HSK.out (by have := HSL.out; omega) (by omega) (by omega)).mono ?_
   rintro e w12 ⟨rfl, hm, ho⟩
   have hsg : ∀ y, stb Gxa Gxn Gxc Gya Gyn Gyc Gna Gnn Gnc Gpa Gpn Gpc VG UG VN ss y → u5.heap.size ≤ y ∧ y < bG := fun y hy => G11.out.here hy
   have Q12 : Hid (StM w12 bG Gxa Gxn Gxc Gya Gyn Gyc Gna Gnn Gnc Gpa Gpn Gpc gg VG UG VN dd ss 1) := ⟨G11.out.box.to ho (fun e => absurd (hsg _ e).2 (Nat.lt_irrefl _)), hm⟩
   have S35 : u3.heap.size ≤ u5.heap.size := SU.out
   have X12 := hid (X11.out.only ho (fun b hb => by have h1 := hsg b hb; have h2 := SA.out; omega))
   have A12 := hid (A11.out.to ho (fun e => by have h1 := hsg _ e; have h2 := SA.out; omega) (fun y hy e => by have h1 := hsg y e; have h3 := S3.out; omega))
   clear hm ho hsg X11 A11 G11 y0 y1 y2 y3 y4 S35
   obtain ⟨y0, y1, y2, y3, y4⟩ := Q12.out.cells
   have CH := hid (fun w h => heldStore_any Gxa Gxn Gxc Gya Gyn Gyc Gna Gnn Gnc Gpa Gpn Gpc gg VG UG VN dd ss 1 w h HT2.out HSK.out (by have := HSL.out; omega) HSP2.out (by omega) (by omega))
   have HTP : Hid (1 + stTot dd ss ≤ 4194305) := by have h1 := HT2.out; have h2 := offN_le HSK.out ss.1.length (Nat.le_refl _); have h3 := HSL.out; have h4 := HSP2.out; show _ ≤ _; unfold stTot; omega
   generalize hq : 1 + stTot dd ss = q at *
   have HQ := hid hq
   have hq0 : ¬ (q : Int) < 0 := by omega
   have hqq : ((q : Int) != (q : Int)) = false := by simp
   clear hq
   go_wp2_with fail
   refine (CH.out _ Q12.out.own).mono ?_
   rintro e w13 ⟨rfl, hb⟩
   have X13 := hid (X12.out.below hb)
   have A13 := hid (A12.out.below hb)
   have Q13 := hid (Q12.out.below hb)
   clear hb X12 A12 Q12 y0 y1 y2 y3 y4
   obtain ⟨x0, x1⟩ := X13.out.cells
   go_wp2_with fail
   refine (toDisk_any _ sa sn sc da dn dc d _ X13.out.hA m0 m1 HSM.out).mono ?_
   rintro e w14 ⟨f0, f1, V14, U14, rfl, hO, hb⟩
   have X14 := hid (X13.out.below hb)
   have A14 := hid (A13.out.below hb)
   have Q14 := hid (Q13.out.below hb)
   have C14 := hid hO
   clear hO hb X13 A13 Q13 x0 x1
   go_wp2_with fail
   refine (HIM.out _ _ _ _ _ _ C14.out X14.out.bel).mono ?_
   rintro e w15 ⟨Hxa, Hxn, Hxc, Hya, Hyn, Hyc, Hna, Hnn, Hnc, Hpa, Hpn, Hpc, VH, UH, VM, rfl, hO, hb⟩
   have hb2 := bt5 hb (below_new (o := .cells #[.slice Hxa Hxn Hxc, .slice Hya Hyn Hyc, .int .i64 gg, .slice Hna Hnn Hnc, .slice Hpa Hpn Hpc] 36) (w := w15) (Below.refl _ _))
   have X15 := hid (X14.out.below hb2)
   have A15 := hid (A14.out.below hb2)
   have Q15 := hid (Q14.out.below hb2)
   have H15 := hid (StG.new (g := gg) hO)
   clear hO hb hb2 X14 A14 Q14 C14
   obtain ⟨x0, x1, x2, x3, x4⟩ := A15.out.cells
   obtain ⟨y0, y1, y2, y3, y4⟩ := H15.out.cells
   go_wp2_with fail
   refine (eqStore_same _ _ Hxa Hxn Hxc Hya Hyn Hyc Hna Hnn Hnc Hpa Hpn Hpc Axa Axn Axc Aya Ayn Ayc Ana Ann Anc Apa Apn Apc gg dd ss _ H15.out.own.rd A15.out.rd HS2.out).mono ?_
   generalize w15.alloc (.cells #[.slice Hxa Hxn Hxc, .slice Hya Hyn Hyc, .int .i64 gg, .slice Hna Hnn Hnc, .slice Hpa Hpn Hpc] 36) = u15 at *
   generalize w15.heap.size = bH at *
   rintro e w16 ⟨rfl, hb⟩
   have X16 := hid (X15.out.below hb)
   have Q16 := hid (Q15.out.below hb)
   clear hb X15 A15 Q15 H15 x0 x1 x2 x3 x4 y0 y1 y2 y3 y4
   obtain ⟨y0, y1, y2, y3, y4⟩ := Q16.out.cells
   go_wp2_with fail
   refine (CH.out _ Q16.out.own).mono ?_
   rintro e w17 ⟨rfl, hb⟩
   have X17 := hid (X16.out.below hb)
   clear hb X16 Q16 y0 y1 y2 y3 y4
   go_wp2
   go_ret
   exact ⟨rfl, X17.out.bel⟩
open Go.ChangeShapes Go.WideShapes Go.ChangeAt Go.RowKit
theorem trodVars_first {H : Type} {enc : TypeId × Value → H} {P : Program} {w : World} {spare : Nat → Bool} {n : String} {ns : List String} {gs : List (DataW H)} {ps : List MemPlace} (h : DataW.TrodVars enc P w spare (n :: ns) gs ps) :
  ∃ g t cs f d p ds q, gs = d :: ds ∧ P.globalNamed n = some g ∧ (P.globals[g]?).map (·.type) = some t ∧ w.var? P n = some cs ∧ DataW.trod enc P w 0 spare true f t cs.toList = some (d, p) ∧ DataW.TrodVars enc P w spare ns ds q ∧ ps = MemPlace.row ⟨g, 0, none⟩ cs.size ++ p ++ q := by
 cases gs with
 | nil => simp [DataW.TrodVars] at h
 | cons d ds =>
  obtain ⟨g, t, cs, f, p, q, h1, h2, h3, h4, hs, e⟩ := h
  exact ⟨g, t, cs, f, d, p, ds, q, rfl, h1, h2, h3, h4, hs, e⟩
theorem vars_first {H : Type} (enc : TypeId × Value → H) {P : Program} {W : World} {n : String} {ns : List String} {g : Nat} {ti : TypeId} {ms : Array (String × TypeId)} {x : Value} {ds : List (DataW H)} {q : List MemPlace} {sp : Nat → Bool}
  (hg : P.globalNamed n = some g) (ht : (P.globals[g]?).map (·.type) = some ti) (hi : P.underlying ti = some (.interface ms)) (h : W.var? P n = some #[x]) (ix : IsIface x) (hr : DataW.TrodVars enc P W sp ns ds q) :
  DataW.TrodVars enc P W sp (n :: ns) (tok enc x :: ds) (.cell g 0 :: q) :=
 ⟨g, ti, #[x], 1, [], q, hg, ht, h, trod_held hi ix 0, hr, rfl⟩
open Go.ChangeShapes Go.WideShapes Go.ChangeAt Go.RowKit
theorem rw_mkD {w : World} {a : Addr} {n c : Nat} {xs : List Value} (hl : n ≤ c) (hc : c ≤ 9223372036854775807) (hx : n = 0 → xs = []) (h0 : 0 < n → 0 < xs.length) (h : ∀ j u, xs[j]? = some u → w.cell? (a.add j) = some u) : Rw w (fun _ => True) (.slice (some a) n c) n xs := by
 refine ⟨_, c, rfl, hl, hc, hx, fun h => by (cases h), fun hp => ?_⟩
 obtain ⟨b, off, spot⟩ := a
 obtain ⟨u, hu⟩ : ∃ u, xs[0]? = some u := ⟨xs[0]'(h0 hp), by simp [h0 hp]⟩
 have hc0 := h 0 u hu
 have hspot : spot = none := by simpa [Addr.add] using World.cell?_spot hc0
 subst hspot
 refine ⟨b, off, rfl, by simpa [Addr.add] using block_lt hc0, trivial, fun j v hv => ?_⟩
 have := h j v hv
 rwa [Addr.add_lit] at this
set_option maxRecDepth 100000 in
theorem open_byD {H : Type} {enc : TypeId × Value → H} {w : World} {base : Nat} {spare : Nat → Bool} {held : Bool} {fuel : Nat} {v : Value} {x : DataW H × List MemPlace}
  (h : DataW.trod enc Tryz.prog w base spare held fuel 89 [v] = some x) : ∃ l : List Int, By w (fun _ => True) v l := by
 rcases open_ints Tryz.underlying89 Tryz.underlying5 (by kernel_rfl) h with ⟨hcs, _⟩ | ⟨a, len, cap, zs, hcs, _, hl, hm, hz, _, hcell, hwz⟩
 ·simp at hcs
  subst hcs
  exact ⟨[], rw_nil _ _, fun i => by simp⟩
 ·simp at hcs
  subst hcs
  have hlm : len ≤ zs.length := by rw [hz]; split <;> omega
  unfold maxLen at hm
  refine ⟨zs.take len, ?_, fun i => ?_⟩
  ·rw [show (zs.take len).length = len by simp; omega]
   refine rw_mkD hl (by omega) (fun h0 => by simp [h0]) (fun h0 => by simp; omega) (fun j u hu => ?_)
   have hj : j < len := by
    have := (List.getElem?_eq_some_iff.1 hu).1
    simp at this
    omega
   have := hcell j (by omega)
   rw [this]
   simp [hj, show j < zs.length by omega] at hu
   simp [show j < zs.length by omega, hu]
  ·by_cases hi : i < (zs.take len).length
   ·have hmem : (zs.take len)[i] ∈ zs := List.mem_of_mem_take (List.getElem_mem hi)
    have := hwz _ hmem
    rw [List.getElem?_eq_getElem hi]
    simpa [Lit.wf, IntKind.min, IntKind.max, IntKind.signed, IntKind.bits] using this
   ·rw [List.getElem?_eq_none (by omega)]; simp
set_option maxRecDepth 100000 in
theorem sheet_one : ∃ f0 : Field, Tryz.prog.underlying 98 = some (.struct #[f0]) ∧ f0.type = 89 ∧ f0.offset = 0 := ⟨_, Tryz.underlying98, rfl, rfl⟩
set_option maxRecDepth 100000 in
theorem write_two : ∃ f0 f1 : Field, Tryz.prog.underlying 101 = some (.struct #[f0, f1]) ∧ f0.type = 3 ∧ f1.type = 89 ∧ f0.offset = 0 ∧ f1.offset = 1 := ⟨_, _, Tryz.underlying101, rfl, rfl, rfl, rfl⟩
set_option maxRecDepth 100000 in
theorem disk_two : ∃ f0 f1 : Field, Tryz.prog.underlying 25 = some (.struct #[f0, f1]) ∧ f0.type = 22 ∧ f1.type = 23 ∧ f0.offset = 0 ∧ f1.offset = 1 := ⟨_, _, Tryz.underlying25, rfl, rfl, rfl, rfl⟩
set_option maxRecDepth 100000 in
theorem open_shtsD {H : Type} {enc : TypeId × Value → H} {w : World} {base : Nat} {spare : Nat → Bool} {held : Bool} {fuel : Nat} {v : Value} {x : DataW H × List MemPlace}
  (h : DataW.trod enc Tryz.prog w base spare held fuel 22 [v] = some x) : ∃ ss : List (List Int), Shr w (fun _ => True) v ss := by
 obtain ⟨f0, hs, t0, o0⟩ := sheet_one
 have k0 : Tryz.prog.cellsOf 89 = 1 := by kernel_rfl
 rcases Go.Deep.open_slice1 Tryz.underlying22 (by kernel_rfl) h with ⟨hcs, _⟩ | ⟨a, len, cap, m, n, V, D, P, hcs, _, hl, hm, hmm, _, hc⟩
 ·simp at hcs
  subst hcs
  exact ⟨[], [], rfl, rw_nil _ _, fun i hi => by simp at hi⟩
 ·simp at hcs
  subst hcs
  have hlm : len ≤ m := by rw [hmm]; split <;> omega
  have ex : ∀ i, ∃ l : List Int, i < m → By w (fun _ => True) (V i) l := by
   intro i
   by_cases hi : i < m
   ·obtain ⟨_, hd⟩ := hc i hi
    obtain ⟨y0, n', _, _, d0⟩ := trod_struct1 hs hd
    rw [t0, o0, k0] at d0
    simp at d0
    obtain ⟨l, hl⟩ := open_byD d0
    exact ⟨l, fun _ => hl⟩
   ·exact ⟨[], fun h => absurd h hi⟩
  obtain ⟨f, hf⟩ := Classical.axiomOfChoice ex
  unfold maxLen at hm
  refine ⟨(List.range len).map f, (List.range len).map V, by simp, ?_, fun i hi => ?_⟩
  ·rw [show ((List.range len).map f).length = len by simp]
   refine rw_mkD hl (by omega) (fun h0 => by simp [h0]) (fun h0 => by simp; omega) (fun j u hu => ?_)
   have hj : j < len := by
    have := (List.getElem?_eq_some_iff.1 hu).1
    simpa using this
   simp [hj] at hu
   rw [← hu]
   exact (hc j (by omega)).1
  ·have hi' : i < len := by simpa using hi
   have := hf i (by omega)
   simpa [uAt, shAt, hi'] using this
set_option maxRecDepth 100000 in
theorem open_wrtsD {H : Type} {enc : TypeId × Value → H} {w : World} {base : Nat} {spare : Nat → Bool} {held : Bool} {fuel : Nat} {v : Value} {x : DataW H × List MemPlace}
  (h : DataW.trod enc Tryz.prog w base spare held fuel 23 [v] = some x) : ∃ ds : List DW, Wrr w (fun _ => True) v ds := by
 obtain ⟨f0, f1, hs, t0, t1, o0, o1⟩ := write_two
 have k0 : Tryz.prog.cellsOf 3 = 1 := by kernel_rfl
 have k1 : Tryz.prog.cellsOf 89 = 1 := by kernel_rfl
 have k3 : Tryz.prog.cellsOf 101 = 2 := by kernel_rfl
 rcases Go.Deep.open_slice Tryz.underlying23 h with ⟨hcs, _⟩ | ⟨a, len, cap, m, n, D, P, hcs, _, hl, hm, hmm, _, hc⟩
 ·simp at hcs
  subst hcs
  exact ⟨[], [], rfl, rw_nil _ _, fun i hi => by simp at hi⟩
 ·simp at hcs
  subst hcs
  have hlm : len ≤ m := by rw [hmm]; split <;> omega
  simp only [k3] at hc
  have ex : ∀ i, ∃ p : (Int × Value) × DW, i < m → w.cell? (a.add (i * 2)) = some (.int .i64 p.1.1) ∧ w.cell? (a.add (i * 2 + 1)) = some p.1.2 ∧ p.1.1 = p.2.1 ∧ By w (fun _ => True) p.1.2 p.2.2 := by
   intro i
   by_cases hi : i < m
   ·obtain ⟨cs', hcs, hd⟩ := hc i hi
    obtain ⟨_, hcl, hcell⟩ := World.cells?_some hcs
    obtain ⟨y0, y1, n', _, _, d0, d1⟩ := trod_struct2 hs hd
    rw [t0, o0, k0] at d0
    rw [t1, o1, k1] at d1
    obtain ⟨v0, v1, rfl⟩ : ∃ v0 v1, cs' = [v0, v1] := by
     match cs', hcl with
     | [v0, v1], _ => exact ⟨v0, v1, rfl⟩
    simp at d0 d1
    obtain ⟨t, e0, _, _⟩ := DataW.trod_int Tryz.underlying3 d0
    simp at e0
    subst e0
    obtain ⟨l1, p1⟩ := open_byD d1
    have c0 := hcell 0 (by omega)
    have c1 := hcell 1 (by omega)
    obtain ⟨cs0, hcs0, _⟩ := hc 0 (by omega)
    have c00 := (World.cells?_some hcs0).2.2 0 (by omega)
    have hcl0 := (World.cells?_some hcs0).2.1
    obtain ⟨b, off, spot⟩ := a
    have hspot : spot = none := by
     have e0 : ∀ x : Addr, x.add 0 = x := fun _ => rfl
     rw [Nat.zero_mul, e0, e0] at c00
     obtain ⟨u0, hu0⟩ : ∃ u, cs0[0]? = some u := ⟨cs0[0]'(by omega), by simp⟩
     exact World.cell?_spot (c00.trans hu0)
    subst hspot
    simp only [Addr.add_lit] at c0 c1
    refine ⟨((t, v1), (t, l1)), fun _ => ⟨?_, ?_, rfl, p1⟩⟩
    ·simpa [Addr.add_lit] using c0
    ·simpa [Addr.add_lit, Nat.add_assoc] using c1
   ·exact ⟨((0, .slice none 0 0), (0, [])), fun h => absurd h hi⟩
  obtain ⟨f, hf⟩ := Classical.axiomOfChoice ex
  unfold maxLen at hm
  refine ⟨(List.range len).map fun i => (f i).2, (List.range len).map fun i => (f i).1, by simp, ?_, fun i hi => ?_⟩
  ·rw [show ((List.range len).map fun i => (f i).2).length = len by simp]
   refine rw_mkD hl (by omega) (fun h0 => by simp [h0, wcs]) (fun h0 => by rw [wcs_length]; simp; omega) (fun j u hu => ?_)
   have hj : j < len * 2 := by
    have := (List.getElem?_eq_some_iff.1 hu).1
    simpa [wcs_length] using this
   have hq := wcs_at ((List.range len).map fun i => (f i).1) (j / 2) (by simp; omega)
   have hv : xAt ((List.range len).map fun i => (f i).1) (j / 2) = (f (j / 2)).1 := by simp [xAt, show j / 2 < len by omega]
   rw [hv] at hq
   have hc := hf (j / 2) (by omega)
   have h3 : j = j / 2 * 2 ∨ j = j / 2 * 2 + 1 := by omega
   rcases h3 with e | e
   ·rw [← e, hu] at hq
    rw [← e] at hc
    rw [hc.1, hq.1]
   ·rw [← e, hu] at hq
    rw [← e] at hc
    rw [hc.2.1, hq.2]
  ·have hi' : i < len := by simpa using hi
   have := (hf i (by omega)).2.2
   simpa [xAt, dwAt, hi'] using this
theorem arrD {α : Type} {cs : Array α} (h : cs.size = 2) : ∃ a b, cs = #[a, b] := by
 obtain ⟨l⟩ := cs
 match l, h with
 | [a, b], _ => exact ⟨a, b, rfl⟩
set_option maxRecDepth 100000 in
theorem open_disk {H : Type} {enc : TypeId × Value → H} {w : World} {base : Nat} {spare : Nat → Bool} {held : Bool} {r : Reach} {b0 : Nat} {v : Value} {d : DataW H} {q : List MemPlace}
  (hv : Value.okWide Tryz.prog w r b0 25 v) (h : DataW.Trod enc Tryz.prog w base spare held 25 v d q) :
  ∃ (sa : Option Addr) (sn sc : Nat) (da : Option Addr) (dn dc : Nat) (d : DK), v = .agg #[.slice sa sn sc, .slice da dn dc] ∧ Dk w (fun _ => True) sa sn sc da dn dc d := by
 obtain ⟨f0, f1, hs, t0, t1, o0, o1⟩ := disk_two
 obtain ⟨cs, rfl, hsz⟩ := okWide_struct hs hv
 obtain ⟨c0, c1, rfl⟩ := arrD (hsz.trans (by kernel_rfl))
 obtain ⟨fuel, hf⟩ := h
 obtain ⟨y0, y1, n', _, _, d0, d1⟩ := trod_struct2 hs hf
 have k1 : Tryz.prog.cellsOf 22 = 1 := by kernel_rfl
 have k2 : Tryz.prog.cellsOf 23 = 1 := by kernel_rfl
 rw [t0, o0, k1] at d0
 rw [t1, o1, k2] at d1
 simp [Value.cells] at d0 d1
 obtain ⟨l0, p0⟩ := open_shtsD d0
 obtain ⟨l1, p1⟩ := open_wrtsD d1
 obtain ⟨a0, e0, rfl, _⟩ := p0.shape
 obtain ⟨a1, e1, rfl, _⟩ := p1.shape
 exact ⟨_, _, _, _, _, _, ⟨l0, l1⟩, rfl, ⟨p0, p1⟩⟩
end Go.Proofs.YtidjehapeanpbaaGreatDoor
