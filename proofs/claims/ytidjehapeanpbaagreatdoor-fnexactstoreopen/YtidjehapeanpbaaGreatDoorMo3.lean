/-
  DiskSync of the program.
-/
import Derived.Test.YtidjehapeanpbaaGreatDoorMo2
import Derived.Test.YtidjehapeanpbaaGreatDoorMo1
import Derived.Deep.RegionHeld3
import Derived.Laws.Cover1
import Derived.Laws.IdiomStrings
namespace Go.Proofs.YtidjehapeanpbaaGreatDoor
open Go.RowKit
set_option linter.unusedVariables false
structure VX (w v : World) (sa : Option Addr) (sn sc : Nat) (da : Option Addr) (dn dc : Nat) (g cc : Nat) (V : List Value) (ss : List (List Int)) : Prop where
 bel : Below w.heap.size w v
 k0 : Bk v w.heap.size 30 [.slice sa sn sc, .slice da dn dc]
 k1 : Bk v (w.heap.size + 1) 30 [.slice none 0 0, .slice none 0 0]
 row : v.ownsRow (w.heap.size + 2) 102 1 (.slice (some ⟨g, 0, none⟩) sn cc) sn V
 len : V.length = sn
 ssl : ss.length = sn
 byt' : ∀ i, i < sn → By v (fun y => y ≠ g) (uAt V i) (shAt ss i)
structure SH (v : World) (Q : Nat → Prop) (B g cc sn : Nat) (V : List Value) (ss : List (List Int)) : Prop where
 row : v.ownsRow B 102 1 (.slice (some ⟨g, 0, none⟩) sn cc) sn V
 len : V.length = sn
 ssl : ss.length = sn
 byt' : ∀ i, i < sn → By v Q (uAt V i) (shAt ss i)
 off : ¬ Q g
open Go.RowKit
set_option linter.unusedVariables false
theorem DB.here {v : World} {b B : Nat} {sa : Option Addr} {sn sc : Nat} {da : Option Addr} {dn dc : Nat} {V : List Value} {U : List (Int × Value)} {d : DK} (h : DB v b B sa sn sc da dn dc V U d) {y : Nat} (hy : dbl (.slice sa sn sc) V (.slice da dn dc) U y) : B ≤ y ∧ y < b := ⟨(h.own.lt hy).1, h.sep y hy⟩
open Go.RowKit
theorem s2 {w w1 : World} {lo hi : ByteArray} {T : TypeId} (h : Below (w.alloc (.cells #[.string lo, .string hi] T)).heap.size (w.alloc (.cells #[.string lo, .string hi] T)) w1) :
  w1.cell? ⟨w.heap.size, 0, none⟩ = some (.string lo) ∧ w1.cell? ⟨w.heap.size, 1, none⟩ = some (.string hi) ∧ Below (w.alloc (.cells #[.string lo, .string hi] T)).heap.size (w.alloc (.cells #[.string lo, .string hi] T)) w1 := by
 refine ⟨?_, ?_, h⟩
 ·rw [h.cell (p := ⟨w.heap.size, 0, none⟩) (by simp), World.cell?_alloc_at (hn := rfl)]; rfl
 ·rw [h.cell (p := ⟨w.heap.size, 1, none⟩) (by simp), World.cell?_alloc_at (hn := rfl)]; rfl
open Go.RowKit
def sOkF (ss : List ByteArray) : Nat → Nat → Bool
 | 0, _ => true
 | f + 1, k => kOk (ss[k]?.getD ⟨#[]⟩) && (decide (k = 0) || Op.bytesLess (ss[k - 1]?.getD ⟨#[]⟩).toList (ss[k]?.getD ⟨#[]⟩).toList) && sOkF ss f (k + 1)
theorem sOkF_no (ss : List ByteArray) (f k : Nat) (h : kOk (ss[k]?.getD ⟨#[]⟩) = false) : sOkF ss (f + 1) k = false := by simp [sOkF, h]
theorem sOkF_0 (ss : List ByteArray) (f : Nat) (h : kOk (ss[0]?.getD ⟨#[]⟩) = true) : sOkF ss (f + 1) 0 = sOkF ss f 1 := by simp only [sOkF, h]; simp
theorem sOkF_s (ss : List ByteArray) (f j : Nat) (h : kOk (ss[j + 1]?.getD ⟨#[]⟩) = true) (b : Bool) (h2 : Op.bytesLess (ss[j]?.getD ⟨#[]⟩).toList (ss[j + 1]?.getD ⟨#[]⟩).toList = b) : sOkF ss (f + 1) (j + 1) = (b && sOkF ss f (j + 1 + 1)) := by
 simp only [sOkF, h, Nat.add_sub_cancel, h2]; simp
set_option maxHeartbeats 4000000 in
theorem implKeysRise_any (a : Option Addr) (n c : Nat) (ss : List ByteArray) (w : World) (hn0 : n = ss.length) (hm : c ≤ 9223372036854775807) (hc : n ≤ c)
  (hcell : 0 < n → ∃ b off, a = some ⟨b, off, none⟩ ∧ ∀ i, i < n → w.cell? ⟨b, off + i, none⟩ = some (.string (ss[i]?.getD ⟨#[]⟩))) :
  Calls Tryz.prog 194 #[.slice a n c] w fun e w' => e = .returned (.bool (sOkF ss n 0)) ∧ w = w' := by
 have HN : Hid (n = ss.length) := hn0
 clear hn0
 go_enter Tryz.func194, Tryz.ntmps194
 go_wp2_with fail
 go_loopw [7] (fun i wr => ∃ k : Nat, k ≤ n ∧ i = .int .i64 k ∧ wr = w ∧ Hid (sOkF ss (n - k) k = sOkF ss n 0)) (fun i _ => n - (intOf i).toNat)
 case atStart => exact ⟨0, Nat.zero_le _, rfl, rfl, rfl⟩
 case round =>
  obtain ⟨k, hk, rfl, rfl, HS⟩ := hrel
  by_cases hlt : k < n
  ·obtain ⟨b, off, ha, hcell⟩ := hcell (by omega)
   have hck := hcell k hlt
   have hlt' : (k : Int) < (n : Int) := by omega
   have e1 : n - k = (n - (k + 1)) + 1 := by omega
   have HE1 := hid e1
   clear e1
   rw [ha]
   rw [HE1.out] at HS
   cases k with
   | zero =>
    clear hcell
    rw [Nat.add_zero] at hck
    generalize hcur : ss[0]?.getD ⟨#[]⟩ = cur at hck
    have HC := hid hcur
    clear hcur
    go_wp2_with fail
    refine (implKeyOk_any cur _).mono ?_
    rintro e w1 ⟨rfl, rfl⟩
    cases h1 : kOk cur
    ·have HZ : Hid (sOkF ss n 0 = false) := by show sOkF ss n 0 = false; rw [← HS.out]; exact sOkF_no ss _ _ (by rw [HC.out]; exact h1)
     go_wp2
     go_ret
     exact ⟨by rw [HZ.out]; rfl, rfl⟩
    ·have HZ : Hid (sOkF ss (n - 1) 1 = sOkF ss n 0) := by
      show sOkF ss (n - 1) 1 = sOkF ss n 0
      rw [← HS.out]; exact (sOkF_0 ss _ (by rw [HC.out]; exact h1)).symm
     go_wp2
     go_roundw
     case rel => exact ⟨1, by omega, by go_num, by trivial, HZ⟩
     case measure => simp [intOf]; omega
   | succ j =>
    have hcj := hcell j (by omega)
    have hj1 : (0 : Int) < (j : Int) + 1 := by omega
    clear hcell
    generalize hcur : ss[j + 1]?.getD ⟨#[]⟩ = cur at hck
    generalize hprev : ss[j]?.getD ⟨#[]⟩ = prev at hcj
    have HC := hid hcur
    have HP := hid hprev
    clear hcur hprev
    go_wp2_with fail
    refine (implKeyOk_any cur _).mono ?_
    rintro e w1 ⟨rfl, rfl⟩
    cases h1 : kOk cur
    ·have HZ : Hid (sOkF ss n 0 = false) := by show sOkF ss n 0 = false; rw [← HS.out]; exact sOkF_no ss _ _ (by rw [HC.out]; exact h1)
     go_wp2
     go_ret
     exact ⟨by rw [HZ.out]; rfl, rfl⟩
    ·have HG : Hid (∀ b, Op.bytesLess prev.toList cur.toList = b → (b && sOkF ss (n - (j + 1 + 1)) (j + 1 + 1)) = sOkF ss n 0) := by
      intro b hb
      rw [← HS.out]
      exact (sOkF_s ss _ j (by rw [HC.out]; exact h1) b (by rw [HP.out, HC.out]; exact hb)).symm
     rcases tri prev cur with ⟨t1, t2, t3, t4⟩ | rfl | ⟨t1, t2, t3, t4⟩
     ·have HZ : Hid (sOkF ss (n - (j + 1 + 1)) (j + 1 + 1) = sOkF ss n 0) := by show sOkF ss (n - (j + 1 + 1)) (j + 1 + 1) = sOkF ss n 0; have := HG.out _ t1; simpa using this
      go_wp2
      go_roundw
      case rel => exact ⟨j + 1 + 1, by omega, by go_num, by trivial, HZ⟩
      case measure => simp [intOf]; omega
     ·have t1 := less_irrefl prev.toList
      have HZ : Hid (sOkF ss n 0 = false) := by show sOkF ss n 0 = false; have := HG.out _ t1; simpa using this.symm
      go_wp2
      go_ret
      exact ⟨by rw [HZ.out]; rfl, rfl⟩
     ·have HZ : Hid (sOkF ss n 0 = false) := by show sOkF ss n 0 = false; have := HG.out _ t1; simpa using this.symm
      go_wp2
      go_ret
      exact ⟨by rw [HZ.out]; rfl, rfl⟩
  ·have hk' : k = n := by omega
   have HZ : Hid (sOkF ss n 0 = true) := by show sOkF ss n 0 = true; rw [← HS.out, hk', Nat.sub_self]; rfl
   clear hk' hcell
   go_wp2
   go_ret
   exact ⟨by rw [HZ.out]; rfl, rfl⟩
open Go.RowKit
structure PG where
 keys : List ByteArray
 vals : List ByteArray
 kids : List Int
def kidOk (k : Int) : Bool := decide (2 ≤ k) && decide (k < 400)
def pgLeaf (p : PG) : Bool := p.vals.all vOk && (decide (1 ≤ p.keys.length) && decide (p.keys.length ≤ 4) && decide (p.vals.length = p.keys.length))
def pgBranch (p : PG) : Bool := p.kids.all kidOk && (decide (2 ≤ p.kids.length) && decide (p.kids.length ≤ 4) && decide (p.keys.length + 1 = p.kids.length) && decide (p.vals.length = 0))
def pgOk (p : PG) : Bool := sOkF p.keys p.keys.length 0 && (if p.kids.length = 0 then pgLeaf p else pgBranch p)
theorem pgOk_leaf {p : PG} (h : sOkF p.keys p.keys.length 0 = true) (h0 : p.kids.length = 0) : pgOk p = pgLeaf p := by rw [pgOk, h, if_pos h0]; rfl
theorem pgOk_branch {p : PG} (h : sOkF p.keys p.keys.length 0 = true) (h0 : ¬ p.kids.length = 0) : pgOk p = pgBranch p := by rw [pgOk, h, if_neg h0]; rfl
theorem pgOk_no {p : PG} (h : sOkF p.keys p.keys.length 0 = false) : pgOk p = false := by rw [pgOk, h]; rfl
theorem all_take {α : Type} (l : List α) (f : α → Bool) (d : α) {k : Nat} (h : k < l.length) : (l.take (k + 1)).all f = ((l.take k).all f && f (l[k]?.getD d)) := by
 rw [List.take_succ_eq_append_getElem h, List.all_append]
 simp [h]
theorem all_no {α : Type} (l : List α) (f : α → Bool) (d : α) {k : Nat} (h : k < l.length) (hf : f (l[k]?.getD d) = false) : l.all f = false := by
 rw [List.all_eq_false]
 refine ⟨l[k], List.getElem_mem h, ?_⟩
 simp [h] at hf
 simp [hf]
theorem pgLeaf_no {p : PG} (h : p.vals.all vOk = false) : pgLeaf p = false := by rw [pgLeaf, h]; rfl
theorem pgBranch_no {p : PG} (h : p.kids.all kidOk = false) : pgBranch p = false := by rw [pgBranch, h]; rfl
structure Pgr (w : World) (S : Nat → Prop) (ka : Option Addr) (kn kc : Nat) (va : Option Addr) (vn vc : Nat) (ia : Option Addr) (jn ic : Nat) (p : PG) : Prop where
 hk : Sr w S (.slice ka kn kc) p.keys
 hv : Sr w S (.slice va vn vc) p.vals
 hi : Ir w S (.slice ia jn ic) p.kids
theorem Pgr.below {w w' : World} {S : Nat → Prop} {ka : Option Addr} {kn kc : Nat} {va : Option Addr} {vn vc : Nat} {ia : Option Addr} {jn ic : Nat} {p : PG} (h : Pgr w S ka kn kc va vn vc ia jn ic p) (hb : Below w.heap.size w w') : Pgr w' S ka kn kc va vn vc ia jn ic p := ⟨h.hk.below hb, h.hv.below hb, h.hi.below hb⟩
theorem Pgr.to {w w' : World} {S R : Nat → Prop} {ka : Option Addr} {kn kc : Nat} {va : Option Addr} {vn vc : Nat} {ia : Option Addr} {jn ic : Nat} {p : PG} (h : Pgr w S ka kn kc va vn vc ia jn ic p) (ho : Only R w w') (hd : ∀ b, S b → b < w.heap.size → ¬ R b) : Pgr w' S ka kn kc va vn vc ia jn ic p := ⟨h.hk.to ho hd, h.hv.to ho hd, h.hi.to ho hd⟩
set_option maxHeartbeats 8000000 in
set_option maxRecDepth 20000 in
theorem specPageOk_any (S : Nat → Prop) (ka : Option Addr) (kn kc : Nat) (va : Option Addr) (vn vc : Nat) (ia : Option Addr) (jn ic : Nat) (p : PG) (w : World) (h : Pgr w S ka kn kc va vn vc ia jn ic p) :
  Calls Tryz.prog 142 #[.agg #[.slice ka kn kc, .slice va vn vc, .slice ia jn ic]] w fun e w' => e = .returned (.bool (pgOk p)) ∧ Below w.heap.size w w' := by
 have hb0 := below_new (o := .cells #[.slice ka kn kc, .slice va vn vc, .slice ia jn ic] 107) (w := w) (Below.refl _ _)
 have P0 := hid (h.below hb0)
 have HB := hid hb0
 have K0 := Bk.new w 107 [.slice ka kn kc, .slice va vn vc, .slice ia jn ic]
 have c0 := K0.cell (j := 0) rfl
 have c1 := K0.cell (j := 1) rfl
 have c2 := K0.cell (j := 2) rfl
 have HNK := hid (Rw.len h.hk).1
 have HNV := hid (Rw.len h.hv).1
 have HNI := hid (Rw.len h.hi).1
 have bk := (Rw.len h.hk).2
 have bv := (Rw.len h.hv).2
 have bi := (Rw.len h.hi).2
 clear h hb0 K0
 go_enter Tryz.func142, Tryz.ntmps142
 go_wp2_with fail
 generalize w.alloc (.cells #[.slice ka kn kc, .slice va vn vc, .slice ia jn ic] 107) = U at *
 generalize hx : w.heap.size = x at c0 c1 c2 ⊢
 clear hx
 go_loopw [12] (fun i wr => ∃ k : Nat, k ≤ kn ∧ i = .int .i64 k ∧ wr = U ∧ Hid (sOkF p.keys (kn - k) k = sOkF p.keys kn 0)) (fun i _ => kn - (intOf i).toNat)
 case atStart => exact ⟨0, Nat.zero_le _, rfl, rfl, rfl⟩
 case round =>
  obtain ⟨k, hk, rfl, rfl, HS⟩ := hrel
  by_cases hlt : k < kn
  ·have hlt' : (k : Int) < (kn : Int) := by omega
   obtain ⟨b, off, ha, -, -, hcell⟩ := P0.out.hk.at (by omega)
   have hck := hcell k hlt
   have e1 : kn - k = (kn - (k + 1)) + 1 := by omega
   have HE1 := hid e1
   clear e1
   subst ha
   rw [HE1.out] at HS
   have HNO : Hid (sOkF p.keys kn 0 = false → pgOk p = false) := fun e => pgOk_no (by rw [← HNK.out]; exact e)
   cases k with
   | zero =>
    clear hcell
    rw [Nat.add_zero] at hck
    generalize hcur : sAt p.keys 0 = cur at hck
    have HC : Hid (p.keys[0]?.getD ⟨#[]⟩ = cur) := hcur
    clear hcur
    go_wp2_with fail
    refine (specKeyOk_any cur _).mono ?_
    rintro e w1 ⟨rfl, rfl⟩
    cases h1 : kOk cur
    ·have HZ : Hid (pgOk p = false) := HNO.out (by rw [← HS.out]; exact sOkF_no p.keys _ _ (by rw [HC.out]; exact h1))
     go_wp2
     go_ret
     exact ⟨by rw [HZ.out]; rfl, HB.out⟩
    ·have HZ : Hid (sOkF p.keys (kn - 1) 1 = sOkF p.keys kn 0) := by
      show sOkF p.keys (kn - 1) 1 = sOkF p.keys kn 0
      rw [← HS.out]; exact (sOkF_0 p.keys _ (by rw [HC.out]; exact h1)).symm
     go_wp2
     go_roundw
     case rel => exact ⟨1, by omega, by go_num, by trivial, HZ⟩
     case measure => simp [intOf]; omega
   | succ j =>
    have hcj := hcell j (by omega)
    have hj1 : (0 : Int) < (j : Int) + 1 := by omega
    clear hcell
    generalize hcur : sAt p.keys (j + 1) = cur at hck
    generalize hprev : sAt p.keys j = prev at hcj
    have HC : Hid (p.keys[j + 1]?.getD ⟨#[]⟩ = cur) := hcur
    have HP : Hid (p.keys[j]?.getD ⟨#[]⟩ = prev) := hprev
    clear hcur hprev
    go_wp2_with fail
    refine (specKeyOk_any cur _).mono ?_
    rintro e w1 ⟨rfl, rfl⟩
    cases h1 : kOk cur
    ·have HZ : Hid (pgOk p = false) := HNO.out (by rw [← HS.out]; exact sOkF_no p.keys _ _ (by rw [HC.out]; exact h1))
     go_wp2
     go_ret
     exact ⟨by rw [HZ.out]; rfl, HB.out⟩
    ·have HG : Hid (∀ b, Op.bytesLess prev.toList cur.toList = b → (b && sOkF p.keys (kn - (j + 1 + 1)) (j + 1 + 1)) = sOkF p.keys kn 0) := by
      intro b hb
      rw [← HS.out]
      exact (sOkF_s p.keys _ j (by rw [HC.out]; exact h1) b (by rw [HP.out, HC.out]; exact hb)).symm
     rcases tri prev cur with ⟨t1, t2, t3, t4⟩ | rfl | ⟨t1, t2, t3, t4⟩
     ·have HZ : Hid (sOkF p.keys (kn - (j + 1 + 1)) (j + 1 + 1) = sOkF p.keys kn 0) := by show sOkF p.keys (kn - (j + 1 + 1)) (j + 1 + 1) = sOkF p.keys kn 0; have := HG.out _ t1; simpa using this
      go_wp2
      go_roundw
      case rel => exact ⟨j + 1 + 1, by omega, by go_num, by trivial, HZ⟩
      case measure => simp [intOf]; omega
     ·have t1 := less_irrefl prev.toList
      have HZ : Hid (pgOk p = false) := HNO.out (by have := HG.out _ t1; simpa using this.symm)
      go_wp2
      go_ret
      exact ⟨by rw [HZ.out]; rfl, HB.out⟩
     ·have HZ : Hid (pgOk p = false) := HNO.out (by have := HG.out _ t1; simpa using this.symm)
      go_wp2
      go_ret
      exact ⟨by rw [HZ.out]; rfl, HB.out⟩
  ·have hk' : k = kn := by omega
   have HZ : Hid (sOkF p.keys p.keys.length 0 = true) := by show sOkF p.keys p.keys.length 0 = true; rw [← HNK.out, ← HS.out, hk', Nat.sub_self]; rfl
   clear hk' HS
   by_cases hi0 : jn = 0
   ·subst hi0
    have HR : Hid (pgOk p = pgLeaf p) := pgOk_leaf HZ.out HNI.out.symm
    go_wp2_with fail
    go_loopw [42] (fun i v => ∃ k : Nat, k ≤ vn ∧ i = .int .i64 k ∧ v = wr ∧ Hid ((p.vals.take k).all vOk = true)) (fun i _ => vn - (intOf i).toNat)
    case atStart => exact ⟨0, Nat.zero_le _, rfl, rfl, rfl⟩
    case round =>
     obtain ⟨m, hm, rfl, rfl, HT⟩ := hrel
     by_cases hlt2 : m < vn
     ·have hlt2' : (m : Int) < (vn : Int) := by omega
      have hml : m < p.vals.length := by rw [← HNV.out]; exact hlt2
      obtain ⟨b, off, ha, -, -, hcell⟩ := P0.out.hv.at (by omega)
      have hcm := hcell m hlt2
      clear hcell
      subst ha
      generalize hcur : sAt p.vals m = cur at hcm
      have HC : Hid (p.vals[m]?.getD ⟨#[]⟩ = cur) := hcur
      clear hcur
      go_wp2_with fail
      refine (specValOk_any cur _).mono ?_
      rintro e w1 ⟨rfl, rfl⟩
      cases h1 : vOk cur
      ·have HZ2 : Hid (pgOk p = false) := by
        show pgOk p = false
        rw [HR.out]; exact pgLeaf_no (all_no _ _ ⟨#[]⟩ hml (by rw [HC.out]; exact h1))
       go_wp2
       go_ret
       exact ⟨by rw [HZ2.out]; rfl, HB.out⟩
      ·have HT2 : Hid ((p.vals.take (m + 1)).all vOk = true) := by
        show _ = true
        rw [all_take _ _ ⟨#[]⟩ hml, HT.out, HC.out, h1]; rfl
       go_wp2
       go_roundw
       case rel => exact ⟨m + 1, by omega, by go_num, by trivial, HT2⟩
       case measure => simp [intOf]; omega
     ·have HA : Hid (p.vals.all vOk = true) := by
       have := HT.out
       rwa [List.take_of_length_le (by rw [← HNV.out]; omega)] at this
      have HR2 : Hid (pgOk p = (decide (1 ≤ kn) && decide (kn ≤ 4) && decide (vn = kn))) := by
       show pgOk p = _
       rw [HR.out, pgLeaf, HA.out, HNK.out, HNV.out]; rfl
      clear HT HA HR
      by_cases q1 : 1 ≤ kn
      ·by_cases q2 : kn ≤ 4
       ·by_cases q3 : vn = kn
        ·have HF : Hid (pgOk p = true) := by show _ = true; rw [HR2.out, decide_eq_true q1, decide_eq_true q2, decide_eq_true q3]; rfl
         subst q3
         have q1' : (1 : Int) ≤ (vn : Int) := by omega
         have q2' : (vn : Int) ≤ 4 := by omega
         clear HR2
         go_wp2
         go_ret
         exact ⟨by rw [HF.out]; rfl, HB.out⟩
        ·have HF : Hid (pgOk p = false) := by show _ = false; rw [HR2.out, decide_eq_false q3]; simp
         have q1' : (1 : Int) ≤ (kn : Int) := by omega
         have q2' : (kn : Int) ≤ 4 := by omega
         have q3' : ((vn : Int) == (kn : Int)) = false := by simp; omega
         have q4' : ¬ (vn : Int) = (kn : Int) := by omega
         clear HR2
         go_wp2
         go_ret
         exact ⟨by rw [HF.out]; rfl, HB.out⟩
       ·have HF : Hid (pgOk p = false) := by show _ = false; rw [HR2.out, decide_eq_false q2]; simp
        have q1' : (1 : Int) ≤ (kn : Int) := by omega
        have q2' : ¬ (kn : Int) ≤ 4 := by omega
        clear HR2
        go_wp2
        go_ret
        exact ⟨by rw [HF.out]; rfl, HB.out⟩
      ·have HF : Hid (pgOk p = false) := by show _ = false; rw [HR2.out, decide_eq_false q1]; simp
       have q1' : ¬ (1 : Int) ≤ (kn : Int) := by omega
       clear HR2
       go_wp2
       go_ret
       exact ⟨by rw [HF.out]; rfl, HB.out⟩
   ·have hi0' : ¬ (jn : Int) = 0 := by omega
    have HR : Hid (pgOk p = pgBranch p) := pgOk_branch HZ.out (by rw [← HNI.out]; exact hi0)
    go_wp2_with fail
    go_loopw [72] (fun i v => ∃ k : Nat, k ≤ jn ∧ i = .int .i64 k ∧ v = wr ∧ Hid ((p.kids.take k).all kidOk = true)) (fun i _ => jn - (intOf i).toNat)
    case atStart => exact ⟨0, Nat.zero_le _, rfl, rfl, rfl⟩
    case round =>
     obtain ⟨m, hm, rfl, rfl, HT⟩ := hrel
     by_cases hlt2 : m < jn
     ·have hlt2' : (m : Int) < (jn : Int) := by omega
      have hml : m < p.kids.length := by rw [← HNI.out]; exact hlt2
      obtain ⟨b, off, ha, -, -, hcell⟩ := P0.out.hi.at (by omega)
      have hcm := hcell m hlt2
      clear hcell
      subst ha
      generalize hcur : iAt p.kids m = cur at hcm
      have HC : Hid (p.kids[m]?.getD 0 = cur) := hcur
      clear hcur
      by_cases g1 : cur < 2
      ·have HZ2 : Hid (pgOk p = false) := by
        show pgOk p = false
        rw [HR.out]; exact pgBranch_no (all_no _ _ 0 hml (by rw [HC.out, kidOk, decide_eq_false (by omega)]; rfl))
       go_wp2
       go_ret
       exact ⟨by rw [HZ2.out]; rfl, HB.out⟩
      ·by_cases g2 : 400 ≤ cur
       ·have HZ2 : Hid (pgOk p = false) := by
         show pgOk p = false
         rw [HR.out]; exact pgBranch_no (all_no _ _ 0 hml (by rw [HC.out, kidOk, decide_eq_false (show ¬ cur < 400 by omega)]; simp))
        go_wp2
        go_ret
        exact ⟨by rw [HZ2.out]; rfl, HB.out⟩
       ·have HT2 : Hid ((p.kids.take (m + 1)).all kidOk = true) := by
         show _ = true
         rw [all_take _ _ 0 hml, HT.out, HC.out, kidOk, decide_eq_true (by omega), decide_eq_true (by omega)]; rfl
        go_wp2
        go_roundw
        case rel => exact ⟨m + 1, by omega, by go_num, by trivial, HT2⟩
        case measure => simp [intOf]; omega
     ·have HA : Hid (p.kids.all kidOk = true) := by
       have := HT.out
       rwa [List.take_of_length_le (by rw [← HNI.out]; omega)] at this
      have HR2 : Hid (pgOk p = (decide (2 ≤ jn) && decide (jn ≤ 4) && decide (kn + 1 = jn) && decide (vn = 0))) := by
       show pgOk p = _
       rw [HR.out, pgBranch, HA.out, HNK.out, HNV.out, HNI.out]; rfl
      clear HT HA HR
      by_cases q1 : 2 ≤ jn
      ·by_cases q2 : jn ≤ 4
       ·by_cases q3 : kn + 1 = jn
        ·by_cases q4 : vn = 0
         ·have HF : Hid (pgOk p = true) := by show _ = true; rw [HR2.out, decide_eq_true q1, decide_eq_true q2, decide_eq_true q3, decide_eq_true q4]; rfl
          subst q4
          have q1' : (2 : Int) ≤ (jn : Int) := by omega
          have q2' : (jn : Int) ≤ 4 := by omega
          have q3' : (jn : Int) - 1 = (kn : Int) := by omega
          clear HR2
          go_wp2
          go_ret
          exact ⟨by rw [HF.out]; rfl, HB.out⟩
         ·have HF : Hid (pgOk p = false) := by show _ = false; rw [HR2.out, decide_eq_false q4]; simp
          have q1' : (2 : Int) ≤ (jn : Int) := by omega
          have q2' : (jn : Int) ≤ 4 := by omega
          have q3' : (jn : Int) - 1 = (kn : Int) := by omega
          have q4' : ¬ (vn : Int) = 0 := by omega
          have q5' : ((vn : Int) == 0) = false := by simp; omega
          have q6' : (vn == 0) = false := by simp; omega
          clear HR2
          go_wp2
          go_ret
          exact ⟨by rw [HF.out]; rfl, HB.out⟩
        ·have HF : Hid (pgOk p = false) := by show _ = false; rw [HR2.out, decide_eq_false q3]; simp
         have q1' : (2 : Int) ≤ (jn : Int) := by omega
         have q2' : (jn : Int) ≤ 4 := by omega
         have q3' : ¬ (kn : Int) = (jn : Int) - 1 := by omega
         have q4' : ((kn : Int) == (jn : Int) - 1) = false := by simp; omega
         clear HR2
         go_wp2
         go_ret
         exact ⟨by rw [HF.out]; rfl, HB.out⟩
       ·have HF : Hid (pgOk p = false) := by show _ = false; rw [HR2.out, decide_eq_false q2]; simp
        have q1' : (2 : Int) ≤ (jn : Int) := by omega
        have q2' : ¬ (jn : Int) ≤ 4 := by omega
        clear HR2
        go_wp2
        go_ret
        exact ⟨by rw [HF.out]; rfl, HB.out⟩
      ·have HF : Hid (pgOk p = false) := by show _ = false; rw [HR2.out, decide_eq_false q1]; simp
       have q1' : ¬ (2 : Int) ≤ (jn : Int) := by omega
       clear HR2
       go_wp2
       go_ret
       exact ⟨by rw [HF.out]; rfl, HB.out⟩
open Go.RowKit
def Wr (w : World) (g most : Nat) (st : Option (List Int)) : Prop :=
 ∃ v ev zs, w.cell? ⟨g, 0, none⟩ = some v ∧ w.cell? ⟨g, 1, none⟩ = some (.int .i64 most) ∧ w.cell? ⟨g, 2, none⟩ = some ev ∧
  w.frozen? ⟨g, 0, none⟩ = false ∧ w.frozen? ⟨g, 2, none⟩ = false ∧ Ob w (g + 1) v zs ∧ zs.length ≤ most ∧ most ≤ 1099511627776 ∧ (∀ z ∈ zs, 0 ≤ z ∧ z ≤ 255) ∧
  ((ev = .nilIface ∧ st = some zs) ∨ ((∃ t x, ev = .iface t x) ∧ st = none))
def Err (w : World) (v : Nat) : Prop := ∃ t x, w.cell? ⟨v, 0, none⟩ = some (.iface t x)
theorem Err.below {w w' : World} {v g : Nat} (h : Err w v) (hb : Below g w w') (hv : v < g) : Err w' v := by
 obtain ⟨t, x, hc⟩ := h
 exact ⟨t, x, by rw [hb.cell (p := ⟨v, 0, none⟩) hv]; exact hc⟩
def addSt (most : Nat) : Option (List Int) → List Int → Option (List Int)
 | none, _ => none
 | some zs, ys => if zs.length + ys.length ≤ most then some (zs ++ ys) else none
theorem Ob.drewN {w : World} {B : Nat} {v : Value} {zs : List Int} (h : Ob w B v zs) (q : Nat) : Ob (w.drewN q) B v zs := h
theorem Rd.drewN {w : World} {a : Option Addr} {n c : Nat} {zs : List Int} (h : Rd w a n c zs) (q : Nat) : Rd (w.drewN q) a n c zs := h
set_option maxHeartbeats 400000 in
theorem fail_set (g : Nat) (t : TypeId) (x : Value) (w : World) (h : w.cell? ⟨g, 2, none⟩ = some .nilIface) (hf : w.frozen? ⟨g, 2, none⟩ = false) :
  Calls Tryz.prog 162 #[.pointer (some ⟨g, 0, none⟩), .iface t x] w fun e w' => e = .returned (.tuple #[]) ∧ w' = w.setCell ⟨g, 2, none⟩ (.iface t x) := by
 go_enter Tryz.func162, Tryz.ntmps162
 go_wp2
 go_end0
 exact ⟨rfl, rfl⟩
set_option maxHeartbeats 400000 in
theorem fail_keep (g : Nat) (t : TypeId) (x : Value) (w : World) (y : TypeId) (z : Value) (h : w.cell? ⟨g, 2, none⟩ = some (.iface y z)) :
  Calls Tryz.prog 162 #[.pointer (some ⟨g, 0, none⟩), .iface t x] w fun e w' => e = .returned (.tuple #[]) ∧ w = w' := by
 go_enter Tryz.func162, Tryz.ntmps162
 go_wp2
 go_end0
 exact ⟨rfl, rfl⟩
theorem wr_failed {w : World} {g most : Nat} {zs : List Int} {v : Value} {t : TypeId} {x : Value} (c0 : w.cell? ⟨g, 0, none⟩ = some v) (c1 : w.cell? ⟨g, 1, none⟩ = some (.int .i64 most)) (c2 : w.cell? ⟨g, 2, none⟩ = some .nilIface)
  (f0 : w.frozen? ⟨g, 0, none⟩ = false) (f2 : w.frozen? ⟨g, 2, none⟩ = false) (ho : Ob w (g + 1) v zs) (hl : zs.length ≤ most) (hm : most ≤ 1099511627776) (hb : ∀ z ∈ zs, 0 ≤ z ∧ z ≤ 255) :
  Wr (w.setCell ⟨g, 2, none⟩ (.iface t x)) g most none := by
 refine ⟨v, .iface t x, zs, ?_, ?_, ?_, ?_, ?_, ownsRow_setCell_below ho (by simp) _, hl, hm, hb, .inr ⟨⟨t, x, rfl⟩, rfl⟩⟩
 ·rw [World.cell?_setCell_other (h := by simp)]; exact c0
 ·rw [World.cell?_setCell_other (h := by simp)]; exact c1
 ·exact World.cell?_setCell_same _ _ _ c2
 ·simp [f0]
 ·simp [f2]
theorem Wr.drewN {w : World} {g most : Nat} {st : Option (List Int)} (h : Wr w g most st) (q : Nat) : Wr (w.drewN q) g most st := h
theorem Wr.lt {w : World} {g most : Nat} {st : Option (List Int)} (h : Wr w g most st) : g < w.heap.size := by
 obtain ⟨v, ev, zs, c0, _⟩ := h
 exact block_lt c0
theorem Wr.alloc {w : World} {g most : Nat} {st : Option (List Int)} (h : Wr w g most st) (o : Obj) : Wr (w.alloc o) g most st := by
 have hlt := h.lt
 obtain ⟨v, ev, zs, c0, c1, c2, f0, f2, ho, hr⟩ := h
 exact ⟨v, ev, zs, by rw [World.cell?_alloc_past (hn := hlt)]; exact c0, by rw [World.cell?_alloc_past (hn := hlt)]; exact c1, by rw [World.cell?_alloc_past (hn := hlt)]; exact c2,
  by rw [World.frozen?_alloc_past (hn := hlt)]; exact f0, by rw [World.frozen?_alloc_past (hn := hlt)]; exact f2, ho.alloc o, hr⟩
set_option maxHeartbeats 800000 in
theorem add_any (g most : Nat) (st : Option (List Int)) (a : Option Addr) (n c : Nat) (ys : List Int) (w : World) (h : Wr w g most st) (he : Err w 0) (hs : Rd w a n c ys) (hn : n ≤ 1099511627776) :
  Calls Tryz.prog 138 #[.pointer (some ⟨g, 0, none⟩), .slice a n c] w fun e w' => e = .returned (.tuple #[]) ∧ Below g w w' ∧ Wr w' g most (addSt most st ys) := by
 have HW := hid h
 have HS := hid hs
 have HN : Hid (n = ys.length) := hs.1
 have hyb := at_byte hs.2.2.2.2.1
 have HY := hid hyb
 have hlt := h.lt
 obtain ⟨v, ev, zs, c0, c1, c2, f0, f2, ho, hl, hm, hb, hst⟩ := h
 obtain ⟨t, x, hx⟩ := he
 obtain ⟨va, vc, hv⟩ := ho.shape
 have HO := hid ho
 have HB := hid hb
 have HV := hid hv
 rw [hv] at c0
 generalize hL : zs.length = L at hv hl c0
 have HL := hid hL
 clear ho hb hs hyb hL hv
 by_cases hbig : (most : Int) - (L : Int) < (n : Int)
 ·rcases hst with ⟨rfl, rfl⟩ | ⟨⟨y, z, rfl⟩, rfl⟩
  ·have HA : Hid (addSt most (some zs) ys = none) := by
    show addSt most (some zs) ys = none
    unfold addSt
    exact if_neg (by rw [HL.out, ← HN.out]; omega)
   go_enter Tryz.func138, Tryz.ntmps138
   go_wp2
   go_quiet (fail)
   go_wp2_with (go_at_call 162; refine (fail_set g t x _ (by simpa using c2) (by simpa using f2)).mono ?_)
   rintro e w1 ⟨rfl, hw1⟩
   have HW1 : Hid (Wr w1 g most none) := by
    show Wr w1 g most none
    rw [hw1]
    exact wr_failed (w := w.drewN nq) (by simpa [HV.out, HL.out] using c0) (by simpa using c1) (by simpa using c2) (by simpa using f0) (by simpa using f2) HO.out (by rw [HL.out]; exact hl) hm HB.out
   have hb1 : Below g w w1 := by rw [hw1]; exact Below.setCell (p := ⟨g, 2, none⟩) (Below.drewN' (Below.refl g w) nq) (Nat.le_refl g) _
   have d2 : w1.cell? ⟨g, 2, none⟩ = some (.iface t x) := by rw [hw1]; exact World.cell?_setCell_same _ _ _ (by simpa using c2)
   clear hw1
   go_wp2
   go_end0
   exact ⟨rfl, hb1, by rw [HA.out]; exact HW1.out⟩
  ·go_enter Tryz.func138, Tryz.ntmps138
   go_wp2
   go_quiet (fail)
   go_wp2_with (go_at_call 162; refine (fail_keep g t x _ y z (by simpa using c2)).mono ?_)
   rintro e w1 ⟨rfl, rfl⟩
   go_wp2
   go_end0
   exact ⟨rfl, Below.drewN' (Below.refl _ _) nq, HW.out.drewN nq⟩
 ·rcases hst with ⟨rfl, rfl⟩ | ⟨⟨y, z, rfl⟩, rfl⟩
  ·have HA : Hid (addSt most (some zs) ys = some (zs ++ ys)) := by
    show addSt most (some zs) ys = some (zs ++ ys)
    unfold addSt
    exact if_pos (by rw [HL.out, ← HN.out]; omega)
   have HO' : Hid (Ob w (g + 1) (.slice va L vc) zs) := by show Ob w (g + 1) (.slice va L vc) zs; rw [← HL.out, ← HV.out]; exact HO.out
   go_enter Tryz.func138, Tryz.ntmps138
   go_wp2
   go_quiet (fail)
   go_wp2_with (at_builtin; refine wpList_append_rd rfl _ _ rfl (g + 1) _ zs rfl (HO'.out.drewN nq) a n c ys rfl (HS.out.drewN nq) ?b ?base ?_)
   case b => rw [HL.out, ← HN.out]; omega
   case base => simp; omega
   intro v2 w2 hown2 hg2
   have hb2 : Below (g + 1) w w2 := Ob.below (HO'.out.drewN nq) (Below.drewN' (Below.refl _ _) nq) (by simp; omega) hg2
   have HO2 := hid hown2
   obtain ⟨a2, k2, hv2⟩ := hown2.shape
   have d0 := (hb2.cell (p := ⟨g, 0, none⟩) (by simp)).trans c0
   have d1 := (hb2.cell (p := ⟨g, 1, none⟩) (by simp)).trans c1
   have d2 := (hb2.cell (p := ⟨g, 2, none⟩) (by simp)).trans c2
   have e0 := (hb2.frozen (p := ⟨g, 0, none⟩) (by simp)).trans f0
   have e2 := (hb2.frozen (p := ⟨g, 2, none⟩) (by simp)).trans f2
   generalize hL2 : (zs ++ ys).length = L2 at hv2
   have HL2 := hid hL2
   have HV2 := hid hv2
   clear hown2 hg2 hL2
   rw [hv2]
   clear hv2
   go_wp2
   go_end0
   refine ⟨rfl, Below.setCell (p := ⟨g, 0, none⟩) (hb2.mono (Nat.le_succ g)) (Nat.le_refl g) _, ?_⟩
   rw [HA.out]
   refine ⟨.slice a2 L2 k2, .nilIface, zs ++ ys, World.cell?_setCell_same _ _ _ d0, ?_, ?_, by simpa using e0, by simpa using e2, ?_, ?_, hm, byte_append HB.out HY.out, .inl ⟨rfl, rfl⟩⟩
   ·rw [World.cell?_setCell_other (h := by simp)]; exact d1
   ·rw [World.cell?_setCell_other (h := by simp)]; exact d2
   ·rw [← HV2.out]; exact ownsRow_setCell_below HO2.out (by simp) _
   ·rw [List.length_append, HL.out, ← HN.out]; omega
  ·go_enter Tryz.func138, Tryz.ntmps138
   go_wp2
   go_quiet (fail)
   go_wp2
   go_end0
   exact ⟨rfl, Below.drewN' (Below.refl _ _) nq, HW.out.drewN nq⟩
set_option maxHeartbeats 400000 in
theorem addByte_any (g most : Nat) (st : Option (List Int)) (z : Int) (w : World) (h : Wr w g most st) (he : Err w 0) (hg : 0 < g) (h0 : 0 ≤ z) (h1 : z ≤ 255) :
  Calls Tryz.prog 137 #[.pointer (some ⟨g, 0, none⟩), .int .u8 z] w fun e w' => e = .returned (.tuple #[]) ∧ Below g w w' ∧ Wr w' g most (addSt most st [z]) := by
 have hlt := h.lt
 have HW := hid h
 have HE := hid he
 clear h he
 have hb1 : Below g w (w.alloc (.cells #[.int .u8 z] 5)) := (Below.refl _ _).alloc (Nat.le_of_lt hlt) _
 have HB := hid hb1
 clear hb1
 go_enter Tryz.func137, Tryz.ntmps137
 go_wp2_with (go_at_call 138; refine (add_any g most st _ 1 1 [z] _ (HW.out.alloc _) (HE.out.below HB.out hg) (rd_one w z h0 h1) (by omega)).mono ?_; rintro e w1 ⟨rfl, hb, hw⟩)
 go_end0
 exact ⟨rfl, HB.out.trans hb, hw⟩
set_option maxHeartbeats 400000 in
theorem isNumber_any (n : Int) (w : World) (b : Bool) (hb : b = decide (0 ≤ n ∧ n ≤ 1099511627775)) :
  Calls Tryz.prog 199 #[.int .i64 n] w fun e w' => e = .returned (.bool b) ∧ w = w' := by
 have HB : Hid (b = decide (0 ≤ n ∧ n ≤ 1099511627775)) := hb
 clear hb
 by_cases h0 : 0 ≤ n
 ·by_cases h1 : n ≤ 1099511627775
  ·go_enter Tryz.func199, Tryz.ntmps199
   go_wp2
   go_ret
   exact ⟨by rw [HB.out]; simp [h0, h1], rfl⟩
  ·go_enter Tryz.func199, Tryz.ntmps199
   go_wp2
   go_ret
   exact ⟨by rw [HB.out]; simp [h1], rfl⟩
 ·go_enter Tryz.func199, Tryz.ntmps199
  go_wp2
  go_ret
  exact ⟨by rw [HB.out, decide_eq_false (by omega)]; rfl, rfl⟩
set_option maxHeartbeats 400000 in
theorem newWriter_any (most : Nat) (a : Option Addr) (n c : Nat) (ys : List Int) (w : World) (he : Err w 0) (hg : 0 < w.heap.size) (hs : Rd w a n c ys) (hn : n ≤ 1099511627776) (hm : most ≤ 1099511627776) :
  Calls Tryz.prog 136 #[.slice a n c, .int .i64 most] w fun e w' => e = .returned (.pointer (some ⟨w.heap.size, 0, none⟩)) ∧ Below w.heap.size w w' ∧ Wr w' w.heap.size most (addSt most (some []) ys) := by
 have HE := hid he
 have HS := hid hs
 have HG := hid hg
 clear he hs hg
 go_enter Tryz.func136, Tryz.ntmps136
 have hw0 : Wr (w.alloc (.cells #[.slice none 0 0, .int .i64 most, .nilIface] 208)) w.heap.size most (some []) := by
  refine ⟨.slice none 0 0, .nilIface, [], ?_, ?_, ?_, World.frozen?_alloc_at (hn := rfl) .., World.frozen?_alloc_at (hn := rfl) .., World.ownsRow_nil _ _ _ _, by simp, hm, by simp, .inl ⟨rfl, rfl⟩⟩
  ·rw [World.cell?_alloc_at (hn := rfl)]; rfl
  ·rw [World.cell?_alloc_at (hn := rfl)]; rfl
  ·rw [World.cell?_alloc_at (hn := rfl)]; rfl
 have hb0 : Below w.heap.size w (w.alloc (.cells #[.slice none 0 0, .int .i64 most, .nilIface] 208)) := (Below.refl _ _).alloc (Nat.le_refl _) _
 have HW0 := hid hw0
 have HB0 := hid hb0
 clear hw0 hb0
 go_wp2_with (go_at_call 138; refine (add_any w.heap.size most (some []) a n c ys _ HW0.out (HE.out.below HB0.out HG.out) (HS.out.kept HB0.out) hn).mono ?_; rintro e w1 ⟨rfl, hb1, hw1⟩)
 go_ret
 exact ⟨rfl, HB0.out.trans hb1, hw1⟩
set_option maxHeartbeats 400000 in
theorem told_none (g most : Nat) (w : World) (h : Wr w g most none) :
  Calls Tryz.prog 140 #[.pointer (some ⟨g, 0, none⟩)] w fun e w' => e = .returned (.tuple #[.slice none 0 0, .bool false]) ∧ w = w' := by
 obtain ⟨v, ev, zs, c0, c1, c2, f0, f2, ho, hl, hm, hb, ⟨_, h⟩ | ⟨⟨t, x, rfl⟩, _⟩⟩ := h
 ·cases h
 ·clear ho hb
  go_enter Tryz.func140, Tryz.ntmps140
  go_wp2
  go_ret2
  exact ⟨rfl, rfl⟩
set_option maxHeartbeats 400000 in
theorem told_some (g most : Nat) (out : List Int) (w : World) (h : Wr w g most (some out)) :
  Calls Tryz.prog 140 #[.pointer (some ⟨g, 0, none⟩)] w fun e w' => ∃ v, e = .returned (.tuple #[v, .bool true]) ∧ Ob w (g + 1) v out ∧ w = w' := by
 obtain ⟨v, ev, zs, c0, c1, c2, f0, f2, ho, hl, hm, hb, ⟨rfl, h⟩ | ⟨⟨t, x, rfl⟩, h⟩⟩ := h
 ·cases h
  obtain ⟨va, vc, hv⟩ := ho.shape
  have HO := hid ho
  have HV := hid hv
  rw [hv] at c0
  clear ho hb hv
  go_enter Tryz.func140, Tryz.ntmps140
  go_wp2
  go_ret2
  exact ⟨_, rfl, by have := HO.out; rw [HV.out] at this; exact this, rfl⟩
 ·cases h
open Go.RowKit
set_option maxHeartbeats 400000 in
theorem specNum_any (n : Int) (w : World) (b : Bool) (hb : b = decide (0 ≤ n ∧ n ≤ 1099511627775)) :
  Calls Tryz.prog 129 #[.int .i64 n] w fun e w' => e = .returned (.bool b) ∧ w = w' := by
 have HB : Hid (b = decide (0 ≤ n ∧ n ≤ 1099511627775)) := hb
 clear hb
 by_cases h0 : 0 ≤ n
 ·by_cases h1 : n ≤ 1099511627775
  ·go_enter Tryz.func129, Tryz.ntmps129
   go_wp2
   go_ret
   exact ⟨by rw [HB.out]; simp [h0, h1], rfl⟩
  ·go_enter Tryz.func129, Tryz.ntmps129
   go_wp2
   go_ret
   exact ⟨by rw [HB.out]; simp [h1], rfl⟩
 ·go_enter Tryz.func129, Tryz.ntmps129
  go_wp2
  go_ret
  exact ⟨by rw [HB.out, decide_eq_false (by omega)]; rfl, rfl⟩
def Put (w : World) (r : Option (List Int)) (e : Ending) (w' : World) : Prop :=
 Below w.heap.size w w' ∧ ((r = none ∧ e = .returned (.tuple #[.slice none 0 0, .bool false])) ∨ ∃ v zs, r = some zs ∧ e = .returned (.tuple #[v, .bool true]) ∧ Ob w' w.heap.size v zs)
set_option maxHeartbeats 800000 in
theorem specPutVar_any (a : Option Addr) (n c : Nat) (zs : List Int) (m : Int) (w : World) (h : Rd w a n c zs) (hlen : n ≤ 1099511627776) :
  Calls Tryz.prog 141 #[.slice a n c, .int .i64 m] w fun e w' => Put w (pv zs m) e w' := by
 have HN : Hid (n = zs.length) := h.1
 by_cases hok : 0 ≤ m ∧ m ≤ 1099511627775
 ·obtain ⟨h0, h1⟩ := hok
  go_enter Tryz.func141, Tryz.ntmps141
  go_wp2_with (first
   | (go_at_call 129; refine (specNum_any m _ true (by simp [h0, h1])).mono ?_; rintro e w' ⟨rfl, rfl⟩)
   | (at_builtin; refine wpList_append_rd rfl _ _ rfl w.heap.size _ [] rfl (ob_new w w.heap.size (Nat.le_refl _)) a n c zs rfl ?src ?b ?base ?_))
  case src => exact h.kept ((Below.refl _ _).alloc (Nat.le_refl _) _)
  case b => rw [← HN.out]; simp; omega
  case base => simp
  intro v1 w1 hown1 hg1
  have hb1 : Below w.heap.size w w1 := Ob.below (ob_new w w.heap.size (Nat.le_refl _)) ((Below.refl _ _).alloc (Nat.le_refl _) _) (by simp) hg1
  have hown1' : Ob w1 w.heap.size v1 zs := by simpa using hown1
  clear hown1 hg1
  go_wp2
  go_loopw [6, 1] (fun v i wr => ∃ (f : Nat) (q : Int) (ds : List Int), i = .int .i64 q ∧ 0 ≤ q ∧ q ≤ 1099511627775 ∧ q < bnd f ∧ f ≤ 6 ∧ ds.length + f ≤ 6 ∧ ds ++ encF f q = enc m ∧ (∀ z ∈ ds, 0 ≤ z ∧ z ≤ 255) ∧ Ob wr w.heap.size v (zs ++ ds) ∧ Below w.heap.size w wr) (fun _ i _ => (intOf i).toNat)
  case atStart => exact ⟨6, m, [], rfl, h0, h1, by simp [bnd]; omega, by omega, by simp, rfl, by simp, by simpa using hown1', hb1⟩
  case round =>
   obtain ⟨f, q, ds, rfl, hq0, hq1, hqb, hf6, hdl, hds, hdb, hown, hbel⟩ := hrel
   have HD : Hid (ds ++ encF f q = enc m) := hds
   have HB : Hid (∀ z ∈ ds, 0 ≤ z ∧ z ≤ 255) := hdb
   have HQ : Hid (q < bnd f) := hqb
   have HO : Hid (Ob wr w.heap.size u6 (zs ++ ds)) := hown
   clear hds hdb hqb hown hb1 hown1'
   by_cases hge : 128 ≤ q
   ·obtain ⟨f', hf'⟩ : ∃ f', f = f' + 1 := by
     cases f with
     | zero => have := HQ.out; simp [bnd] at this; omega
     | succ f => exact ⟨f, rfl⟩
    subst hf'
    have HD2 : Hid (ds ++ [128 + q % 128] ++ encF f' (q / 128) = enc m) := by
     show ds ++ [128 + q % 128] ++ encF f' (q / 128) = enc m
     rw [← HD.out, encF_big f' q hge]; simp
    have HQ2 : Hid (q / 128 < bnd f') := bnd_down f' q HQ.out
    go_wp2_with (at_builtin; refine wpList_append_rd rfl _ _ rfl w.heap.size _ (zs ++ ds) rfl (HO.out.alloc _) _ _ _ [128 + q % 128] rfl ?src ?b ?base ?_)
    case src => exact rd_one wr (128 + q % 128) (by omega) (by omega)
    case b => have := HN.out; simp; omega
    case base => have := hbel.size; simp; omega
    intro v2 w2 hown2 hg2
    have hb2 : Below w.heap.size w w2 := Ob.below (HO.out.alloc _) (hbel.alloc hbel.size _) (by have := hbel.size; simp; omega) hg2
    have HO2 : Hid (Ob w2 w.heap.size v2 (zs ++ (ds ++ [128 + q % 128]))) := hown2
    clear hown2 hg2
    go_wp2
    go_roundw
    case rel => exact ⟨f', q / 128, ds ++ [128 + q % 128], rfl, by omega, by omega, HQ2.out, by omega, by simp; omega, HD2.out, byte_append HB.out (by intro z hz; simp at hz; omega), HO2.out, hb2⟩
    case measure => simp [intOf]; omega
   ·have HE : Hid (ds ++ [q] = enc m) := by
     show ds ++ [q] = enc m
     rw [← HD.out, encF_small f q (by omega)]
    go_wp2_with (at_builtin; refine wpList_append_rd rfl _ _ rfl w.heap.size _ (zs ++ ds) rfl (HO.out.alloc _) _ _ _ [q] rfl ?src ?b ?base ?_)
    case src => exact rd_one wr q (by omega) (by omega)
    case b => have := HN.out; simp; omega
    case base => have := hbel.size; simp; omega
    intro v2 w2 hown2 hg2
    have hb2 : Below w.heap.size w w2 := Ob.below (HO.out.alloc _) (hbel.alloc hbel.size _) (by have := hbel.size; simp; omega) hg2
    have hown3 : Ob w2 w.heap.size v2 (zs ++ enc m) := by
     rw [← HE.out]; exact hown2
    have HO2 : Hid (Ob w2 w.heap.size v2 (zs ++ enc m)) := hown3
    obtain ⟨a2, c2, hv2⟩ := hown3.shape
    have hl2 : (zs ++ enc m).length ≤ 1099511627783 := by
     have := (enc_len m).2
     have := HN.out
     simp; omega
    generalize hL : (zs ++ enc m).length = L at hv2 hl2
    have HL : Hid ((zs ++ enc m).length = L) := hL
    clear hown2 hg2 hown3 hL
    rw [hv2]
    by_cases hbig : 4096 < L
    ·go_wp2
     go_ret2
     exact ⟨hb2, .inl ⟨pv_long _ _ (by rw [HL.out]; exact hbig), rfl⟩⟩
    ·go_wp2
     go_ret2
     exact ⟨hb2, .inr ⟨_, _, pv_ok _ _ h0 h1 (by rw [HL.out]; omega), rfl, by rw [← hv2]; exact HO2.out⟩⟩
 ·have HB : Hid (pv zs m = none) := pv_bad zs m (by omega)
  go_enter Tryz.func141, Tryz.ntmps141
  go_wp2_with (go_at_call 129; refine (specNum_any m _ false (by rw [decide_eq_false hok])).mono ?_; rintro e w' ⟨rfl, rfl⟩)
  go_ret2
  exact ⟨Below.refl _ _, .inl ⟨HB.out, rfl⟩⟩
open Go.RowKit
theorem addSt_start (most : Nat) (zs : List Int) : addSt most (some []) zs = if zs.length ≤ most then some zs else none := by
 unfold addSt; simp
theorem Ob.mono {w : World} {B B' : Nat} {v : Value} {zs : List Int} (h : Ob w B v zs) (hB : B' ≤ B) : Ob w B' v zs := by
 obtain ⟨h1, h2⟩ := h
 refine ⟨h1, ?_⟩
 rcases h2 with h | ⟨g, cap, cur, e, hbg, hr⟩
 ·exact .inl h
 ·exact .inr ⟨g, cap, cur, e, Nat.le_trans hB hbg, hr⟩
theorem told_put (w w1 : World) (most : Nat) (st : Option (List Int)) (h : Wr w1 w.heap.size most st) (hb : Below w.heap.size w w1) :
  Calls Tryz.prog 140 #[.pointer (some ⟨w.heap.size, 0, none⟩)] w1 fun e w' => ∃ v b, e = .returned (.tuple #[v, .bool b]) ∧ (∃ a n c, v = .slice a n c) ∧ Put w st (.returned (.tuple #[v, .bool b])) w' := by
 cases st with
 | none =>
  refine (told_none w.heap.size most w1 h).mono ?_
  rintro e w' ⟨rfl, rfl⟩
  exact ⟨_, _, rfl, ⟨_, _, _, rfl⟩, hb, .inl ⟨rfl, rfl⟩⟩
 | some out =>
  refine (told_some w.heap.size most out w1 h).mono ?_
  rintro e w' ⟨v, rfl, ho, rfl⟩
  obtain ⟨a, c, hv⟩ := ho.shape
  exact ⟨_, _, rfl, ⟨_, _, _, hv⟩, hb, .inr ⟨v, out, rfl, rfl, ho.mono (Nat.le_succ _)⟩⟩
open Go.RowKit
theorem specPutVar_none (a : Option Addr) (n c : Nat) (zs : List Int) (m : Int) (w : World) (h : Rd w a n c zs) (hlen : n ≤ 1099511627776) (hr : pv zs m = none) :
  Calls Tryz.prog 141 #[.slice a n c, .int .i64 m] w fun e w' => e = .returned (.tuple #[.slice none 0 0, .bool false]) ∧ Below w.heap.size w w' := by
 refine (specPutVar_any a n c zs m w h hlen).mono ?_
 rintro e w' ⟨hb, ⟨_, he⟩ | ⟨v, zs', hr', _⟩⟩
 ·exact ⟨he, hb⟩
 ·rw [hr] at hr'; cases hr'
theorem specPutVar_some (a : Option Addr) (n c : Nat) (zs out : List Int) (m : Int) (w : World) (h : Rd w a n c zs) (hlen : n ≤ 1099511627776) (hr : pv zs m = some out) :
  Calls Tryz.prog 141 #[.slice a n c, .int .i64 m] w fun e w' => ∃ v, e = .returned (.tuple #[v, .bool true]) ∧ Ob w' w.heap.size v out ∧ Below w.heap.size w w' := by
 refine (specPutVar_any a n c zs m w h hlen).mono ?_
 rintro e w' ⟨hb, ⟨hr', _⟩ | ⟨v, zs', hr', he, ho⟩⟩
 ·rw [hr] at hr'; cases hr'
 ·rw [hr] at hr'; cases hr'
  exact ⟨v, he, ho, hb⟩
theorem Ob.drew {w : World} {B : Nat} {v : Value} {zs : List Int} (h : Ob w B v zs) : Ob w.drew B v zs := h
def pt (zs : List Int) (s : ByteArray) : Option (List Int) := if (zs ++ enc s.size ++ bytesOf s).length ≤ 4096 then some (zs ++ enc s.size ++ bytesOf s) else none
set_option maxHeartbeats 800000 in
theorem specPutText_any (a : Option Addr) (n c : Nat) (zs : List Int) (s : ByteArray) (w : World) (h : Rd w a n c zs) (hlen : n ≤ 1099511627776) (hs : s.size ≤ 1048576) :
  Calls Tryz.prog 143 #[.slice a n c, .string s] w fun e w' => Put w (pt zs s) e w' := by
 have HR := hid h
 clear h
 by_cases h1 : (zs ++ enc s.size).length ≤ 4096
 ·have HP := hid (pv_ok zs s.size (by omega) (by omega) h1)
  have hol : (zs ++ enc s.size).length ≤ 4096 := h1
  have HT : Hid (pt zs s = if (zs ++ enc s.size).length + s.size ≤ 4096 then some (zs ++ enc s.size ++ bytesOf s) else none) := by
   show pt zs s = _
   unfold pt
   rw [show (zs ++ enc s.size ++ bytesOf s).length = (zs ++ enc s.size).length + s.size from by rw [List.length_append, bytesOf_len]]
  clear h1
  generalize zs ++ enc s.size = out at HP hol HT
  generalize hL : out.length = L at HT hol
  have HL := hid hL
  clear hL
  have hcv := fun w => run_bytes_of_string (P := Tryz.prog) w 9 89 5 s Tryz.underlying9 Tryz.underlying89 Tryz.underlying5
  by_cases hbig : (4096 : Int) - (L : Int) < (s.size : Int)
  ·have HN : Hid (pt zs s = none) := by show pt zs s = none; rw [HT.out]; exact if_neg (by omega)
   go_enter Tryz.func143, Tryz.ntmps143
   go_wp2_with fail
   refine (specPutVar_some a n c zs out _ w HR.out hlen HP.out).mono ?_
   rintro e w1 ⟨v, rfl, ho, hb1⟩
   obtain ⟨a1, c1, hv⟩ := ho.shape
   have HO := hid ho
   rw [HL.out] at hv
   clear ho
   rw [hv]
   go_wp2
   go_ret2
   exact ⟨hb1, .inl ⟨HN.out, rfl⟩⟩
  ·have HN : Hid (pt zs s = some (out ++ bytesOf s)) := by show pt zs s = some (out ++ bytesOf s); rw [HT.out]; exact if_pos (by omega)
   go_enter Tryz.func143, Tryz.ntmps143
   go_wp2_with fail
   refine (specPutVar_some a n c zs out _ w HR.out hlen HP.out).mono ?_
   rintro e w1 ⟨v, rfl, ho, hb1⟩
   obtain ⟨a1, c1, hv⟩ := ho.shape
   rw [HL.out] at hv
   have HO : Hid (Ob w1 w.heap.size (.slice a1 L c1) out) := by show Ob w1 w.heap.size (.slice a1 L c1) out; rw [← hv]; exact ho
   clear ho
   rw [hv]
   clear hv
   go_wp2_with (at_builtin; refine wpList_append_rd rfl _ _ rfl w.heap.size _ out rfl ?own _ _ _ (bytesOf s) rfl ?src ?b ?base ?_)
   case own => exact HO.out.alloc _
   case src => exact rd_conv _ s _ _ (by omega) (grownCap_ge _ _ _ _) (by have := grownCap_le_maxLen w1 s.size 0 5 (by unfold maxLen; omega); unfold maxLen at this; omega)
   case b => rw [HL.out, bytesOf_len]; omega
   case base => have := hb1.size; simp; omega
   intro v2 w2 hown2 hg2
   have hb2 : Below w.heap.size w w2 := Ob.below (HO.out.alloc _).drew ((hb1.alloc hb1.size _).drew) (by have := hb1.size; simp; omega) hg2
   have HO2 := hid hown2
   obtain ⟨a2, c2, hv2⟩ := hown2.shape
   clear hown2 hg2
   go_wp2
   go_ret2
   exact ⟨hb2, .inr ⟨v2, out ++ bytesOf s, HN.out, rfl, HO2.out⟩⟩
 ·have HP := hid (pv_long zs s.size (by omega))
  have HN : Hid (pt zs s = none) := by
   show pt zs s = none
   unfold pt
   rw [show (zs ++ enc s.size ++ bytesOf s).length = (zs ++ enc s.size).length + s.size from by rw [List.length_append, bytesOf_len]]
   exact if_neg (by omega)
  go_enter Tryz.func143, Tryz.ntmps143
  go_wp2_with (go_at_call 141; refine (specPutVar_none a n c zs _ w HR.out hlen HP.out).mono ?_; rintro e w1 ⟨rfl, hb1⟩)
  go_ret2
  exact ⟨hb1, .inl ⟨HN.out, rfl⟩⟩
open Go.RowKit
def fl (zs : List Int) (m : Int) : Option (List Int) := if (zs.length : Int) ≤ m ∧ m ≤ 4096 then some (zs ++ List.replicate (m - zs.length).toNat 0) else none
theorem fl_bad (zs : List Int) (m : Int) (h : m < zs.length ∨ 4096 < m) : fl zs m = none := by unfold fl; exact if_neg (by omega)
theorem fl_ok (zs : List Int) (k : Nat) (h : zs.length + k ≤ 4096) : fl zs ((zs.length : Int) + (k : Int)) = some (zs ++ List.replicate k 0) := by
 unfold fl
 rw [if_pos (by omega)]
 congr 3
 omega
set_option maxHeartbeats 800000 in
theorem specFill_any (a : Option Addr) (n c : Nat) (zs : List Int) (m : Int) (w : World) (h : Rd w a n c zs) (hlen : n ≤ 1099511627776) :
  Calls Tryz.prog 93 #[.slice a n c, .int .i64 m] w fun e w' => Put w (fl zs m) e w' := by
 have HN : Hid (n = zs.length) := h.1
 have HR := hid h
 clear h
 by_cases h0 : m < 0
 ·have HF : Hid (fl zs m = none) := fl_bad zs m (by omega)
  go_enter Tryz.func93, Tryz.ntmps93
  go_wp2
  go_ret2
  exact ⟨Below.refl _ _, .inl ⟨HF.out, rfl⟩⟩
 ·by_cases h1 : 4096 < m
  ·have HF : Hid (fl zs m = none) := fl_bad zs m (by omega)
   go_enter Tryz.func93, Tryz.ntmps93
   go_wp2
   go_ret2
   exact ⟨Below.refl _ _, .inl ⟨HF.out, rfl⟩⟩
  ·by_cases h2 : m < (n : Int)
   ·have HF : Hid (fl zs m = none) := fl_bad zs m (by rw [← HN.out]; exact .inl h2)
    go_enter Tryz.func93, Tryz.ntmps93
    go_wp2
    go_ret2
    exact ⟨Below.refl _ _, .inl ⟨HF.out, rfl⟩⟩
   ·obtain ⟨k, hk⟩ : ∃ k : Nat, m - (n : Int) = (k : Int) := ⟨(m - (n : Int)).toNat, by omega⟩
    have HF : Hid (fl zs m = some (zs ++ List.replicate k 0)) := by
     show fl zs m = some (zs ++ List.replicate k 0)
     have := fl_ok zs k (by rw [← HN.out]; omega)
     rw [← HN.out] at this
     rw [← this]; congr 1; omega
    have HK := hid hk
    have hkb : k ≤ 4096 := by omega
    clear hk
    go_enter Tryz.func93, Tryz.ntmps93
    go_wp2_with (at_builtin; refine wpList_append_rd rfl _ _ rfl w.heap.size _ [] rfl (ob_new w w.heap.size (Nat.le_refl _)) a n c zs rfl ?src ?b ?base ?_)
    case src => exact HR.out.kept ((Below.refl _ _).alloc (Nat.le_refl _) _)
    case b => rw [← HN.out]; omega
    intro v1 w1 hown1 hg1
    have hb1 : Below w.heap.size w w1 := Ob.below (ob_new w w.heap.size (Nat.le_refl _)) ((Below.refl _ _).alloc (Nat.le_refl _) _) (by simp) hg1
    have HO : Hid (Ob w1 w.heap.size v1 zs) := by show Ob w1 w.heap.size v1 zs; simpa using hown1
    clear hown1 hg1
    go_wp2_with (at_builtin; refine wpList_append_zeros rfl _ _ rfl w.heap.size _ zs rfl HO.out k (congrArg (Value.int .i64) HK.out) ?b2 ?base2 ?_)
    case b2 => rw [← HN.out]; omega
    case base2 => exact hb1.size
    intro v2 w2 hown2 hg2
    have hb2 : Below w.heap.size w w2 := Ob.below HO.out hb1 hb1.size hg2
    have HO2 := hid hown2
    clear hown2 hg2
    go_wp2
    go_ret2
    exact ⟨hb2, .inr ⟨v2, _, HF.out, rfl, HO2.out⟩⟩
def fillSt (most : Nat) : Option (List Int) → Int → Option (List Int)
 | none, _ => none
 | some zs, m => if (zs.length : Int) ≤ m ∧ m ≤ most then some (zs ++ List.replicate (m - zs.length).toNat 0) else none
theorem rd_zero (w : World) (k : Nat) (hk : k ≤ 1048576) : Rd (w.alloc (.cells (madeCells #[.int .u8 0] k) 5)) (some ⟨w.heap.size, 0, none⟩) k k (List.replicate k 0) := by
 refine ⟨by simp, Nat.le_refl _, by omega, by omega, fun i => ?_, fun _ => ⟨w.heap.size, 0, rfl, by simp, fun i hi => ?_⟩⟩
 ·by_cases hi : i < k
  ·simp [hi]
  ·rw [List.getElem?_eq_none (by simp; omega)]; simp
 ·rw [World.cell?_alloc_at (hn := rfl)]
  simp [madeCells, hi, Nat.mod_one]
set_option maxHeartbeats 800000 in
theorem fill_any (g most : Nat) (st : Option (List Int)) (m : Int) (w : World) (h : Wr w g most st) (hm4 : most ≤ 1048576) (he : Err w 0) (he2 : Err w 1) (hg : 0 < g) :
  Calls Tryz.prog 139 #[.pointer (some ⟨g, 0, none⟩), .int .i64 m] w fun e w' => e = .returned (.tuple #[]) ∧ Below g w w' ∧ Wr w' g most (fillSt most st m) := by
 have HW := hid h
 have HE := hid he
 have hlt := h.lt
 obtain ⟨v, ev, zs, c0, c1, c2, f0, f2, ho, hl, hm, hb, hst⟩ := h
 obtain ⟨t, x, hx⟩ := he2
 obtain ⟨va, vc, hv⟩ := ho.shape
 have HO := hid ho
 have HB := hid hb
 have HV := hid hv
 rw [hv] at c0
 generalize hL : zs.length = L at hv hl c0
 have HL := hid hL
 clear ho hb hL hv he
 by_cases hbad : m < (L : Int) ∨ (most : Int) < m
 ·rcases hst with ⟨rfl, rfl⟩ | ⟨⟨y, z, rfl⟩, rfl⟩
  ·have HA : Hid (fillSt most (some zs) m = none) := by
    show fillSt most (some zs) m = none
    unfold fillSt
    exact if_neg (by rw [HL.out]; omega)
   rcases (by omega : m < (L : Int) ∨ (¬ m < (L : Int) ∧ (most : Int) < m)) with hb1 | ⟨hb1, hb3⟩
   all_goals
    clear hbad
    go_enter Tryz.func139, Tryz.ntmps139
    go_wp2_with (go_at_call 162; refine (fail_set g t x _ c2 f2).mono ?_; rintro e w1 ⟨rfl, hw1⟩)
    go_end0
    refine ⟨rfl, Below.setCell (p := ⟨g, 2, none⟩) (Below.refl g w) (Nat.le_refl g) _, ?_⟩
    rw [HA.out]
    exact wr_failed (by rw [c0, HV.out, HL.out]) c1 c2 f0 f2 HO.out (by rw [HL.out]; exact hl) hm HB.out
  ·rcases (by omega : m < (L : Int) ∨ (¬ m < (L : Int) ∧ (most : Int) < m)) with hb1 | ⟨hb1, hb3⟩
   all_goals
    clear hbad
    go_enter Tryz.func139, Tryz.ntmps139
    go_wp2_with (go_at_call 162; refine (fail_keep g t x _ y z c2).mono ?_; rintro e w1 ⟨rfl, rfl⟩)
    go_end0
    exact ⟨rfl, Below.refl _ _, HW.out⟩
 ·have hb1 : ¬ m < (L : Int) := by omega
  have hb2 : ¬ (most : Int) < m := by omega
  clear hbad
  rcases hst with ⟨rfl, rfl⟩ | ⟨⟨y, z, rfl⟩, rfl⟩
  ·obtain ⟨k, hk⟩ : ∃ k : Nat, m - (L : Int) = (k : Int) := ⟨(m - (L : Int)).toNat, by omega⟩
   have hkb : k ≤ 1048576 := by omega
   have HK := hid hk
   clear hk
   have HA : Hid (fillSt most (some zs) m = addSt most (some zs) (List.replicate k 0)) := by
    show fillSt most (some zs) m = addSt most (some zs) (List.replicate k 0)
    have := HK.out
    have e1 : fillSt most (some zs) m = if (zs.length : Int) ≤ m ∧ m ≤ most then some (zs ++ List.replicate (m - zs.length).toNat 0) else none := rfl
    have e2 : addSt most (some zs) (List.replicate k 0) = if zs.length + (List.replicate k (0 : Int)).length ≤ most then some (zs ++ List.replicate k 0) else none := rfl
    rw [e1, e2, HL.out, this, if_pos (by omega), if_pos (by simp; omega)]
    simp
   have hmk : ∀ w, (Instr.makeSlice 89 (.int .i64 (m - (L : Int))) (.int .i64 (m - (L : Int)))).run Tryz.prog w = .ok (.slice (some ⟨w.heap.size, 0, none⟩) k k) (w.alloc (.cells (madeCells #[.int .u8 0] k) 5)) := fun w => by
    rw [HK.out]
    exact run_make_row' (P := Tryz.prog) 89 5 (.int .u8 0) 1 Tryz.underlying89 infoU8 rfl .i64 .i64 k (by omega) (by omega) w
   have HB0 := hid (show Below g w (w.alloc (.cells (madeCells #[.int .u8 0] k) 5)) from (Below.refl _ _).alloc (Nat.le_of_lt hlt) _)
   go_enter Tryz.func139, Tryz.ntmps139
   go_wp2_with (go_at_call 138; refine (add_any g most (some zs) _ k k (List.replicate k 0) _ (HW.out.alloc _) (HE.out.below HB0.out hg) (rd_zero w k hkb) (by omega)).mono ?_; rintro e w1 ⟨rfl, hb, hw⟩)
   go_end0
   exact ⟨rfl, HB0.out.trans hb, by rw [HA.out]; exact hw⟩
  ·go_enter Tryz.func139, Tryz.ntmps139
   go_wp2
   go_end0
   exact ⟨rfl, Below.refl _ _, HW.out⟩
theorem fillSt_fl (zs : List Int) (m : Int) : fillSt 4096 (addSt 4096 (some []) zs) m = fl zs m := by
 rw [addSt_start]
 by_cases h : zs.length ≤ 4096
 ·rw [if_pos h]; rfl
 ·rw [if_neg h, fl_bad zs m (by omega)]; rfl
set_option maxHeartbeats 400000 in
theorem implFill_any (a : Option Addr) (n c : Nat) (zs : List Int) (m : Int) (w : World) (h : Rd w a n c zs) (hlen : n ≤ 1099511627776)
  (he : Err w 0) (he2 : Err w 1) (hg : 0 < w.heap.size) (hg2 : 1 < w.heap.size) :
  Calls Tryz.prog 164 #[.slice a n c, .int .i64 m] w fun e w' => Put w (fl zs m) e w' := by
 have HR := hid h
 have HE := hid he
 have HE2 := hid he2
 have HG := hid hg
 have HG2 := hid hg2
 have HP := hid (fillSt_fl zs m)
 clear h he he2 hg hg2
 go_enter Tryz.func164, Tryz.ntmps164
 go_wp2_with fail
 refine (newWriter_any 4096 a n c zs w HE.out HG.out HR.out hlen (by omega)).mono ?_
 rintro e w1 ⟨rfl, hb1, hw1⟩
 have HB1 := hid hb1
 have HW1 := hid hw1
 clear hb1 hw1
 go_wp2_with fail
 refine (fill_any w.heap.size 4096 _ m w1 HW1.out (by omega) (HE.out.below HB1.out HG.out) (HE2.out.below HB1.out HG2.out) HG.out).mono ?_
 rintro e w2 ⟨rfl, hb2, hw2⟩
 have HB2 := hid (HB1.out.trans hb2)
 have HW2 := hid hw2
 clear hb2 hw2
 go_wp2_with fail
 refine (told_put w w2 4096 _ HW2.out HB2.out).mono ?_
 rintro e w3 ⟨v, b, rfl, ⟨a3, n3, c3, hv⟩, hput⟩
 rw [HP.out] at hput
 have HQ := hid hput
 clear hput
 rw [hv] at HQ
 rw [hv]
 go_wp2
 go_ret2
 exact HQ.out
open Go.RowKit
def pgHead (p : PG) : List Int := (if p.kids.length = 0 then [76] else [66]) ++ enc p.keys.length ++ (if p.kids.length = 0 then [] else enc (iAt p.kids 0))
def pgPart (p : PG) (i : Nat) : List Int := enc (sAt p.keys i).size ++ bytesOf (sAt p.keys i) ++ (if p.kids.length = 0 then enc (sAt p.vals i).size ++ bytesOf (sAt p.vals i) else enc (iAt p.kids (i + 1)))
def pgBody (p : PG) : Nat → List Int
 | 0 => pgHead p
 | j + 1 => pgBody p j ++ pgPart p j
def pgRaw (p : PG) : List Int := pgBody p p.keys.length
def pgFull (p : PG) : List Int := pgRaw p ++ List.replicate (512 - (pgRaw p).length) 0
def pgBytes (p : PG) : Option (List Int) := if pgOk p = true then some (pgFull p) else none
theorem sOkF_all (ss : List ByteArray) : ∀ f k, sOkF ss f k = true → ∀ i, k ≤ i → i < k + f → kOk (ss[i]?.getD ⟨#[]⟩) = true
 | 0, k, _, i, h1, h2 => by omega
 | f + 1, k, h, i, h1, h2 => by
  simp only [sOkF, Bool.and_eq_true] at h
  by_cases e : i = k
  ·rw [e]; exact h.1.1
  ·exact sOkF_all ss f (k + 1) h.2 i (by omega) (by omega)
theorem all_at {α : Type} {l : List α} {f : α → Bool} (h : l.all f = true) (d : α) {i : Nat} (hi : i < l.length) : f (l[i]?.getD d) = true := by
 have := (List.all_eq_true.1 h) l[i] (List.getElem_mem hi)
 simpa [hi] using this
structure PgF (p : PG) : Prop where
 nk : p.keys.length ≤ 4
 ks : ∀ i, i < p.keys.length → (sAt p.keys i).size ≤ 16
 lf : p.kids.length = 0 → p.vals.length = p.keys.length ∧ ∀ i, i < p.vals.length → (sAt p.vals i).size ≤ 60
 br : ¬ p.kids.length = 0 → p.kids.length = p.keys.length + 1 ∧ ∀ i, i < p.kids.length → 2 ≤ iAt p.kids i ∧ iAt p.kids i < 400
theorem pgOk_facts {p : PG} (h : pgOk p = true) : PgF p := by
 simp only [pgOk, Bool.and_eq_true] at h
 obtain ⟨h1, h2⟩ := h
 have hks : ∀ i, i < p.keys.length → (sAt p.keys i).size ≤ 16 := by
  intro i hi
  have := sOkF_all _ _ _ h1 i (Nat.zero_le _) (by omega)
  simp [kOk] at this
  exact this.2
 by_cases h0 : p.kids.length = 0
 ·rw [if_pos h0] at h2
  simp only [pgLeaf, Bool.and_eq_true, decide_eq_true_eq] at h2
  obtain ⟨h3, ⟨_, h4⟩, h5⟩ := h2
  refine ⟨h4, hks, fun _ => ⟨h5, fun i hi => ?_⟩, fun h => absurd h0 h⟩
  have := all_at h3 ⟨#[]⟩ hi
  simpa [vOk, sAt] using this
 ·rw [if_neg h0] at h2
  simp only [pgBranch, Bool.and_eq_true, decide_eq_true_eq] at h2
  obtain ⟨h3, ⟨⟨_, h4⟩, h5⟩, h6⟩ := h2
  refine ⟨by omega, hks, fun h => absurd h h0, fun _ => ⟨by omega, fun i hi => ?_⟩⟩
  have := all_at h3 0 hi
  simpa [kidOk, iAt] using this
theorem pgPart_len {p : PG} (h : PgF p) {i : Nat} (hi : i < p.keys.length) : (pgPart p i).length ≤ 90 := by
 have h1 := h.ks i hi
 have e1 := enc_len (sAt p.keys i).size
 unfold pgPart
 by_cases h0 : p.kids.length = 0
 ·obtain ⟨h2, h3⟩ := h.lf h0
  have h4 := h3 i (by omega)
  have e2 := enc_len (sAt p.vals i).size
  rw [if_pos h0]
  simp only [List.length_append, bytesOf_len]
  omega
 ·have e2 := enc_len (iAt p.kids (i + 1))
  rw [if_neg h0]
  simp only [List.length_append, bytesOf_len]
  omega
theorem pgHead_len (p : PG) : (pgHead p).length ≤ 15 := by
 have e1 := enc_len p.keys.length
 have e2 := enc_len (iAt p.kids 0)
 unfold pgHead
 split
 ·simp; omega
 ·simp; omega
theorem pgBody_len {p : PG} (h : PgF p) : ∀ j, j ≤ p.keys.length → (pgBody p j).length ≤ 15 + j * 90
 | 0, _ => by simpa [pgBody] using pgHead_len p
 | j + 1, hj => by
  have h1 := pgBody_len h j (by omega)
  have h2 := pgPart_len h (show j < p.keys.length by omega)
  rw [pgBody, List.length_append]
  omega
theorem pgPart_byte {p : PG} (h : PgF p) {i : Nat} (hi : i < p.keys.length) : ∀ z ∈ pgPart p i, 0 ≤ z ∧ z ≤ 255 := by
 have h1 := h.ks i hi
 unfold pgPart
 refine byte_append (byte_append (enc_byte _ (by omega) (by omega)) (bytesOf_byte _)) ?_
 by_cases h0 : p.kids.length = 0
 ·obtain ⟨h2, h3⟩ := h.lf h0
  have h4 := h3 i (by omega)
  rw [if_pos h0]
  exact byte_append (enc_byte _ (by omega) (by omega)) (bytesOf_byte _)
 ·obtain ⟨h2, h3⟩ := h.br h0
  have h4 := h3 (i + 1) (by omega)
  rw [if_neg h0]
  exact enc_byte _ (by omega) (by omega)
theorem pgHead_byte {p : PG} (h : PgF p) : ∀ z ∈ pgHead p, 0 ≤ z ∧ z ≤ 255 := by
 have h1 := h.nk
 unfold pgHead
 by_cases h0 : p.kids.length = 0
 ·rw [if_pos h0, if_pos h0]
  exact byte_append (byte_append (by intro z hz; simp at hz; omega) (enc_byte _ (by omega) (by omega))) (by intro z hz; cases hz)
 ·obtain ⟨h2, h3⟩ := h.br h0
  have h4 := h3 0 (by omega)
  rw [if_neg h0, if_neg h0]
  exact byte_append (byte_append (by intro z hz; simp at hz; omega) (enc_byte _ (by omega) (by omega))) (enc_byte _ (by omega) (by omega))
theorem pgBody_byte {p : PG} (h : PgF p) : ∀ j, j ≤ p.keys.length → ∀ z ∈ pgBody p j, 0 ≤ z ∧ z ≤ 255
 | 0, _ => by rw [pgBody]; exact pgHead_byte h
 | j + 1, hj => by rw [pgBody]; exact byte_append (pgBody_byte h j (by omega)) (pgPart_byte h (show j < p.keys.length by omega))
theorem Ob.rdS {w : World} {B : Nat} {v : Value} {zs : List Int} (h : Ob w B v zs) (hl : ∀ z ∈ zs, 0 ≤ z ∧ z ≤ 255) (hb : zs.length ≤ 1000) : ∃ a n c, v = .slice a n c ∧ Hid (Rd w a n c zs) ∧ n ≤ 1000 := by
 obtain ⟨a, c, e, hr, _⟩ := h.rd (byte_at hl) (by omega)
 exact ⟨a, _, c, e, hr, hb⟩
theorem Put.got {w w' : World} {r : Option (List Int)} {e : Ending} {zs : List Int} (h : Put w r e w') (hr : r = some zs) : ∃ v, e = .returned (.tuple #[v, .bool true]) ∧ Ob w' w.heap.size v zs ∧ Below w.heap.size w w' := by
 obtain ⟨hb, ⟨h1, _⟩ | ⟨v, zs', h1, h2, h3⟩⟩ := h
 ·rw [hr] at h1; cases h1
 ·rw [hr] at h1; cases h1
  exact ⟨v, h2, h3, hb⟩
structure Pw1 (w v : World) (x : Nat) (ka : Option Addr) (kn kc : Nat) (va : Option Addr) (vn vc : Nat) (ia : Option Addr) (jn ic : Nat) (p : PG) : Prop where
 be : Below w.heap.size w v
 bk : Bk v x 107 [.slice ka kn kc, .slice va vn vc, .slice ia jn ic]
 pg : Pgr v (fun _ => True) ka kn kc va vn vc ia jn ic p
theorem Pw1.below {w v v' : World} {x : Nat} {ka : Option Addr} {kn kc : Nat} {va : Option Addr} {vn vc : Nat} {ia : Option Addr} {jn ic : Nat} {p : PG} (h : Pw1 w v x ka kn kc va vn vc ia jn ic p) (hb : Below v.heap.size v v') : Pw1 w v' x ka kn kc va vn vc ia jn ic p :=
 ⟨h.be.trans (hb.mono h.be.size), h.bk.below hb, h.pg.below hb⟩
theorem Pw1.cells {w v : World} {x : Nat} {ka : Option Addr} {kn kc : Nat} {va : Option Addr} {vn vc : Nat} {ia : Option Addr} {jn ic : Nat} {p : PG} (h : Pw1 w v x ka kn kc va vn vc ia jn ic p) : v.cell? ⟨x, 0, none⟩ = some (.slice ka kn kc) ∧ v.cell? ⟨x, 1, none⟩ = some (.slice va vn vc) ∧ v.cell? ⟨x, 2, none⟩ = some (.slice ia jn ic) :=
 ⟨h.bk.cell (j := 0) rfl, h.bk.cell (j := 1) rfl, h.bk.cell (j := 2) rfl⟩
set_option maxHeartbeats 8000000 in
set_option maxRecDepth 20000 in
theorem specPageBytes_any (S : Nat → Prop) (ka : Option Addr) (kn kc : Nat) (va : Option Addr) (vn vc : Nat) (ia : Option Addr) (jn ic : Nat) (p : PG) (w : World) (h : Pgr w S ka kn kc va vn vc ia jn ic p) :
  Calls Tryz.prog 106 #[.agg #[.slice ka kn kc, .slice va vn vc, .slice ia jn ic]] w fun e w' => Put w (pgBytes p) e w' := by
 have hb0 := below_new (o := .cells #[.slice ka kn kc, .slice va vn vc, .slice ia jn ic] 107) (w := w) (Below.refl _ _)
 have L0 : Hid (Pw1 w (w.alloc (.cells #[.slice ka kn kc, .slice va vn vc, .slice ia jn ic] 107)) w.heap.size ka kn kc va vn vc ia jn ic p) := by
  have hp := h.below hb0
  exact ⟨hb0, Bk.new w 107 [.slice ka kn kc, .slice va vn vc, .slice ia jn ic], Rw.mono hp.hk (fun _ _ _ => trivial), Rw.mono hp.hv (fun _ _ _ => trivial), Rw.mono hp.hi (fun _ _ _ => trivial)⟩
 have HNK := hid (Rw.len h.hk).1
 have HNV := hid (Rw.len h.hv).1
 have HNI := hid (Rw.len h.hi).1
 have bk := (Rw.len h.hk).2
 have bv := (Rw.len h.hv).2
 have bi := (Rw.len h.hi).2
 clear h hb0
 obtain ⟨c0, c1, c2⟩ := L0.out.cells
 go_enter Tryz.func106, Tryz.ntmps106
 go_wp2_with fail
 refine (specPageOk_any _ ka kn kc va vn vc ia jn ic p _ L0.out.pg).mono ?_
 generalize w.alloc (.cells #[.slice ka kn kc, .slice va vn vc, .slice ia jn ic] 107) = U at *
 rintro e w1 ⟨rfl, hb1⟩
 have L1 := hid (L0.out.below hb1)
 clear hb1 L0 c0 c1 c2
 have HP : Hid (pgBytes p = if pgOk p = true then some (pgFull p) else none) := rfl
 cases hok : pgOk p with
 | false =>
  have HN : Hid (pgBytes p = none) := by show _ = _; rw [HP.out, hok]; rfl
  go_wp2
  go_ret2
  exact ⟨L1.out.be, .inl ⟨HN.out, rfl⟩⟩
 | true =>
  have HN : Hid (pgBytes p = some (pgFull p)) := by show _ = _; rw [HP.out, hok]; rfl
  have HF := hid (pgOk_facts hok)
  have hk4 : kn ≤ 4 := by rw [HNK.out]; exact HF.out.nk
  clear hok HP
  by_cases hi0 : jn = 0
  ·subst hi0
   have h0 : p.kids.length = 0 := HNI.out.symm
   have HEH : Hid (pgHead p = [76] ++ enc (kn : Int)) := by show _ = _; rw [pgHead, if_pos h0, if_pos h0, ← HNK.out]; simp
   have hpv : pv [76] (kn : Int) = some ([76] ++ enc (kn : Int)) := pv_ok _ _ (by omega) (by omega) (by have := enc_len (kn : Int); simp; omega)
   have HPV := hid hpv
   have HPA : Hid (∀ i, pgPart p i = enc (sAt p.keys i).size ++ bytesOf (sAt p.keys i) ++ (enc (sAt p.vals i).size ++ bytesOf (sAt p.vals i))) := fun i => by rw [pgPart, if_pos h0]
   obtain ⟨hvl, hvs⟩ := HF.out.lf h0
   have hvn : vn = kn := by rw [HNV.out, hvl, HNK.out]
   have HVS := hid hvs
   clear hpv h0 hvl hvs
   have ba := below_new (o := .cells #[.int .u8 76] 5) (w := w1) (Below.refl _ _)
   have L2 := hid (L1.out.below ba)
   have R2 := hid (rd_one w1 76 (by omega) (by omega))
   clear ba L1
   obtain ⟨c0, c1, c2⟩ := L2.out.cells
   go_wp2_with fail
   refine (specPutVar_any _ _ _ _ _ _ R2.out (by omega)).mono ?_
   generalize w1.alloc (.cells #[.int .u8 76] 5) = U2 at *
   intro e w3 hput
   obtain ⟨v3, rfl, hO3, hb3⟩ := hput.got HPV.out
   rw [← HEH.out] at hO3
   obtain ⟨a3, n3, c3, rfl, R3, hn3⟩ := hO3.rdS (pgHead_byte HF.out) (by have := pgHead_len p; omega)
   have L3 := hid (L2.out.below hb3)
   clear hput hO3 hb3 L2 R2 c0 c1 c2 HPV HEH
   obtain ⟨c0, c1, c2⟩ := L3.out.cells
   go_wp2_with fail
   clear c0 c1 c2
   go_loopw [4, 41] (fun xv i wr => ∃ (j : Nat) (a4 : Option Addr) (n4 c4 : Nat), j ≤ kn ∧ i = .int .i64 j ∧ xv = .slice a4 n4 c4 ∧ n4 ≤ 1000 ∧ Hid (Rd wr a4 n4 c4 (pgBody p j)) ∧ Hid (Pw1 w wr w.heap.size ka kn kc va vn vc ia 0 ic p)) (fun _ i _ => kn - (intOf i).toNat)
   case atStart => exact ⟨0, a3, n3, c3, Nat.zero_le _, rfl, rfl, hn3, R3.out, L3.out⟩
   case round =>
    obtain ⟨j, a4, n4, c4, hj, rfl, rfl, hn4, R4, L4⟩ := hrel
    clear R3 L3
    by_cases hlt : j < kn
    ·have hlt' : (j : Int) < (kn : Int) := by omega
     have hjl : j < p.keys.length := by rw [← HNK.out]; exact hlt
     have hjv : j < p.vals.length := by rw [← HNV.out]; omega
     obtain ⟨c0, c1, c2⟩ := L4.out.cells
     obtain ⟨kb, ko, hka, -, -, hck⟩ := L4.out.pg.hk.at (by omega)
     obtain ⟨vb, vo, hva, -, -, hcv⟩ := L4.out.pg.hv.at (by omega)
     subst hka hva
     have m0 := hck j hlt
     have hks := HF.out.ks j hjl
     have hvs := HVS.out j hjv
     have HST : Hid (pgBody p (j + 1) = pgBody p j ++ (enc (sAt p.keys j).size ++ bytesOf (sAt p.keys j) ++ (enc (sAt p.vals j).size ++ bytesOf (sAt p.vals j)))) := by show _ = _; rw [pgBody, HPA.out]
     have HLN := hid (pgBody_len HF.out j (by omega))
     have HBY := hid (pgBody_byte HF.out j (by omega))
     have HCV : Hid (∀ u, Pw1 w u w.heap.size (some ⟨kb, ko, none⟩) kn kc (some ⟨vb, vo, none⟩) vn vc ia 0 ic p → u.cell? ⟨vb, vo + j, none⟩ = some (.string (sAt p.vals j))) := by
      intro u hu
      obtain ⟨vb', vo', e, -, -, hc⟩ := hu.pg.hv.at (by omega)
      cases e
      exact hc j (by omega)
     clear hck hcv
     generalize sAt p.keys j = kk at *
     generalize sAt p.vals j = vv at *
     have ek := enc_len kk.size
     have ev := enc_len vv.size
     have HPT1 : Hid (pt (pgBody p j) kk = some (pgBody p j ++ enc kk.size ++ bytesOf kk)) := by
      show _ = _
      rw [pt, if_pos]
      have := HLN.out
      simp only [List.length_append, bytesOf_len]
      omega
     have HPT2 : Hid (pt (pgBody p j ++ enc kk.size ++ bytesOf kk) vv = some (pgBody p (j + 1))) := by
      show _ = _
      rw [pt, if_pos, HST.out]
      ·simp
      ·have := HLN.out
       simp only [List.length_append, bytesOf_len]
       omega
     have HB1 : Hid (∀ z ∈ pgBody p j ++ enc kk.size ++ bytesOf kk, 0 ≤ z ∧ z ≤ 255) := byte_append (byte_append HBY.out (enc_byte _ (by omega) (by omega))) (bytesOf_byte _)
     have HL1 : Hid ((pgBody p j ++ enc kk.size ++ bytesOf kk).length ≤ 1000) := by
      show _ ≤ _
      have := HLN.out
      simp only [List.length_append, bytesOf_len]
      omega
     have HB2 := hid (pgBody_byte HF.out (j + 1) (by omega))
     have HL2 : Hid ((pgBody p (j + 1)).length ≤ 1000) := by have := pgBody_len HF.out (j + 1) (by omega); show _ ≤ _; omega
     clear ek ev
     go_wp2_with fail
     refine (specPutText_any a4 n4 c4 _ kk _ R4.out (by omega) (by omega)).mono ?_
     intro e w5 hput
     obtain ⟨v5, rfl, hO5, hb5⟩ := hput.got HPT1.out
     obtain ⟨a5, n5, c5, rfl, R5, hn5⟩ := hO5.rdS HB1.out HL1.out
     have L5 := hid (L4.out.below hb5)
     have m5 := HCV.out _ L5.out
     clear hput hO5 hb5 L4 R4 c0 c1 c2 m0
     obtain ⟨c0, c1, c2⟩ := L5.out.cells
     go_wp2_with fail
     refine (specPutText_any a5 n5 c5 _ vv _ R5.out (by omega) (by omega)).mono ?_
     intro e w6 hput
     obtain ⟨v6, rfl, hO6, hb6⟩ := hput.got HPT2.out
     obtain ⟨a6, n6, c6, rfl, R6, hn6⟩ := hO6.rdS HB2.out HL2.out
     have L6 := hid (L5.out.below hb6)
     clear hput hO6 hb6 L5 R5 c0 c1 c2 m5 HPT1 HPT2 HB1 HL1 HB2 HL2 HST HLN HBY HCV
     go_wp2
     go_roundw
     case rel => exact ⟨j + 1, a6, n6, c6, by omega, by go_num, rfl, hn6, R6.out, L6.out⟩
     case measure => simp [intOf]; omega
    ·have hlt' : ¬ (j : Int) < (kn : Int) := by omega
     have hjk : j = p.keys.length := by rw [← HNK.out]; omega
     have HFL : Hid (fl (pgBody p j) 512 = some (pgFull p)) := by
      show _ = _
      have hl := pgBody_len HF.out p.keys.length (Nat.le_refl _)
      have hn := HF.out.nk
      rw [hjk, fl, if_pos (by omega)]
      show some (pgRaw p ++ _) = _
      rw [pgFull]
      congr 3
      show ((512 : Int) - ((pgRaw p).length : Int)).toNat = _
      omega
     clear hjk
     go_wp2_with fail
     refine (specFill_any a4 n4 c4 _ 512 _ R4.out (by omega)).mono ?_
     intro e w5 hput
     obtain ⟨v5, rfl, hO5, hb5⟩ := hput.got HFL.out
     have L5 := hid (L4.out.below hb5)
     have HO : Hid (Ob w5 w.heap.size v5 (pgFull p)) := hO5.mono L4.out.be.size
     clear hput hO5 hb5 L4 R4 HFL
     go_wp2
     go_ret2
     exact ⟨L5.out.be, .inr ⟨_, _, HN.out, rfl, HO.out⟩⟩
  ·have hi0' : (0 : Int) < (jn : Int) := by omega
   have h0 : ¬ p.kids.length = 0 := by rw [← HNI.out]; exact hi0
   obtain ⟨hil, his⟩ := HF.out.br h0
   have HJN : Hid (jn = kn + 1) := by show _ = _; rw [HNI.out, hil, HNK.out]
   have HIS := hid his
   have h00 := his 0 (by have := HNI.out; omega)
   have HEH : Hid (pgHead p = [66] ++ enc (kn : Int) ++ enc (iAt p.kids 0)) := by show _ = _; rw [pgHead, if_neg h0, if_neg h0, ← HNK.out]
   have HPV : Hid (pv [66] (kn : Int) = some ([66] ++ enc (kn : Int))) := pv_ok _ _ (by omega) (by omega) (by have := enc_len (kn : Int); simp; omega)
   have HPV2 : Hid (pv ([66] ++ enc (kn : Int)) (iAt p.kids 0) = some (pgHead p)) := by
    show _ = _
    rw [HEH.out]
    exact pv_ok _ _ (by omega) (by omega) (by have := enc_len (kn : Int); have := enc_len (iAt p.kids 0); simp; omega)
   have HBY0 : Hid (∀ z ∈ [66] ++ enc (kn : Int), 0 ≤ z ∧ z ≤ 255) := byte_append (by intro z hz; simp at hz; omega) (enc_byte _ (by omega) (by omega))
   have HLN0 : Hid (([66] ++ enc (kn : Int)).length ≤ 1000) := by have := enc_len (kn : Int); show _ ≤ _; simp; omega
   have HPA : Hid (∀ i, pgPart p i = enc (sAt p.keys i).size ++ bytesOf (sAt p.keys i) ++ enc (iAt p.kids (i + 1))) := fun i => by rw [pgPart, if_neg h0]
   clear h0 hil his
   have ba := below_new (o := .cells #[.int .u8 66] 5) (w := w1) (Below.refl _ _)
   have L2 := hid (L1.out.below ba)
   have R2 := hid (rd_one w1 66 (by omega) (by omega))
   have LA := hid (L1.out.below (below_new (o := .cells #[.int .u8 76] 5) (w := w1) (Below.refl _ _)))
   clear ba L1
   obtain ⟨d0, d1, d2⟩ := LA.out.cells
   obtain ⟨c0, c1, c2⟩ := L2.out.cells
   go_wp2_with fail
   refine (specPutVar_any _ _ _ _ _ _ R2.out (by omega)).mono ?_
   generalize w1.alloc (.cells #[.int .u8 66] 5) = U2 at *
   intro e w2 hput
   obtain ⟨v2, rfl, hO2, hb2⟩ := hput.got HPV.out
   obtain ⟨a2, n2, cc2, rfl, R2', hn2⟩ := hO2.rdS HBY0.out HLN0.out
   have L2' := hid (L2.out.below hb2)
   clear hput hO2 hb2 L2 LA R2 c0 c1 c2 d0 d1 d2 HPV HBY0 HLN0
   obtain ⟨c0, c1, c2⟩ := L2'.out.cells
   obtain ⟨ib, io, hia, -, -, hci⟩ := L2'.out.pg.hi.at (by omega)
   subst hia
   have k0 := hci 0 (by omega)
   rw [Nat.add_zero] at k0
   clear hci
   generalize iAt p.kids 0 = kid0 at *
   go_wp2_with fail
   refine (specPutVar_any a2 n2 cc2 _ kid0 _ R2'.out (by omega)).mono ?_
   intro e w3 hput
   obtain ⟨v3, rfl, hO3, hb3⟩ := hput.got HPV2.out
   obtain ⟨a3, n3, c3, rfl, R3, hn3⟩ := hO3.rdS (pgHead_byte HF.out) (by have := pgHead_len p; omega)
   have L3 := hid (L2'.out.below hb3)
   clear hput hO3 hb3 L2' R2' c0 c1 c2 k0 HPV2 HEH h00
   obtain ⟨c0, c1, c2⟩ := L3.out.cells
   go_wp2_with fail
   clear c0 c1 c2
   go_loopw [4, 41] (fun xv i wr => ∃ (j : Nat) (a4 : Option Addr) (n4 c4 : Nat), j ≤ kn ∧ i = .int .i64 j ∧ xv = .slice a4 n4 c4 ∧ n4 ≤ 1000 ∧ Hid (Rd wr a4 n4 c4 (pgBody p j)) ∧ Hid (Pw1 w wr w.heap.size ka kn kc va vn vc (some ⟨ib, io, none⟩) jn ic p)) (fun _ i _ => kn - (intOf i).toNat)
   case atStart => exact ⟨0, a3, n3, c3, Nat.zero_le _, rfl, rfl, hn3, R3.out, L3.out⟩
   case round =>
    obtain ⟨j, a4, n4, c4, hj, rfl, rfl, hn4, R4, L4⟩ := hrel
    clear R3 L3
    by_cases hlt : j < kn
    ·have hlt' : (j : Int) < (kn : Int) := by omega
     have hlt2 : (j : Int) + 1 < (jn : Int) := by have := HJN.out; omega
     have hjl : j < p.keys.length := by rw [← HNK.out]; exact hlt
     obtain ⟨c0, c1, c2⟩ := L4.out.cells
     obtain ⟨kb, ko, hka, -, -, hck⟩ := L4.out.pg.hk.at (by omega)
     subst hka
     have m0 := hck j hlt
     have hks := HF.out.ks j hjl
     have hvs := HIS.out (j + 1) (by rw [← HNI.out]; have := HJN.out; omega)
     have HST : Hid (pgBody p (j + 1) = pgBody p j ++ (enc (sAt p.keys j).size ++ bytesOf (sAt p.keys j) ++ enc (iAt p.kids (j + 1)))) := by show _ = _; rw [pgBody, HPA.out]
     have HLN := hid (pgBody_len HF.out j (by omega))
     have HBY := hid (pgBody_byte HF.out j (by omega))
     have HCV : Hid (∀ u, Pw1 w u w.heap.size (some ⟨kb, ko, none⟩) kn kc va vn vc (some ⟨ib, io, none⟩) jn ic p → u.cell? ⟨ib, io + (j + 1), none⟩ = some (.int .i64 (iAt p.kids (j + 1)))) := by
      intro u hu
      obtain ⟨vb', vo', e, -, -, hc⟩ := hu.pg.hi.at (by omega)
      cases e
      exact hc (j + 1) (by have := HJN.out; omega)
     clear hck
     generalize sAt p.keys j = kk at *
     generalize iAt p.kids (j + 1) = vv at *
     have ek := enc_len kk.size
     have ev := enc_len vv
     have HPT1 : Hid (pt (pgBody p j) kk = some (pgBody p j ++ enc kk.size ++ bytesOf kk)) := by
      show _ = _
      rw [pt, if_pos]
      have := HLN.out
      simp only [List.length_append, bytesOf_len]
      omega
     have HPT2 : Hid (pv (pgBody p j ++ enc kk.size ++ bytesOf kk) vv = some (pgBody p (j + 1))) := by
      show _ = _
      rw [HST.out, pv_ok _ _ (by omega) (by omega)]
      ·simp
      ·have := HLN.out
       simp only [List.length_append, bytesOf_len]
       omega
     have HB1 : Hid (∀ z ∈ pgBody p j ++ enc kk.size ++ bytesOf kk, 0 ≤ z ∧ z ≤ 255) := byte_append (byte_append HBY.out (enc_byte _ (by omega) (by omega))) (bytesOf_byte _)
     have HL1 : Hid ((pgBody p j ++ enc kk.size ++ bytesOf kk).length ≤ 1000) := by
      show _ ≤ _
      have := HLN.out
      simp only [List.length_append, bytesOf_len]
      omega
     have HB2 := hid (pgBody_byte HF.out (j + 1) (by omega))
     have HL2 : Hid ((pgBody p (j + 1)).length ≤ 1000) := by have := pgBody_len HF.out (j + 1) (by omega); show _ ≤ _; omega
     clear ek ev
     go_wp2_with fail
     refine (specPutText_any a4 n4 c4 _ kk _ R4.out (by omega) (by omega)).mono ?_
     intro e w5 hput
     obtain ⟨v5, rfl, hO5, hb5⟩ := hput.got HPT1.out
     obtain ⟨a5, n5, c5, rfl, R5, hn5⟩ := hO5.rdS HB1.out HL1.out
     have L5 := hid (L4.out.below hb5)
     have m5 := HCV.out _ L5.out
     clear hput hO5 hb5 L4 R4 c0 c1 c2 m0
     obtain ⟨c0, c1, c2⟩ := L5.out.cells
     go_wp2_with fail
     refine (specPutVar_any a5 n5 c5 _ vv _ R5.out (by omega)).mono ?_
     intro e w6 hput
     obtain ⟨v6, rfl, hO6, hb6⟩ := hput.got HPT2.out
     obtain ⟨a6, n6, c6, rfl, R6, hn6⟩ := hO6.rdS HB2.out HL2.out
     have L6 := hid (L5.out.below hb6)
     clear hput hO6 hb6 L5 R5 c0 c1 c2 m5 HPT1 HPT2 HB1 HL1 HB2 HL2 HST HLN HBY HCV
     go_wp2
     go_roundw
     case rel => exact ⟨j + 1, a6, n6, c6, by omega, by go_num, rfl, hn6, R6.out, L6.out⟩
     case measure => simp [intOf]; omega
    ·have hlt' : ¬ (j : Int) < (kn : Int) := by omega
     have hjk : j = p.keys.length := by rw [← HNK.out]; omega
     have HFL : Hid (fl (pgBody p j) 512 = some (pgFull p)) := by
      show _ = _
      have hl := pgBody_len HF.out p.keys.length (Nat.le_refl _)
      have hn := HF.out.nk
      rw [hjk, fl, if_pos (by omega)]
      show some (pgRaw p ++ _) = _
      rw [pgFull]
      congr 3
      show ((512 : Int) - ((pgRaw p).length : Int)).toNat = _
      omega
     clear hjk
     go_wp2_with fail
     refine (specFill_any a4 n4 c4 _ 512 _ R4.out (by omega)).mono ?_
     intro e w5 hput
     obtain ⟨v5, rfl, hO5, hb5⟩ := hput.got HFL.out
     have L5 := hid (L4.out.below hb5)
     have HO : Hid (Ob w5 w.heap.size v5 (pgFull p)) := hO5.mono L4.out.be.size
     clear hput hO5 hb5 L4 R4 HFL
     go_wp2
     go_ret2
     exact ⟨L5.out.be, .inr ⟨_, _, HN.out, rfl, HO.out⟩⟩
open Go.RowKit
theorem mul_bounds (x u : Int) (h0 : 0 ≤ x) (h1 : x ≤ 127) (hu : 0 ≤ u) : 0 ≤ x * u ∧ x * u ≤ 127 * u :=
 ⟨Int.mul_nonneg h0 hu, Int.mul_le_mul_of_nonneg_right h1 hu⟩
theorem gv_neg (zs : List Int) (p : Int) (h : p < 0) : gv zs p = (0, -1) := by unfold gv; rw [if_pos h]
theorem gv_nat (zs : List Int) (k : Nat) : gv zs (k : Int) = gvGo 6 zs k 0 1 := by unfold gv; rw [if_neg (by omega), Int.toNat_natCast]
set_option maxHeartbeats 800000 in
theorem implGetVar_any (a : Option Addr) (n c : Nat) (zs : List Int) (p : Int) (w : World) (h : Rd w a n c zs) (hp : p ≤ 9223372036854775807) :
  Calls Tryz.prog 187 #[.slice a n c, .int .i64 p] w fun e w' => e = .returned (.tuple #[.int .i64 (gv zs p).1, .int .i64 (gv zs p).2]) ∧ w = w' := by
 obtain ⟨hn0, hc, hm, hnm, hb, hcell⟩ := h
 have HN : Hid (n = zs.length) := hn0
 clear hn0
 by_cases hneg : p < 0
 ·have HG : Hid (gv zs p = (0, -1)) := gv_neg zs p hneg
  go_enter Tryz.func187, Tryz.ntmps187
  go_wp2
  go_ret2
  exact ⟨by rw [HG.out]; rfl, rfl⟩
 ·obtain ⟨k0, rfl⟩ := Int.eq_ofNat_of_zero_le (by omega : 0 ≤ p)
  go_enter Tryz.func187, Tryz.ntmps187
  go_wp2
  go_loop [1, 6, 7] (fun i s t => ∃ (f k : Nat) (r u : Int), i = .int .i64 k ∧ s = .int .i64 r ∧ t = .int .i64 u ∧ f ≤ 6 ∧ k ≤ 9223372036854775807 ∧ u = uOf f ∧ 0 ≤ r ∧ r < u ∧ gvGo f zs k r u = gv zs k0) (fun i _ _ => n - (intOf i).toNat)
  case atStart => exact ⟨6, k0, 0, 1, rfl, rfl, rfl, by omega, by omega, rfl, by omega, by omega, by rw [gv_nat]⟩
  case round =>
   obtain ⟨f, k, r, u, rfl, rfl, rfl, hf6, hkm, hu, hr0, hru, hgv⟩ := hrel
   have HU : Hid (u = uOf f) := hu
   have HG : Hid (gvGo f zs k r u = gv zs k0) := hgv
   clear hu hgv
   by_cases hlt : k < n
   ·obtain ⟨b, off, ha, hbw, hcell⟩ := hcell (by omega)
    have hck := hcell k hlt
    have hbk := (hb k).1
    have hbk2 := (hb k).2
    have HK : Hid (k < zs.length) := by show k < zs.length; rw [← HN.out]; exact hlt
    have hlt' : (k : Int) < (n : Int) := by omega
    clear hcell hb
    rw [ha]
    cases f with
    | zero =>
     have hu' : 1099511627775 < u := by rw [HU.out]; decide
     have HR : Hid (gv zs k0 = (0, -1)) := by show gv zs k0 = (0, -1); rw [← HG.out]; rfl
     go_wp2
     go_ret2
     exact ⟨by rw [HR.out]; rfl, rfl⟩
    | succ f =>
     have hu1 : 1 ≤ u := by rw [HU.out]; exact (uOf_le (f + 1) (by omega)).1
     have hu2 : u ≤ 34359738368 := by rw [HU.out]; exact (uOf_le (f + 1) (by omega)).2
     have HU2 : Hid (u * 128 = uOf f) := by show u * 128 = uOf f; rw [HU.out]; exact uOf_next f (by omega)
     by_cases hd : 128 ≤ zs[k]?.getD 0
     ·have HG2 : Hid (gvGo f zs (k + 1) (r + (zs[k]?.getD 0 - 128) * u) (u * 128) = gv zs k0) := by
       show gvGo f zs (k + 1) (r + (zs[k]?.getD 0 - 128) * u) (u * 128) = gv zs k0
       rw [← HG.out, gvGo_more f zs k r u HK.out hd]
      generalize zs[k]?.getD 0 = d at *
      obtain ⟨m0, m1⟩ := mul_bounds (d - 128) u (by omega) (by omega) (by omega)
      go_wp2
      go_round
      case rel => exact ⟨f, k + 1, r + (d - 128) * u, u * 128, by go_num, rfl, rfl, by omega, by omega, HU2.out, by omega, by omega, HG2.out⟩
      case measure => simp [intOf]; omega
     ·by_cases hbad : 1099511627775 < r + zs[k]?.getD 0 * u
      ·have HR : Hid (gv zs k0 = (0, -1)) := by
        show gv zs k0 = (0, -1)
        rw [← HG.out]; exact gvGo_bad f zs k r u HK.out (by omega) (.inl hbad)
       generalize zs[k]?.getD 0 = d at *
       obtain ⟨m0, m1⟩ := mul_bounds d u (by omega) (by omega) (by omega)
       go_wp2
       go_ret2
       exact ⟨by rw [HR.out]; rfl, rfl⟩
      ·by_cases hz : zs[k]?.getD 0 = 0
       ·by_cases hu3 : 1 < u
        ·have HR : Hid (gv zs k0 = (0, -1)) := by
          show gv zs k0 = (0, -1)
          rw [← HG.out]; exact gvGo_bad f zs k r u HK.out (by omega) (.inr ⟨hz, hu3⟩)
         rw [hz] at hck hbad
         clear hz hbk hbk2 hd
         go_wp2
         go_ret2
         exact ⟨by rw [HR.out]; rfl, rfl⟩
        ·have HR : Hid (gv zs k0 = (r + 0 * u, (k : Int) + 1)) := by
          show gv zs k0 = (r + 0 * u, (k : Int) + 1)
          rw [← HG.out, gvGo_good f zs k r u HK.out (by omega) (by omega), hz]
         rw [hz] at hck hbad
         clear hz hbk hbk2 hd
         go_wp2
         go_ret2
         exact ⟨by rw [HR.out]; simp, rfl⟩
       ·have HR : Hid (gv zs k0 = (r + zs[k]?.getD 0 * u, (k : Int) + 1)) := by
         show gv zs k0 = (r + zs[k]?.getD 0 * u, (k : Int) + 1)
         rw [← HG.out, gvGo_good f zs k r u HK.out (by omega) (by omega)]
        generalize zs[k]?.getD 0 = d at *
        have hz' : (d == 0) = false := by simp [hz]
        obtain ⟨m0, m1⟩ := mul_bounds d u (by omega) (by omega) (by omega)
        clear hz
        go_wp2
        go_ret2
        exact ⟨by rw [HR.out]; rfl, rfl⟩
   ·have HR : Hid (gv zs k0 = (0, -1)) := by
     show gv zs k0 = (0, -1)
     rw [← HG.out]; exact gvGo_end f zs k r u (by rw [← HN.out]; omega)
    have hlt' : ¬ (k : Int) < (n : Int) := by omega
    go_wp2
    go_ret2
    exact ⟨by rw [HR.out]; rfl, rfl⟩
open Go.RowKit
def strOf (zs : List Int) : ByteArray := ⟨(zs.map fun z => UInt8.ofNat z.toNat).toArray⟩
theorem foldl_push (zs : List Int) : ∀ s : ByteArray, zs.foldl (fun r n => r.push (UInt8.ofNat n.toNat)) s = ⟨(s.data.toList ++ zs.map fun z => UInt8.ofNat z.toNat).toArray⟩ := by
 induction zs with
 | nil => intro s; simp
 | cons z zs ih =>
  intro s
  rw [List.foldl_cons, ih]
  simp [ByteArray.push]
theorem strOf_foldl (zs : List Int) : zs.foldl (fun r n => r.push (UInt8.ofNat n.toNat)) ByteArray.empty = strOf zs := by
 rw [foldl_push]
 simp only [strOf]
 rfl
theorem run_str {w : World} {a : Option Addr} {n c : Nat} {zs : List Int} (h : Rd w a n c zs) : (convert 89 9 (.slice a n c)).run Tryz.prog w = .ok (.string (strOf zs)) w := by
 rw [run_convert_bytes_string w _ _ _ a n c Tryz.underlying89 Tryz.underlying5 Tryz.underlying9]
 obtain ⟨h1, h2, h3, h30, h4, h5⟩ := h
 cases a with
 | none =>
  have hm : n = 0 := by
   rcases Nat.eq_zero_or_pos n with h | h
   ·exact h
   ·obtain ⟨b, off, e, _⟩ := h5 h
    cases e
  have hz : zs = [] := List.eq_nil_of_length_eq_zero (by omega)
  subst hz
  rfl
 | some x =>
  rw [run_bytesToString w x n c zs, strOf_foldl]
  have hl := run_firstCells_some (P := Tryz.prog) w 1 n x n c (zs.map (Value.int .u8)) (by simp [h1]) (by
    intro j u hu
    have hj : j < zs.length := by
     have := (List.getElem?_eq_some_iff.1 hu).1
     simpa using this
    obtain ⟨b, off, e, _, hc⟩ := h5 (by omega)
    cases e
    have := hc j (by omega)
    rw [Addr.add_lit, this]
    simp [hj] at hu
    simp [hj, hu])
  simpa [Builtin.firstCells] using hl
open Go.RowKit
theorem rd_nil (w : World) : Rd w none 0 0 [] := ⟨rfl, Nat.le_refl _, by omega, by omega, by simp, fun h => by omega⟩
theorem enc_digits (f : Nat) (hf : f ≤ 5) (r d : Int) (h0 : 0 ≤ r) (h1 : r < uOf (f + 1)) (hd0 : 0 ≤ d) (hd1 : d < 128) : (enc (r + d * uOf (f + 1))).length = 6 - f ↔ (f = 5 ∨ d ≠ 0) := by
 match f, hf with
 | 0, _ => have := encF_length_eq 5 6 (r + d * uOf 1); simp [bnd, uOf, enc] at *; omega
 | 1, _ => have := encF_length_eq 4 6 (r + d * uOf 2); simp [bnd, uOf, enc] at *; omega
 | 2, _ => have := encF_length_eq 3 6 (r + d * uOf 3); simp [bnd, uOf, enc] at *; omega
 | 3, _ => have := encF_length_eq 2 6 (r + d * uOf 4); simp [bnd, uOf, enc] at *; omega
 | 4, _ => have := encF_length_eq 1 6 (r + d * uOf 5); simp [bnd, uOf, enc] at *; omega
 | 5, _ => have := encF_length_eq 0 6 (r + d * uOf 6); simp [bnd, uOf, enc] at *; omega
set_option maxHeartbeats 800000 in
theorem specGetVar_any (a : Option Addr) (n c : Nat) (zs : List Int) (p : Int) (w : World) (h : Rd w a n c zs) (hp : p ≤ 9223372036854775807) :
  Calls Tryz.prog 104 #[.slice a n c, .int .i64 p] w fun e w' => e = .returned (.tuple #[.int .i64 (gv zs p).1, .int .i64 (gv zs p).2]) ∧ Below w.heap.size w w' := by
 obtain ⟨hn0, hc, hm, hnm, hb, hcell⟩ := h
 have HN : Hid (n = zs.length) := hn0
 clear hn0
 by_cases hneg : p < 0
 ·have HG : Hid (gv zs p = (0, -1)) := gv_neg zs p hneg
  go_enter Tryz.func104, Tryz.ntmps104
  go_wp2
  go_ret2
  exact ⟨by rw [HG.out]; rfl, Below.refl _ _⟩
 ·obtain ⟨k0, rfl⟩ := Int.eq_ofNat_of_zero_le (by omega : 0 ≤ p)
  by_cases hout : (n : Int) ≤ (k0 : Int)
  ·have HG : Hid (gv zs k0 = (0, -1)) := by
    show gv zs k0 = (0, -1)
    rw [gv_nat]; exact gvGo_end 6 zs k0 0 1 (by rw [← HN.out]; omega)
   go_enter Tryz.func104, Tryz.ntmps104
   go_wp2
   go_ret2
   exact ⟨by rw [HG.out]; rfl, Below.refl _ _⟩
  ·go_enter Tryz.func104, Tryz.ntmps104
   go_wp2
   go_loop [6, 7, 8] (fun s t i => ∃ (f k : Nat) (r u : Int), i = .int .i64 k ∧ s = .int .i64 r ∧ t = .int .i64 u ∧ f ≤ 6 ∧ k + f = k0 + 6 ∧ k ≤ n ∧ u = uOf f ∧ 0 ≤ r ∧ r < u ∧ gvGo f zs k r u = gv zs k0) (fun _ _ i => n - (intOf i).toNat)
   case atStart => exact ⟨6, k0, 0, 1, rfl, rfl, rfl, by omega, by omega, by omega, rfl, by omega, by omega, by rw [gv_nat]⟩
   case round =>
    obtain ⟨f, k, r, u, rfl, rfl, rfl, hf6, hkf, hkn, hu, hr0, hru, hgv⟩ := hrel
    have HU : Hid (u = uOf f) := hu
    have HG : Hid (gvGo f zs k r u = gv zs k0) := hgv
    have HF : Hid (k + f = k0 + 6) := hkf
    have hkb : k ≤ k0 + 6 := by omega
    clear hu hgv hkf
    by_cases hlt : k < n
    ·obtain ⟨b, off, ha, hbw, hcell⟩ := hcell (by omega)
     have hck := hcell k hlt
     have hbk := (hb k).1
     have hbk2 := (hb k).2
     have HK : Hid (k < zs.length) := by show k < zs.length; rw [← HN.out]; exact hlt
     have hlt' : (k : Int) < (n : Int) := by omega
     clear hcell hb
     rw [ha]
     cases f with
     | zero =>
      have hu' : ¬ (k : Int) < (k0 : Int) + 6 := by have := HF.out; omega
      have HR : Hid (gv zs k0 = (0, -1)) := by show gv zs k0 = (0, -1); rw [← HG.out]; rfl
      go_wp2
      go_ret2
      exact ⟨by rw [HR.out]; rfl, Below.refl _ _⟩
     | succ f =>
      have hk6 : (k : Int) < (k0 : Int) + 6 := by have := HF.out; omega
      have hu1 : 1 ≤ u := by rw [HU.out]; exact (uOf_le (f + 1) (by omega)).1
      have hu2 : u ≤ 34359738368 := by rw [HU.out]; exact (uOf_le (f + 1) (by omega)).2
      have HU2 : Hid (u * 128 = uOf f) := by show u * 128 = uOf f; rw [HU.out]; exact uOf_next f (by omega)
      by_cases hd : 128 ≤ zs[k]?.getD 0
      ·have HG2 : Hid (gvGo f zs (k + 1) (r + (zs[k]?.getD 0 % 128) * u) (u * 128) = gv zs k0) := by
        show gvGo f zs (k + 1) (r + (zs[k]?.getD 0 % 128) * u) (u * 128) = gv zs k0
        rw [show zs[k]?.getD 0 % 128 = zs[k]?.getD 0 - 128 from by omega, ← HG.out, gvGo_more f zs k r u HK.out hd]
       generalize zs[k]?.getD 0 = d at *
       obtain ⟨m0, m1⟩ := mul_bounds (d % 128) u (by omega) (by omega) (by omega)
       go_wp2
       go_round
       case rel => exact ⟨f, k + 1, r + d % 128 * u, u * 128, by go_num, rfl, rfl, by omega, by have := HF.out; omega, by omega, HU2.out, by omega, by omega, HG2.out⟩
       case measure => simp [intOf]; omega
      ·have HM : Hid (zs[k]?.getD 0 % 128 = zs[k]?.getD 0) := by show zs[k]?.getD 0 % 128 = zs[k]?.getD 0; omega
       have HL : Hid ((enc (r + zs[k]?.getD 0 % 128 * u)).length = 6 - f ↔ (f = 5 ∨ zs[k]?.getD 0 ≠ 0)) := by
        show (enc (r + zs[k]?.getD 0 % 128 * u)).length = 6 - f ↔ (f = 5 ∨ zs[k]?.getD 0 ≠ 0)
        rw [HM.out, HU.out]
        exact enc_digits f (by omega) r _ hr0 (by rw [← HU.out]; exact hru) hbk (by omega)
       have HU1 : Hid (1 < u ↔ f + 1 < 6) := by show 1 < u ↔ f + 1 < 6; rw [HU.out]; exact uOf_one (f + 1) (by omega) (by omega)
       by_cases hbad : 1099511627775 < r + zs[k]?.getD 0 % 128 * u
       ·have HR : Hid (gv zs k0 = (0, -1)) := by
         show gv zs k0 = (0, -1)
         rw [← HG.out]; exact gvGo_bad f zs k r u HK.out (by omega) (.inl (by rw [HM.out] at hbad; exact hbad))
        have HP : Hid (pv [] (r + zs[k]?.getD 0 % 128 * u) = none) := pv_bad _ _ (.inr hbad)
        generalize zs[k]?.getD 0 = d at *
        obtain ⟨m0, m1⟩ := mul_bounds (d % 128) u (by omega) (by omega) (by omega)
        go_wp2_with (go_at_call 141; refine (specPutVar_none none 0 0 [] (r + d % 128 * u) _ (rd_nil _) (by omega) HP.out).mono ?_; rintro e w1 ⟨rfl, hb1⟩)
        go_ret2
        exact ⟨by rw [HR.out]; rfl, hb1⟩
       ·have HP : Hid (pv [] (r + zs[k]?.getD 0 % 128 * u) = some (enc (r + zs[k]?.getD 0 % 128 * u))) := by
         refine pv_ok [] _ ?_ (by omega) ?_
         ·have := (mul_bounds (zs[k]?.getD 0 % 128) u (by omega) (by omega) (by omega)).1
          omega
         ·have := (enc_len (r + zs[k]?.getD 0 % 128 * u)).2
          simp; omega
        by_cases hg : f = 5 ∨ zs[k]?.getD 0 ≠ 0
        ·have HR : Hid (gv zs k0 = (r + zs[k]?.getD 0 % 128 * u, (k : Int) + 1)) := by
          show gv zs k0 = (r + zs[k]?.getD 0 % 128 * u, (k : Int) + 1)
          have := HU1.out
          rw [← HG.out, HM.out, gvGo_good f zs k r u HK.out (by omega) (by rw [HM.out] at hbad; omega)]
         have hl := HL.out.2 hg
         generalize zs[k]?.getD 0 = d at *
         obtain ⟨m0, m1⟩ := mul_bounds (d % 128) u (by omega) (by omega) (by omega)
         have hne : (((enc (r + d % 128 * u)).length : Int) != (k : Int) + 1 - (k0 : Int)) = false := by
          have := HF.out
          simp; omega
         clear hl hg
         go_wp2_with (go_at_call 141; refine (specPutVar_some none 0 0 [] _ (r + d % 128 * u) _ (rd_nil _) (by omega) HP.out).mono ?_; rintro e w1 ⟨v, rfl, ho, hb1⟩; obtain ⟨a2, c2, hv2⟩ := ho.shape; rw [hv2])
         go_ret2
         exact ⟨by rw [HR.out]; rfl, hb1⟩
        ·have HR : Hid (gv zs k0 = (0, -1)) := by
          show gv zs k0 = (0, -1)
          have := HU1.out
          rw [← HG.out]; exact gvGo_bad f zs k r u HK.out (by omega) (.inr (by omega))
         have hl : ¬ _ := fun x => hg (HL.out.1 x)
         generalize zs[k]?.getD 0 = d at *
         obtain ⟨m0, m1⟩ := mul_bounds (d % 128) u (by omega) (by omega) (by omega)
         have hne : (((enc (r + d % 128 * u)).length : Int) != (k : Int) + 1 - (k0 : Int)) = true := by
          have := HF.out
          simp; omega
         clear hl hg
         go_wp2_with (go_at_call 141; refine (specPutVar_some none 0 0 [] _ (r + d % 128 * u) _ (rd_nil _) (by omega) HP.out).mono ?_; rintro e w1 ⟨v, rfl, ho, hb1⟩; obtain ⟨a2, c2, hv2⟩ := ho.shape; rw [hv2])
         go_ret2
         exact ⟨by rw [HR.out]; rfl, hb1⟩
    ·have HR : Hid (gv zs k0 = (0, -1)) := by
      show gv zs k0 = (0, -1)
      rw [← HG.out]; exact gvGo_end f zs k r u (by rw [← HN.out]; omega)
     have hlt' : ¬ (k : Int) < (n : Int) := by omega
     go_wp2
     go_ret2
     exact ⟨by rw [HR.out]; rfl, Below.refl _ _⟩
open Go.RowKit
theorem gvGo_range (f : Nat) (zs : List Int) (hb : ∀ i : Nat, 0 ≤ zs[i]?.getD 0 ∧ zs[i]?.getD 0 ≤ 255) : ∀ (k : Nat) (n u : Int), 0 ≤ n → 0 ≤ u →
  gvGo f zs k n u = (0, -1) ∨ ∃ j : Nat, (gvGo f zs k n u).2 = j ∧ 1 ≤ j ∧ j ≤ zs.length ∧ 0 ≤ (gvGo f zs k n u).1 ∧ (gvGo f zs k n u).1 ≤ 1099511627775 := by
 induction f with
 | zero => intro k n u _ _; exact .inl rfl
 | succ f ih =>
  intro k n u hn hu
  by_cases hk : k < zs.length
  ·by_cases hd : 128 ≤ zs[k]?.getD 0
   ·rw [gvGo_more f zs k n u hk hd]
    have := Int.mul_nonneg (show 0 ≤ zs[k]?.getD 0 - 128 by omega) hu
    exact ih (k + 1) _ _ (by omega) (by omega)
   ·by_cases hbad : 1099511627775 < n + zs[k]?.getD 0 * u ∨ (zs[k]?.getD 0 = 0 ∧ 1 < u)
    ·exact .inl (gvGo_bad f zs k n u hk (by omega) hbad)
    ·rw [gvGo_good f zs k n u hk (by omega) hbad]
     have := Int.mul_nonneg (hb k).1 hu
     exact .inr ⟨k + 1, by simp, by omega, by omega, by show 0 ≤ n + zs[k]?.getD 0 * u; omega, by show n + zs[k]?.getD 0 * u ≤ 1099511627775; omega⟩
  ·exact .inl (gvGo_end (f + 1) zs k n u (by omega))
theorem gv_range (zs : List Int) (hb : ∀ i : Nat, 0 ≤ zs[i]?.getD 0 ∧ zs[i]?.getD 0 ≤ 255) (p : Int) :
  gv zs p = (0, -1) ∨ ∃ j : Nat, (gv zs p).2 = j ∧ 1 ≤ j ∧ j ≤ zs.length ∧ 0 ≤ (gv zs p).1 ∧ (gv zs p).1 ≤ 1099511627775 := by
 unfold gv
 split
 ·exact .inl rfl
 ·exact gvGo_range 6 zs hb _ 0 1 (by omega) (by omega)
theorem rd_empty (w : World) (a : Option Addr) : Rd w a 0 0 [] := ⟨rfl, Nat.le_refl _, by omega, by omega, by simp, fun h => by omega⟩
def gt (zs : List Int) (p : Int) : List Int × Int := if (gv zs p).2 < 0 ∨ (zs.length : Int) - (gv zs p).2 < (gv zs p).1 then ([], -1) else ((zs.drop (gv zs p).2.toNat).take (gv zs p).1.toNat, (gv zs p).2 + (gv zs p).1)
theorem Rd.slice {w : World} {b off n c : Nat} {zs : List Int} (h : Rd w (some ⟨b, off, none⟩) n c zs) (lo m : Nat) (hm : lo + m ≤ n) (k : Nat) (hk : m ≤ k) (hk2 : k ≤ c) : Rd w (some ⟨b, off + lo, none⟩) m k ((zs.drop lo).take m) := by
 obtain ⟨h1, h2, h3, h30, h4, h5⟩ := h
 refine ⟨by simp; omega, hk, by omega, by omega, fun i => ?_, fun hp => ⟨b, off + lo, rfl, ?_, fun i hi => ?_⟩⟩
 ·by_cases hi : i < m
  ·rw [List.getElem?_take_of_lt hi, List.getElem?_drop]; exact h4 (lo + i)
  ·rw [List.getElem?_eq_none (by simp; omega)]; simp
 ·obtain ⟨b', off', e, hb, _⟩ := h5 (by omega)
  cases e; exact hb
 ·obtain ⟨b', off', e, hb, hc⟩ := h5 (by omega)
  cases e
  rw [List.getElem?_take_of_lt hi, List.getElem?_drop, ← hc (lo + i) (by omega), Nat.add_assoc]
set_option maxHeartbeats 800000 in
set_option maxRecDepth 20000 in
theorem implGetText_any (a : Option Addr) (n c : Nat) (zs : List Int) (p : Int) (w : World) (h : Rd w a n c zs) (hp : p ≤ 9223372036854775807) :
  Calls Tryz.prog 186 #[.slice a n c, .int .i64 p] w fun e w' => e = .returned (.tuple #[.string (strOf (gt zs p).1), .int .i64 (gt zs p).2]) ∧ w = w' := by
 have HN : Hid (n = zs.length) := h.1
 have hnm : n ≤ 140737488355328 := h.2.2.2.1
 have hcm : c ≤ 9223372036854775807 := h.2.2.1
 have hnc : n ≤ c := h.2.1
 have HC := implGetVar_any a n c zs p w h hp
 have hrg := gv_range zs h.2.2.2.2.1 p
 have HT : Hid (gt zs p = if (gv zs p).2 < 0 ∨ (zs.length : Int) - (gv zs p).2 < (gv zs p).1 then ([], -1) else ((zs.drop (gv zs p).2.toNat).take (gv zs p).1.toNat, (gv zs p).2 + (gv zs p).1)) := rfl
 generalize gv zs p = g at *
 obtain ⟨s, f⟩ := g
 have HC' := hid HC
 clear HC
 rcases hrg with hg | ⟨j, hj, hj1, hj2, hs0, hs1⟩
 ·cases hg
  have HR : Hid (gt zs p = ([], -1)) := by show gt zs p = ([], -1); rw [HT.out]; simp
  clear HT
  have HD := hid h
  clear h
  go_enter Tryz.func186, Tryz.ntmps186
  go_wp2_with (go_at_call 187; refine HC'.out.mono ?_; rintro e w' ⟨rfl, rfl⟩)
  go_ret2
  exact ⟨by rw [HR.out]; rfl, rfl⟩
 ·simp only at hj hs0 hs1
  subst hj
  have hjn : j ≤ n := by rw [HN.out]; exact hj2
  clear hj2
  obtain ⟨b, off, ha, hbw, _⟩ := h.2.2.2.2.2 (by omega)
  subst ha
  by_cases hlong : (n : Int) - (j : Int) < s
  ·have HR : Hid (gt zs p = ([], -1)) := by
    show gt zs p = ([], -1)
    rw [HT.out]
    exact if_pos (.inr (by rw [← HN.out]; exact hlong))
   clear HT
   have HD := hid h
   clear h
   go_enter Tryz.func186, Tryz.ntmps186
   go_wp2_with (go_at_call 187; refine HC'.out.mono ?_; rintro e w' ⟨rfl, rfl⟩)
   go_ret2
   exact ⟨by rw [HR.out]; rfl, rfl⟩
  ·obtain ⟨m, rfl⟩ := Int.eq_ofNat_of_zero_le hs0
   have HR : Hid (gt zs p = ((zs.drop j).take m, (j : Int) + (m : Int))) := by
    show gt zs p = ((zs.drop j).take m, (j : Int) + (m : Int))
    rw [HT.out]
    rw [if_neg (by rw [← HN.out]; simp; omega)]
    simp
   clear HT
   by_cases hcj : c = j
   ·have hm0 : m = 0 := by omega
    subst hm0
    subst hcj
    have hst := run_str (rd_empty w (some ⟨b, off, none⟩))
    have HD := hid h
    clear h
    go_enter Tryz.func186, Tryz.ntmps186
    go_wp2_with (go_at_call 187; refine (HC'.out).mono ?_; rintro e w' ⟨rfl, rfl⟩)
    go_ret2
    exact ⟨by rw [HR.out]; simp, rfl⟩
   ·have hst := run_str (h.slice j m (by omega) (c - j) (by omega) (by omega))
    have hj0 : ¬ j = 0 := by omega
    have HD := hid h
    clear h
    go_enter Tryz.func186, Tryz.ntmps186
    go_wp2_with (go_at_call 187; refine HC'.out.mono ?_; rintro e w' ⟨rfl, rfl⟩)
    go_ret2
    exact ⟨by rw [HR.out]; rfl, rfl⟩
set_option maxHeartbeats 800000 in
set_option maxRecDepth 20000 in
theorem specGetText_any (a : Option Addr) (n c : Nat) (zs : List Int) (p : Int) (w : World) (h : Rd w a n c zs) (hp : p ≤ 9223372036854775807) :
  Calls Tryz.prog 105 #[.slice a n c, .int .i64 p] w fun e w' => e = .returned (.tuple #[.string (strOf (gt zs p).1), .int .i64 (gt zs p).2]) ∧ Below w.heap.size w w' := by
 have HN : Hid (n = zs.length) := h.1
 have hnm : n ≤ 140737488355328 := h.2.2.2.1
 have hcm : c ≤ 9223372036854775807 := h.2.2.1
 have hnc : n ≤ c := h.2.1
 have HC := specGetVar_any a n c zs p w h hp
 have hrg := gv_range zs h.2.2.2.2.1 p
 have HT : Hid (gt zs p = if (gv zs p).2 < 0 ∨ (zs.length : Int) - (gv zs p).2 < (gv zs p).1 then ([], -1) else ((zs.drop (gv zs p).2.toNat).take (gv zs p).1.toNat, (gv zs p).2 + (gv zs p).1)) := rfl
 generalize gv zs p = g at *
 obtain ⟨s, f⟩ := g
 have HC' := hid HC
 clear HC
 rcases hrg with hg | ⟨j, hj, hj1, hj2, hs0, hs1⟩
 ·cases hg
  have HR : Hid (gt zs p = ([], -1)) := by show gt zs p = ([], -1); rw [HT.out]; simp
  clear HT
  have HD := hid h
  clear h
  go_enter Tryz.func105, Tryz.ntmps105
  go_wp2_with (go_at_call 104; refine HC'.out.mono ?_; rintro e w1 ⟨rfl, hb1⟩)
  go_ret2
  exact ⟨by rw [HR.out]; rfl, hb1⟩
 ·simp only at hj hs0 hs1
  subst hj
  have hjn : j ≤ n := by rw [HN.out]; exact hj2
  clear hj2
  obtain ⟨b, off, ha, hbw, _⟩ := h.2.2.2.2.2 (by omega)
  subst ha
  by_cases hlong : (n : Int) - (j : Int) < s
  ·have HR : Hid (gt zs p = ([], -1)) := by
    show gt zs p = ([], -1)
    rw [HT.out]
    exact if_pos (.inr (by rw [← HN.out]; exact hlong))
   clear HT
   have HD := hid h
   clear h
   go_enter Tryz.func105, Tryz.ntmps105
   go_wp2_with (go_at_call 104; refine HC'.out.mono ?_; rintro e w1 ⟨rfl, hb1⟩)
   go_ret2
   exact ⟨by rw [HR.out]; rfl, hb1⟩
  ·obtain ⟨m, rfl⟩ := Int.eq_ofNat_of_zero_le hs0
   have HR : Hid (gt zs p = ((zs.drop j).take m, (j : Int) + (m : Int))) := by
    show gt zs p = ((zs.drop j).take m, (j : Int) + (m : Int))
    rw [HT.out]
    rw [if_neg (by rw [← HN.out]; simp; omega)]
    simp
   clear HT
   by_cases hcj : c = j
   ·have hm0 : m = 0 := by omega
    subst hm0
    subst hcj
    have HD := hid h
    clear h
    go_enter Tryz.func105, Tryz.ntmps105
    go_wp2_with (go_at_call 104; refine (HC'.out).mono ?_; rintro e w1 ⟨rfl, hb1⟩; have hst := run_str (rd_empty w1 (some ⟨b, off, none⟩)))
    go_ret2
    exact ⟨by rw [HR.out]; simp, hb1⟩
   ·have hj0 : ¬ j = 0 := by omega
    have HD := hid h
    clear h
    go_enter Tryz.func105, Tryz.ntmps105
    go_wp2_with (go_at_call 104; refine HC'.out.mono ?_; rintro e w1 ⟨rfl, hb1⟩; have hst := run_str ((HD.out.kept hb1).slice j m (by omega) (c - j) (by omega) (by omega)))
    go_ret2
    exact ⟨by rw [HR.out]; rfl, hb1⟩
open Go.RowKit
def zAt (zs : List Int) (i : Nat) : Int := zs[i]?.getD 0
theorem strOf_eq {xs ys : List Int} (hx : ∀ z ∈ xs, 0 ≤ z ∧ z ≤ 255) (hy : ∀ z ∈ ys, 0 ≤ z ∧ z ≤ 255) (h : strOf xs = strOf ys) : xs = ys := by
 have key : ∀ (o : List Int), (∀ z ∈ o, 0 ≤ z ∧ z ≤ 255) → bytesOf (strOf o) = o := by
  intro o ho
  simp only [bytesOf, strOf, List.map_map]
  conv => rhs; rw [← List.map_id o]
  refine List.map_congr_left fun z hz => ?_
  have := ho z hz
  simp
  omega
 rw [← key xs hx, ← key ys hy, h]
set_option maxHeartbeats 800000 in
theorem same_any (a b : Option Addr) (n m c d : Nat) (xs ys : List Int) (w : World) (hx : Rd w a n c xs) (hy : Rd w b m d ys) :
  Calls Tryz.prog 103 #[.slice a n c, .slice b m d] w fun e w' => e = .returned (.bool (decide (xs = ys))) ∧ w = w' := by
 have h1 := run_str hx
 have h2 := run_str hy
 have b1 := at_byte hx.2.2.2.2.1
 have b2 := at_byte hy.2.2.2.2.1
 by_cases e : xs = ys
 ·subst e
  generalize strOf xs = s at *
  rw [decide_eq_true rfl]
  clear b1 b2 hx hy
  go_enter Tryz.func103, Tryz.ntmps103
  go_wp2
  go_ret
  exact ⟨rfl, rfl⟩
 ·have hne : ((strOf xs).toList == (strOf ys).toList) = false := by
   rw [beq_eq_false_iff_ne]
   exact fun h => e (strOf_eq b1 b2 (str_ext h))
  rw [decide_eq_false e]
  generalize strOf xs = s at *
  generalize strOf ys = t at *
  clear b1 b2 hx hy e
  go_enter Tryz.func103, Tryz.ntmps103
  go_wp2
  go_ret
  exact ⟨rfl, rfl⟩
open Go.RowKit
def cdStep (zs : List Int) (B : Bool) (p : PG) (at' : Int) : PG × Int :=
 if B = true then (⟨p.keys ++ [strOf (gt zs at').1], p.vals, p.kids ++ [(gv zs (gt zs at').2).1]⟩, (gv zs (gt zs at').2).2)
 else (⟨p.keys ++ [strOf (gt zs at').1], p.vals ++ [strOf (gt zs (gt zs at').2).1], p.kids⟩, (gt zs (gt zs at').2).2)
def cdGo (zs : List Int) (B : Bool) (n : Int) : Nat → Nat → PG → Int → PG
 | 0, _, p, _ => p
 | f + 1, i, p, a => if (i : Int) < n ∧ i ≤ 4 ∧ 0 ≤ a then cdGo zs B n f (i + 1) (cdStep zs B p a).1 (cdStep zs B p a).2 else p
def cd (zs : List Int) : PG :=
 if zAt zs 0 = 66 then
  (if 0 ≤ (gv zs 1).2 then cdGo zs true (gv zs 1).1 6 0 ⟨[], [], [(gv zs (gv zs 1).2).1]⟩ (gv zs (gv zs 1).2).2 else cdGo zs true (gv zs 1).1 6 0 ⟨[], [], []⟩ (gv zs 1).2)
 else cdGo zs false (gv zs 1).1 6 0 ⟨[], [], []⟩ (gv zs 1).2
def prd (zs : List Int) : Option PG := if zs.length = 512 ∧ (zAt zs 0 = 76 ∨ zAt zs 0 = 66) ∧ pgBytes (cd zs) = some zs then some (cd zs) else none
theorem cdGo_stop (zs : List Int) (B : Bool) (n : Int) (f i : Nat) (p : PG) (a : Int) (h : ¬ ((i : Int) < n ∧ i ≤ 4 ∧ 0 ≤ a)) : cdGo zs B n f i p a = p := by
 cases f with
 | zero => rfl
 | succ f => rw [cdGo, if_neg h]
theorem cdGo_on (zs : List Int) (B : Bool) (n : Int) (f i : Nat) (p : PG) (a : Int) (h : (i : Int) < n ∧ i ≤ 4 ∧ 0 ≤ a) : cdGo zs B n (f + 1) i p a = cdGo zs B n f (i + 1) (cdStep zs B p a).1 (cdStep zs B p a).2 := by rw [cdGo, if_pos h]
theorem results_pg2 {fn : Func} {p u : Tmp} (h : fn.results = #[.cell p 107, .tmp u]) (tmps : Array Value) (w : World) (g : Nat) {x y z b : Value} (hp : tmps.getD p undef = .pointer (some ⟨g, 0, none⟩)) (hb : tmps.getD u undef = b)
  (c0 : w.cell? ⟨g, 0, none⟩ = some x) (c1 : w.cell? ⟨g, 1, none⟩ = some y) (c2 : w.cell? ⟨g, 2, none⟩ = some z) : (results fn tmps).run Tryz.prog w = .ok (.tuple #[.agg #[x, y, z], b]) w := by
 have hp' : tmps[p]?.getD undef = .pointer (some ⟨g, 0, none⟩) := by simpa using hp
 have hb' : tmps[u]?.getD undef = b := by simpa using hb
 have hl : (loadVar 107 ⟨g, 0, none⟩).run Tryz.prog w = .ok (.agg #[x, y, z]) w := by go_simp
 simp [results, h, hp', hb', asAddr, hl, Result.andThen]
structure Pr1 (w v : World) (kv vv iv : Value) (p : PG) : Prop where
 be : Below w.heap.size w v
 rb : Bk v w.heap.size 107 [.slice none 0 0, .slice none 0 0, .slice none 0 0]
 bk : Bk v (w.heap.size + 1) 107 [kv, vv, iv]
 hk : v.ownsRow 0 9 1 kv p.keys.length (p.keys.map Value.string)
 hv : v.ownsRow 0 9 1 vv p.vals.length (p.vals.map Value.string)
 hi : v.ownsRow 0 3 1 iv p.kids.length (p.kids.map (Value.int .i64))
 lo : ∀ y, (kv.ownBlock = some y ∨ vv.ownBlock = some y ∨ iv.ownBlock = some y) → w.heap.size + 1 < y
 ap : ∀ y, (kv.ownBlock = some y → vv.ownBlock ≠ some y ∧ iv.ownBlock ≠ some y) ∧ (vv.ownBlock = some y → iv.ownBlock ≠ some y)
theorem Pr1.below {w v v' : World} {kv vv iv : Value} {p : PG} (h : Pr1 w v kv vv iv p) (hb : Below v.heap.size v v') : Pr1 w v' kv vv iv p :=
 ⟨h.be.trans (hb.mono h.be.size), h.rb.below hb, h.bk.below hb, own_kept h.hk (only_of_below hb (fun _ => False)) (fun _ _ h => h), own_kept h.hv (only_of_below hb (fun _ => False)) (fun _ _ h => h), own_kept h.hi (only_of_below hb (fun _ => False)) (fun _ _ h => h), h.lo, h.ap⟩
theorem Pr1.cells {w v : World} {kv vv iv : Value} {p : PG} (h : Pr1 w v kv vv iv p) : v.cell? ⟨w.heap.size + 1, 0, none⟩ = some kv ∧ v.cell? ⟨w.heap.size + 1, 1, none⟩ = some vv ∧ v.cell? ⟨w.heap.size + 1, 2, none⟩ = some iv :=
 ⟨h.bk.cell (j := 0) rfl, h.bk.cell (j := 1) rfl, h.bk.cell (j := 2) rfl⟩
theorem Pr1.pgr {w v : World} {ka va ia : Option Addr} {kn kc vn vc jn ic : Nat} {p : PG} (h : Pr1 w v (.slice ka kn kc) (.slice va vn vc) (.slice ia jn ic) p) : Pgr v (fun y => w.heap.size + 1 < y) ka kn kc va vn vc ia jn ic p :=
 ⟨rw_own h.hk (fun k e _ _ => h.lo k (.inl e)), rw_own h.hv (fun k e _ _ => h.lo k (.inr (.inl e))), rw_own h.hi (fun k e _ _ => h.lo k (.inr (.inr e)))⟩
theorem Pr1.addK {w v w' : World} {kv vv iv nw : Value} {p : PG} {s : ByteArray} (h : Pr1 w v kv vv iv p) (hO : w'.ownsRow 0 9 1 nw (p.keys.length + 1) (p.keys.map (Value.string) ++ [Value.string s])) (hg : v.grownBy w' kv.ownBlock) (ha : nw.ownBlock = kv.ownBlock ∨ ∃ k, nw.ownBlock = some k ∧ v.heap.size ≤ k) :
  Pr1 w (w'.setCell ⟨w.heap.size + 1, 0, none⟩ nw) nw vv iv ⟨p.keys ++ [s], p.vals, p.kids⟩ ∧ Bk w' (w.heap.size + 1) 107 [kv, vv, iv] := by
 have hon : Only (fun y => kv.ownBlock = some y) v w' := only_of_grown hg (fun k e => e)
 have hos : Only (fun y => y = w.heap.size + 1) w' (w'.setCell ⟨w.heap.size + 1, 0, none⟩ nw) := only_set (R := fun y => y = w.heap.size + 1) rfl _
 have hlo : ∀ y, kv.ownBlock = some y → w.heap.size + 1 < y := fun y e => h.lo y (.inl e)
 have hbl := h.bk.lt
 have hnw : ∀ y, nw.ownBlock = some y → kv.ownBlock = some y ∨ v.heap.size ≤ y := by
  intro y hy
  rcases ha with e | ⟨k, e, hk⟩
  ·exact .inl (e ▸ hy)
  ·rw [e] at hy; cases hy; exact .inr hk
 have hnl : ∀ y, nw.ownBlock = some y → w.heap.size + 1 < y := by
  intro y hy
  rcases hnw y hy with e | e
  ·exact hlo y e
  ·omega
 have hb2 : Bk w' (w.heap.size + 1) 107 [kv, vv, iv] := h.bk.to hon (fun e => by have := hlo _ e; omega)
 have hrb : Bk w' w.heap.size 107 [.slice none 0 0, .slice none 0 0, .slice none 0 0] := h.rb.to hon (fun e => by have := hlo _ e; omega)
 have hk2 := World.ownsRow.lt h.hk
 have hv2 := World.ownsRow.lt h.hv
 have hi2 := World.ownsRow.lt h.hi
 refine ⟨⟨(h.be.trans (hon.below h.be.size (fun b hb e => by have := hlo _ e; omega))).setCell (p := ⟨w.heap.size + 1, 0, none⟩) (Nat.le_succ _) _, hrb.setOther (by omega) _ _, ?_, ?_, ?_, ?_, ?_, ?_⟩, hb2⟩
 ·exact hb2.set 0 nw
 ·have : (w'.setCell ⟨w.heap.size + 1, 0, none⟩ nw).ownsRow 0 9 1 nw (p.keys.length + 1) (p.keys.map (Value.string) ++ [Value.string s]) := own_kept hO hos (fun k e e2 => by have := hnl k e; omega)
  simpa using this
 ·exact own_kept (own_kept h.hv hon (fun k e e2 => ((h.ap k).1 e2).1 e)) hos (fun k e e2 => by have := h.lo k (.inr (.inl e)); omega)
 ·exact own_kept (own_kept h.hi hon (fun k e e2 => ((h.ap k).1 e2).2 e)) hos (fun k e e2 => by have := h.lo k (.inr (.inr e)); omega)
 ·rintro y (e | e | e)
  ·exact hnl y e
  ·exact h.lo y (.inr (.inl e))
  ·exact h.lo y (.inr (.inr e))
 ·intro y
  refine ⟨fun e => ⟨fun e2 => ?_, fun e2 => ?_⟩, (h.ap y).2⟩
  ·rcases hnw y e with e3 | e3
   ·exact ((h.ap y).1 e3).1 e2
   ·have := (hv2 y e2).2; omega
  ·rcases hnw y e with e3 | e3
   ·exact ((h.ap y).1 e3).2 e2
   ·have := (hi2 y e2).2; omega
theorem Pr1.addV {w v w' : World} {kv vv iv nw : Value} {p : PG} {s : ByteArray} (h : Pr1 w v kv vv iv p) (hO : w'.ownsRow 0 9 1 nw (p.vals.length + 1) (p.vals.map (Value.string) ++ [Value.string s])) (hg : v.grownBy w' vv.ownBlock) (ha : nw.ownBlock = vv.ownBlock ∨ ∃ k, nw.ownBlock = some k ∧ v.heap.size ≤ k) :
  Pr1 w (w'.setCell ⟨w.heap.size + 1, 1, none⟩ nw) kv nw iv ⟨p.keys, p.vals ++ [s], p.kids⟩ ∧ Bk w' (w.heap.size + 1) 107 [kv, vv, iv] := by
 have hon : Only (fun y => vv.ownBlock = some y) v w' := only_of_grown hg (fun k e => e)
 have hos : Only (fun y => y = w.heap.size + 1) w' (w'.setCell ⟨w.heap.size + 1, 1, none⟩ nw) := only_set (R := fun y => y = w.heap.size + 1) rfl _
 have hlo : ∀ y, vv.ownBlock = some y → w.heap.size + 1 < y := fun y e => h.lo y (.inr (.inl e))
 have hbl := h.bk.lt
 have hnw : ∀ y, nw.ownBlock = some y → vv.ownBlock = some y ∨ v.heap.size ≤ y := by
  intro y hy
  rcases ha with e | ⟨k, e, hk⟩
  ·exact .inl (e ▸ hy)
  ·rw [e] at hy; cases hy; exact .inr hk
 have hnl : ∀ y, nw.ownBlock = some y → w.heap.size + 1 < y := by
  intro y hy
  rcases hnw y hy with e | e
  ·exact hlo y e
  ·omega
 have hb2 : Bk w' (w.heap.size + 1) 107 [kv, vv, iv] := h.bk.to hon (fun e => by have := hlo _ e; omega)
 have hrb : Bk w' w.heap.size 107 [.slice none 0 0, .slice none 0 0, .slice none 0 0] := h.rb.to hon (fun e => by have := hlo _ e; omega)
 have hk2 := World.ownsRow.lt h.hk
 have hv2 := World.ownsRow.lt h.hv
 have hi2 := World.ownsRow.lt h.hi
 refine ⟨⟨(h.be.trans (hon.below h.be.size (fun b hb e => by have := hlo _ e; omega))).setCell (p := ⟨w.heap.size + 1, 1, none⟩) (Nat.le_succ _) _, hrb.setOther (by omega) _ _, ?_, ?_, ?_, ?_, ?_, ?_⟩, hb2⟩
 ·exact hb2.set 1 nw
 ·exact own_kept (own_kept h.hk hon (fun k e e2 => ((h.ap k).1 e).1 e2)) hos (fun k e e2 => by have := h.lo k (.inl e); omega)
 ·have : (w'.setCell ⟨w.heap.size + 1, 1, none⟩ nw).ownsRow 0 9 1 nw (p.vals.length + 1) (p.vals.map (Value.string) ++ [Value.string s]) := own_kept hO hos (fun k e e2 => by have := hnl k e; omega)
  simpa using this
 ·exact own_kept (own_kept h.hi hon (fun k e e2 => (h.ap k).2 e2 e)) hos (fun k e e2 => by have := h.lo k (.inr (.inr e)); omega)
 ·rintro y (e | e | e)
  ·exact h.lo y (.inl e)
  ·exact hnl y e
  ·exact h.lo y (.inr (.inr e))
 ·intro y
  refine ⟨fun e => ⟨fun e2 => ?_, ((h.ap y).1 e).2⟩, fun e e2 => ?_⟩
  ·rcases hnw y e2 with e3 | e3
   ·exact ((h.ap y).1 e).1 e3
   ·have := (hk2 y e).2; omega
  ·rcases hnw y e with e3 | e3
   ·exact (h.ap y).2 e3 e2
   ·have := (hi2 y e2).2; omega
theorem Pr1.addI {w v w' : World} {kv vv iv nw : Value} {p : PG} {s : Int} (h : Pr1 w v kv vv iv p) (hO : w'.ownsRow 0 3 1 nw (p.kids.length + 1) (p.kids.map (Value.int .i64) ++ [Value.int .i64 s])) (hg : v.grownBy w' iv.ownBlock) (ha : nw.ownBlock = iv.ownBlock ∨ ∃ k, nw.ownBlock = some k ∧ v.heap.size ≤ k) :
  Pr1 w (w'.setCell ⟨w.heap.size + 1, 2, none⟩ nw) kv vv nw ⟨p.keys, p.vals, p.kids ++ [s]⟩ ∧ Bk w' (w.heap.size + 1) 107 [kv, vv, iv] := by
 have hon : Only (fun y => iv.ownBlock = some y) v w' := only_of_grown hg (fun k e => e)
 have hos : Only (fun y => y = w.heap.size + 1) w' (w'.setCell ⟨w.heap.size + 1, 2, none⟩ nw) := only_set (R := fun y => y = w.heap.size + 1) rfl _
 have hlo : ∀ y, iv.ownBlock = some y → w.heap.size + 1 < y := fun y e => h.lo y (.inr (.inr e))
 have hbl := h.bk.lt
 have hnw : ∀ y, nw.ownBlock = some y → iv.ownBlock = some y ∨ v.heap.size ≤ y := by
  intro y hy
  rcases ha with e | ⟨k, e, hk⟩
  ·exact .inl (e ▸ hy)
  ·rw [e] at hy; cases hy; exact .inr hk
 have hnl : ∀ y, nw.ownBlock = some y → w.heap.size + 1 < y := by
  intro y hy
  rcases hnw y hy with e | e
  ·exact hlo y e
  ·omega
 have hb2 : Bk w' (w.heap.size + 1) 107 [kv, vv, iv] := h.bk.to hon (fun e => by have := hlo _ e; omega)
 have hrb : Bk w' w.heap.size 107 [.slice none 0 0, .slice none 0 0, .slice none 0 0] := h.rb.to hon (fun e => by have := hlo _ e; omega)
 have hk2 := World.ownsRow.lt h.hk
 have hv2 := World.ownsRow.lt h.hv
 have hi2 := World.ownsRow.lt h.hi
 refine ⟨⟨(h.be.trans (hon.below h.be.size (fun b hb e => by have := hlo _ e; omega))).setCell (p := ⟨w.heap.size + 1, 2, none⟩) (Nat.le_succ _) _, hrb.setOther (by omega) _ _, ?_, ?_, ?_, ?_, ?_, ?_⟩, hb2⟩
 ·exact hb2.set 2 nw
 ·exact own_kept (own_kept h.hk hon (fun k e e2 => ((h.ap k).1 e).2 e2)) hos (fun k e e2 => by have := h.lo k (.inl e); omega)
 ·exact own_kept (own_kept h.hv hon (fun k e e2 => (h.ap k).2 e e2)) hos (fun k e e2 => by have := h.lo k (.inr (.inl e)); omega)
 ·have : (w'.setCell ⟨w.heap.size + 1, 2, none⟩ nw).ownsRow 0 3 1 nw (p.kids.length + 1) (p.kids.map (Value.int .i64) ++ [Value.int .i64 s]) := own_kept hO hos (fun k e e2 => by have := hnl k e; omega)
  simpa using this
 ·rintro y (e | e | e)
  ·exact h.lo y (.inl e)
  ·exact h.lo y (.inr (.inl e))
  ·exact hnl y e
 ·intro y
  refine ⟨fun e => ⟨((h.ap y).1 e).1, fun e2 => ?_⟩, fun e e2 => ?_⟩
  ·rcases hnw y e2 with e3 | e3
   ·exact ((h.ap y).1 e).2 e3
   ·have := (hk2 y e).2; omega
  ·rcases hnw y e2 with e3 | e3
   ·exact (h.ap y).2 e e3
   ·have := (hv2 y e).2; omega
open Go.RowKit
def PrPost (o : Option PG) (w : World) (e : Ending) (w' : World) : Prop := Below w.heap.size w w' ∧ ((o = none ∧ e = .returned (.tuple #[.agg #[.slice none 0 0, .slice none 0 0, .slice none 0 0], .bool false])) ∨ ∃ (p : PG) (ka : Option Addr) (kn kc : Nat) (va : Option Addr) (vn vc : Nat) (ia : Option Addr) (jn ic : Nat), o = some p ∧ e = .returned (.tuple #[.agg #[.slice ka kn kc, .slice va vn vc, .slice ia jn ic], .bool true]) ∧ Pgr w' (fun y => w.heap.size ≤ y) ka kn kc va vn vc ia jn ic p)
theorem gv_rng (zs : List Int) (hb : ∀ i : Nat, 0 ≤ zs[i]?.getD 0 ∧ zs[i]?.getD 0 ≤ 255) (p : Int) : -1 ≤ (gv zs p).2 ∧ (gv zs p).2 ≤ zs.length ∧ 0 ≤ (gv zs p).1 ∧ (gv zs p).1 ≤ 1099511627775 := by
 rcases gv_range zs hb p with h | ⟨j, h1, h2, h3, h4, h5⟩
 ·rw [h]; exact ⟨by decide, by show (-1 : Int) ≤ _; omega, by decide, by decide⟩
 ·exact ⟨by omega, by omega, h4, h5⟩
theorem gt_range (zs : List Int) (hb : ∀ i : Nat, 0 ≤ zs[i]?.getD 0 ∧ zs[i]?.getD 0 ≤ 255) (p : Int) : -1 ≤ (gt zs p).2 ∧ (gt zs p).2 ≤ zs.length := by
 have h := gv_rng zs hb p
 unfold gt
 split
 ·exact ⟨by decide, by show (-1 : Int) ≤ _; omega⟩
 ·rename_i h2
  show -1 ≤ (gv zs p).2 + (gv zs p).1 ∧ (gv zs p).2 + (gv zs p).1 ≤ zs.length
  omega
theorem pgBytes_some {p : PG} {bs : List Int} (h : pgBytes p = some bs) : (∀ z ∈ bs, 0 ≤ z ∧ z ≤ 255) ∧ bs.length = 512 := by
 unfold pgBytes at h
 split at h
 ·rename_i hok
  cases h
  have hF := pgOk_facts hok
  have hl := pgBody_len hF p.keys.length (Nat.le_refl _)
  have hn := hF.nk
  have hr : (pgRaw p).length ≤ 512 := by show (pgBody p p.keys.length).length ≤ 512; omega
  refine ⟨byte_append (pgBody_byte hF _ (Nat.le_refl _)) (fun z hz => by have := List.eq_of_mem_replicate hz; omega), ?_⟩
  rw [pgFull, List.length_append, List.length_replicate]
  omega
 ·cases h
set_option maxHeartbeats 8000000 in
set_option maxRecDepth 20000 in
theorem specPageRead_any (a : Option Addr) (n c : Nat) (zs : List Int) (w : World) (h : Rd w a n c zs) :
  Calls Tryz.prog 63 #[.slice a n c] w fun e w' => PrPost (prd zs) w e w' := by
 have hzl : n = zs.length := h.1
 have HBY := hid h.2.2.2.2.1
 have HR := hid h
 have ba : Below w.heap.size w ((w.alloc (.cells #[.slice none 0 0, .slice none 0 0, .slice none 0 0] 107)).alloc (.cells #[.slice none 0 0, .slice none 0 0, .slice none 0 0] 107)) := below_new (below_new (Below.refl _ _))
 have LS : Hid (Pr1 w ((w.alloc (.cells #[.slice none 0 0, .slice none 0 0, .slice none 0 0] 107)).alloc (.cells #[.slice none 0 0, .slice none 0 0, .slice none 0 0] 107)) (.slice none 0 0) (.slice none 0 0) (.slice none 0 0) ⟨[], [], []⟩) := by
  have k1 := Bk.new (w.alloc (.cells #[.slice none 0 0, .slice none 0 0, .slice none 0 0] 107)) 107 [.slice none 0 0, .slice none 0 0, .slice none 0 0]
  exact ⟨ba, (Bk.new w 107 [.slice none 0 0, .slice none 0 0, .slice none 0 0]).alloc _, by simpa using k1, World.ownsRow_nil _ _ _ _, World.ownsRow_nil _ _ _ _, World.ownsRow_nil _ _ _ _, fun y hy => (by rcases hy with e | e | e <;> cases e), fun y => ⟨fun e => (by cases e), fun e => (by cases e)⟩⟩
 clear ba
 have r0 := LS.out.rb.cell (j := 0) rfl
 have r1 := LS.out.rb.cell (j := 1) rfl
 have r2 := LS.out.rb.cell (j := 2) rfl
 have f0 := LS.out.rb.free 0
 have f1 := LS.out.rb.free 1
 have f2 := LS.out.rb.free 2
 obtain ⟨p0, p1, p2⟩ := LS.out.cells
 by_cases h512 : n = 512
 ·subst h512
  have HZL : Hid (zs.length = 512) := hzl.symm
  obtain ⟨b, off, rfl, hbl, hcell⟩ := h.2.2.2.2.2 (by omega)
  have HC0 : Hid (∀ v, Below w.heap.size w v → v.cell? ⟨b, off, none⟩ = some (.int .u8 (zAt zs 0))) := by
   intro v hb
   rw [hb.cell (p := ⟨b, off, none⟩) hbl]
   exact hcell 0 (by omega)
  have hz0 := HBY.out 0
  have hz0' : 0 ≤ zAt zs 0 ∧ zAt zs 0 ≤ 255 := hz0
  have HPRN : Hid (¬ (zAt zs 0 = 76 ∨ zAt zs 0 = 66) → prd zs = none) := by
   intro hn
   rw [prd, if_neg]
   rintro ⟨_, h, _⟩
   exact hn h
  have HCDEF : Hid (cd zs = if zAt zs 0 = 66 then
    (if 0 ≤ (gv zs 1).2 then cdGo zs true (gv zs 1).1 6 0 ⟨[], [], [(gv zs (gv zs 1).2).1]⟩ (gv zs (gv zs 1).2).2 else cdGo zs true (gv zs 1).1 6 0 ⟨[], [], []⟩ (gv zs 1).2)
   else cdGo zs false (gv zs 1).1 6 0 ⟨[], [], []⟩ (gv zs 1).2) := rfl
  have HZC : Hid (zAt zs 0 = 76 ∨ zAt zs 0 = 66 → zAt zs 0 = 76 ∨ zAt zs 0 = 66) := fun h => h
  clear hcell hbl hzl h hz0
  have bS := HC0.out _ LS.out.be
  by_cases z76 : zAt zs 0 = 76
  ·have HZ0 : Hid (zAt zs 0 = 76 ∨ zAt zs 0 = 66) := .inl z76
   rw [if_neg (by rw [z76]; decide)] at HCDEF
   have HC0' : Hid (∀ v, Below w.heap.size w v → v.cell? ⟨b, off, none⟩ = some (.int .u8 76)) := fun v hv => by rw [HC0.out v hv, z76]
   rw [z76] at bS
   clear HC0 HPRN HZC hz0' z76
   have HC0 := HC0'
   clear HC0'
   have RDS := hid (HR.out.kept LS.out.be)
   go_enter Tryz.func63, Tryz.ntmps63
   go_wp2_with fail
   refine (specGetVar_any _ 512 c zs 1 _ RDS.out (by omega)).mono ?_
   generalize (w.alloc (.cells #[.slice none 0 0, .slice none 0 0, .slice none 0 0] 107)).alloc (.cells #[.slice none 0 0, .slice none 0 0, .slice none 0 0] 107) = U at *
   rintro e w1 ⟨rfl, hb1⟩
   have L1 := hid (LS.out.below hb1)
   have hgv := gv_rng zs HBY.out 1
   generalize (gv zs 1).1 = n0 at *
   generalize (gv zs 1).2 = at0 at *
   clear hb1 LS RDS r0 r1 r2 f0 f1 f2 p0 p1 p2 bS
   rw [HZL.out] at hgv
   have b1 := HC0.out _ L1.out.be
   generalize hA : (some ⟨b, off, none⟩ : Option Addr) = a at *
   subst hA
   have LS := L1
   go_wp2_with fail
   go_loopw [6, 9] (fun xa xi wr => ∃ (j : Nat) (at' : Int) (ka : Option Addr) (kn kc : Nat) (va : Option Addr) (vn vc : Nat) (ia : Option Addr) (jn ic : Nat) (p : PG), xa = .int .i64 at' ∧ xi = .int .i64 j ∧ j ≤ 5 ∧ (-1 ≤ at' ∧ at' ≤ 512) ∧ Hid (p.keys.length ≤ j ∧ p.vals.length ≤ j ∧ p.kids.length ≤ j + 1) ∧ Hid (Pr1 w wr (.slice ka kn kc) (.slice va vn vc) (.slice ia jn ic) p) ∧ Hid (cdGo zs false n0 (6 - j) j p at' = cd zs)) (fun _ xi _ => 6 - (intOf xi).toNat)
   case atStart => exact ⟨0, at0, none, 0, 0, none, 0, 0, none, 0, 0, ⟨[], [], []⟩, rfl, rfl, by omega, by omega, ⟨by simp, by simp, by simp⟩, L1.out, HCDEF.out.symm⟩
   case round =>
    obtain ⟨j, at', ka, kn, kc, va, vn, vc, ia, jn, ic, p, rfl, rfl, hj, hat, HPL, L4, HCD⟩ := hrel
    clear LS
    by_cases q1 : (j : Int) < n0
    ·by_cases q2 : (j : Int) ≤ 4
     ·by_cases q3 : 0 ≤ at'
      ·have L4B := L4
       have RD4 := hid (HR.out.kept L4.out.be)
       have b4 := HC0.out _ L4.out.be
       go_wp2_with fail
       refine (specGetText_any _ _ _ zs at' _ RD4.out (by omega)).mono ?_
       rintro e w5 ⟨rfl, hb5⟩
       have L5 := hid ((L4.out.below hb5).below (below_new (o := .cells #[.string (strOf (gt zs at').1)] 9) (Below.refl _ _)))
       have LL5 := hid (L4.out.below hb5)
       have Q5 := hid (Bk.new w5 9 [.string (strOf (gt zs at').1)])
       clear hb5 L4 RD4 b4
       obtain ⟨d0, d1, d2⟩ := LL5.out.cells
       have hgt := gt_range zs HBY.out at'
       rw [HZL.out] at hgt
       generalize hkk : strOf (gt zs at').1 = kk at *
       have HKK := hid hkk
       clear hkk
       have hkn2 : kn = p.keys.length := (Rw.len L4B.out.pgr.hk).1
       have hq1 : kn ≤ 1048576 := by have := HPL.out; omega
       have HOK := hid L5.out.hk
       rw [← hkn2] at HOK
       have HKN := hid hkn2
       clear hkn2
       go_wp2_with (at_builtin; refine wpList_append_st1 rfl _ _ rfl _ kn _ rfl HOK.out w5.heap.size kk rfl Q5.out hq1 ?_)
       intro a6 n6 c6 w6 hO6 hg6 ha6
       rw [HKN.out] at hO6
       obtain ⟨hL6, hB6⟩ := L5.out.addK hO6 hg6 (ha6.imp id (fun e => ⟨_, e, by simp⟩))
       have L6 := hid hL6
       have b6 := hB6.cell (j := 0) rfl
       have g6 := hB6.free 0
       have RD6 := hid (HR.out.kept L6.out.be)
       have b7 := HC0.out _ L6.out.be
       clear hO6 hg6 ha6 hL6 hB6 L5 Q5 LL5 HOK HKN d0 d1 d2
       go_wp2_with fail
       refine (specGetText_any _ _ _ zs (gt zs at').2 _ RD6.out (by omega)).mono ?_
       rintro e w7 ⟨rfl, hb7⟩
       have L7 := hid ((L6.out.below hb7).below (below_new (o := .cells #[.string (strOf (gt zs (gt zs at').2).1)] 9) (Below.refl _ _)))
       have Q7 := hid (Bk.new w7 9 [.string (strOf (gt zs (gt zs at').2).1)])
       have LL7 := hid (L6.out.below hb7)
       clear hb7 L6 RD6
       obtain ⟨d0, d1, d2⟩ := LL7.out.cells
       have hgv := gt_range zs HBY.out (gt zs at').2
       rw [HZL.out] at hgv
       generalize hgk : strOf (gt zs (gt zs at').2).1 = vv' at *
       generalize hga : (gt zs (gt zs at').2).2 = at3 at *
       have hjn2 : vn = p.vals.length := (Rw.len L4B.out.pgr.hv).1
       have hq2 : vn ≤ 1048576 := by have := HPL.out; omega
       have HOW := hid L7.out.hv
       rw [← hjn2] at HOW
       have HJN := hid hjn2
       clear hjn2
       go_wp2_with (at_builtin; refine wpList_append_st1 rfl _ _ rfl _ vn _ rfl HOW.out w7.heap.size vv' rfl Q7.out hq2 ?_)
       intro a8 n8 c8 w8 hO8 hg8 ha8
       rw [HJN.out] at hO8
       obtain ⟨hL8, hB8⟩ := L7.out.addV hO8 hg8 (ha8.imp id (fun e => ⟨_, e, by simp⟩))
       have L8 := hid hL8
       have b8 := hB8.cell (j := 1) rfl
       have g8 := hB8.free 1
       have HCX : Hid (cdGo zs false n0 (6 - (j + 1)) (j + 1) ⟨p.keys ++ [kk], p.vals ++ [vv'], p.kids⟩ at3 = cd zs) := by
        have := HCD.out
        rw [show 6 - j = (6 - (j + 1)) + 1 by omega, cdGo_on _ _ _ _ _ _ _ ⟨q1, by omega, q3⟩] at this
        show _ = cd zs
        simpa [cdStep, HKK.out, hgk, hga] using this
       clear hO8 hg8 ha8 hL8 hB8 L7 Q7 LL7 HOW hgk hga HJN
       go_wp2
       go_roundw
       case rel => exact ⟨j + 1, at3, _, _, _, _, _, _, _, _, _, _, rfl, by go_num, by omega, by omega, by have := HPL.out; exact ⟨by simp; omega, by simp; omega, by simp; omega⟩, L8.out, HCX.out⟩
       case measure => simp [intOf]; omega
      ·have HPC : Hid (p = cd zs) := by
        have := HCD.out
        rw [cdGo_stop _ _ _ _ _ _ _ (by omega)] at this
        exact this
       have L := L4
       clear HCD L4
       have HCD := HPC
       clear HPC
       have lf := hid L.out.pgr
       obtain ⟨d0, d1, d2⟩ := L.out.cells
       go_wp2_with fail
       refine (specPageBytes_any _ ka kn kc va vn vc ia jn ic p _ lf.out).mono ?_
       intro e w5 hput
       obtain ⟨hb5, ⟨hnn, rfl⟩ | ⟨v5, bs, hss, rfl, hO5⟩⟩ := hput
       ·have HPR : Hid (prd zs = none) := by
         show prd zs = none
         rw [prd, if_neg]
         rintro ⟨_, _, h⟩
         rw [← HCD.out, hnn] at h
         cases h
        have L5 := hid (L.out.below hb5)
        have r0 := L5.out.rb.cell (j := 0) rfl
        have r1 := L5.out.rb.cell (j := 1) rfl
        have r2 := L5.out.rb.cell (j := 2) rfl
        have f0 := L5.out.rb.free 0
        have f1 := L5.out.rb.free 1
        have f2 := L5.out.rb.free 2
        have HBF := hid L5.out.be
        clear hb5 hnn L lf d0 d1 d2 L5
        go_wp2
        refine bodyPost_ret (results_pg2 (x := .slice none 0 0) (y := .slice none 0 0) (z := .slice none 0 0) rfl _ _ _ rfl rfl (by go_simp) (by go_simp) (by go_simp)) rfl ?_
        exact ⟨((HBF.out.setCell (p := ⟨w.heap.size, 0, none⟩) (Nat.le_refl _) _).setCell (p := ⟨w.heap.size, 1, none⟩) (Nat.le_refl _) _).setCell (p := ⟨w.heap.size, 2, none⟩) (Nat.le_refl _) _, .inl ⟨HPR.out, rfl⟩⟩
       ·have hbs := pgBytes_some hss
        obtain ⟨a5, n5, c5, rfl, R5, hn5⟩ := hO5.rdS hbs.1 (by rw [hbs.2]; omega)
        have L5 := hid (L.out.below hb5)
        have RB := hid (HR.out.kept L5.out.be)
        have HSS := hid hss
        clear hb5 hO5 hbs hss L lf d0 d1 d2
        obtain ⟨d0, d1, d2⟩ := L5.out.cells
        have r0 := L5.out.rb.cell (j := 0) rfl
        have r1 := L5.out.rb.cell (j := 1) rfl
        have r2 := L5.out.rb.cell (j := 2) rfl
        have f0 := L5.out.rb.free 0
        have f1 := L5.out.rb.free 1
        have f2 := L5.out.rb.free 2
        go_wp2_with fail
        refine (same_any a5 _ n5 _ c5 _ bs zs _ R5.out RB.out).mono ?_
        by_cases heq : bs = zs
        ·have HPR : Hid (prd zs = some p) := by
          show prd zs = some p
          rw [prd, if_pos, HCD.out]
          exact ⟨HZL.out, HZ0.out, by rw [← HCD.out, HSS.out, heq]⟩
         rw [decide_eq_true heq]
         rintro e w6 ⟨rfl, rfl⟩
         have L6 := hid L5.out.pgr
         have HBF := hid L5.out.be
         clear L5 R5 RB HSS heq
         go_wp2
         refine bodyPost_ret (results_pg2 (x := .slice ka kn kc) (y := .slice va vn vc) (z := .slice ia jn ic) rfl _ _ _ rfl rfl (by go_simp) (by go_simp) (by go_simp)) rfl ?_
         refine ⟨((HBF.out.setCell (p := ⟨w.heap.size, 0, none⟩) (Nat.le_refl _) _).setCell (p := ⟨w.heap.size, 1, none⟩) (Nat.le_refl _) _).setCell (p := ⟨w.heap.size, 2, none⟩) (Nat.le_refl _) _, .inr ⟨p, _, _, _, _, _, _, _, _, _, HPR.out, rfl, ?_⟩⟩
         have hon : Only (fun y => y = w.heap.size) w5 (((w5.setCell ⟨w.heap.size, 0, none⟩ (.slice ka kn kc)).setCell ⟨w.heap.size, 1, none⟩ (.slice va vn vc)).setCell ⟨w.heap.size, 2, none⟩ (.slice ia jn ic)) := (only_set (R := fun y => y = w.heap.size) rfl _).trans ((only_set (R := fun y => y = w.heap.size) rfl _).trans (only_set (R := fun y => y = w.heap.size) rfl _))
         have h7 := L6.out.to hon (fun y hy _ e => by omega)
         exact ⟨Rw.mono h7.hk (fun y hy _ => by omega), Rw.mono h7.hv (fun y hy _ => by omega), Rw.mono h7.hi (fun y hy _ => by omega)⟩
        ·have HPR : Hid (prd zs = none) := by
          show prd zs = none
          rw [prd, if_neg]
          rintro ⟨_, _, h⟩
          rw [← HCD.out, HSS.out] at h
          cases h
          exact heq rfl
         rw [decide_eq_false heq]
         rintro e w6 ⟨rfl, rfl⟩
         have HBF := hid L5.out.be
         clear L5 R5 RB HSS heq
         go_wp2
         refine bodyPost_ret (results_pg2 (x := .slice none 0 0) (y := .slice none 0 0) (z := .slice none 0 0) rfl _ _ _ rfl rfl (by go_simp) (by go_simp) (by go_simp)) rfl ?_
         exact ⟨((HBF.out.setCell (p := ⟨w.heap.size, 0, none⟩) (Nat.le_refl _) _).setCell (p := ⟨w.heap.size, 1, none⟩) (Nat.le_refl _) _).setCell (p := ⟨w.heap.size, 2, none⟩) (Nat.le_refl _) _, .inl ⟨HPR.out, rfl⟩⟩
     ·have HPC : Hid (p = cd zs) := by
       have := HCD.out
       rw [cdGo_stop _ _ _ _ _ _ _ (by omega)] at this
       exact this
      have L := L4
      clear HCD L4
      have HCD := HPC
      clear HPC
      have lf := hid L.out.pgr
      obtain ⟨d0, d1, d2⟩ := L.out.cells
      go_wp2_with fail
      refine (specPageBytes_any _ ka kn kc va vn vc ia jn ic p _ lf.out).mono ?_
      intro e w5 hput
      obtain ⟨hb5, ⟨hnn, rfl⟩ | ⟨v5, bs, hss, rfl, hO5⟩⟩ := hput
      ·have HPR : Hid (prd zs = none) := by
        show prd zs = none
        rw [prd, if_neg]
        rintro ⟨_, _, h⟩
        rw [← HCD.out, hnn] at h
        cases h
       have L5 := hid (L.out.below hb5)
       have r0 := L5.out.rb.cell (j := 0) rfl
       have r1 := L5.out.rb.cell (j := 1) rfl
       have r2 := L5.out.rb.cell (j := 2) rfl
       have f0 := L5.out.rb.free 0
       have f1 := L5.out.rb.free 1
       have f2 := L5.out.rb.free 2
       have HBF := hid L5.out.be
       clear hb5 hnn L lf d0 d1 d2 L5
       go_wp2
       refine bodyPost_ret (results_pg2 (x := .slice none 0 0) (y := .slice none 0 0) (z := .slice none 0 0) rfl _ _ _ rfl rfl (by go_simp) (by go_simp) (by go_simp)) rfl ?_
       exact ⟨((HBF.out.setCell (p := ⟨w.heap.size, 0, none⟩) (Nat.le_refl _) _).setCell (p := ⟨w.heap.size, 1, none⟩) (Nat.le_refl _) _).setCell (p := ⟨w.heap.size, 2, none⟩) (Nat.le_refl _) _, .inl ⟨HPR.out, rfl⟩⟩
      ·have hbs := pgBytes_some hss
       obtain ⟨a5, n5, c5, rfl, R5, hn5⟩ := hO5.rdS hbs.1 (by rw [hbs.2]; omega)
       have L5 := hid (L.out.below hb5)
       have RB := hid (HR.out.kept L5.out.be)
       have HSS := hid hss
       clear hb5 hO5 hbs hss L lf d0 d1 d2
       obtain ⟨d0, d1, d2⟩ := L5.out.cells
       have r0 := L5.out.rb.cell (j := 0) rfl
       have r1 := L5.out.rb.cell (j := 1) rfl
       have r2 := L5.out.rb.cell (j := 2) rfl
       have f0 := L5.out.rb.free 0
       have f1 := L5.out.rb.free 1
       have f2 := L5.out.rb.free 2
       go_wp2_with fail
       refine (same_any a5 _ n5 _ c5 _ bs zs _ R5.out RB.out).mono ?_
       by_cases heq : bs = zs
       ·have HPR : Hid (prd zs = some p) := by
         show prd zs = some p
         rw [prd, if_pos, HCD.out]
         exact ⟨HZL.out, HZ0.out, by rw [← HCD.out, HSS.out, heq]⟩
        rw [decide_eq_true heq]
        rintro e w6 ⟨rfl, rfl⟩
        have L6 := hid L5.out.pgr
        have HBF := hid L5.out.be
        clear L5 R5 RB HSS heq
        go_wp2
        refine bodyPost_ret (results_pg2 (x := .slice ka kn kc) (y := .slice va vn vc) (z := .slice ia jn ic) rfl _ _ _ rfl rfl (by go_simp) (by go_simp) (by go_simp)) rfl ?_
        refine ⟨((HBF.out.setCell (p := ⟨w.heap.size, 0, none⟩) (Nat.le_refl _) _).setCell (p := ⟨w.heap.size, 1, none⟩) (Nat.le_refl _) _).setCell (p := ⟨w.heap.size, 2, none⟩) (Nat.le_refl _) _, .inr ⟨p, _, _, _, _, _, _, _, _, _, HPR.out, rfl, ?_⟩⟩
        have hon : Only (fun y => y = w.heap.size) w5 (((w5.setCell ⟨w.heap.size, 0, none⟩ (.slice ka kn kc)).setCell ⟨w.heap.size, 1, none⟩ (.slice va vn vc)).setCell ⟨w.heap.size, 2, none⟩ (.slice ia jn ic)) := (only_set (R := fun y => y = w.heap.size) rfl _).trans ((only_set (R := fun y => y = w.heap.size) rfl _).trans (only_set (R := fun y => y = w.heap.size) rfl _))
        have h7 := L6.out.to hon (fun y hy _ e => by omega)
        exact ⟨Rw.mono h7.hk (fun y hy _ => by omega), Rw.mono h7.hv (fun y hy _ => by omega), Rw.mono h7.hi (fun y hy _ => by omega)⟩
       ·have HPR : Hid (prd zs = none) := by
         show prd zs = none
         rw [prd, if_neg]
         rintro ⟨_, _, h⟩
         rw [← HCD.out, HSS.out] at h
         cases h
         exact heq rfl
        rw [decide_eq_false heq]
        rintro e w6 ⟨rfl, rfl⟩
        have HBF := hid L5.out.be
        clear L5 R5 RB HSS heq
        go_wp2
        refine bodyPost_ret (results_pg2 (x := .slice none 0 0) (y := .slice none 0 0) (z := .slice none 0 0) rfl _ _ _ rfl rfl (by go_simp) (by go_simp) (by go_simp)) rfl ?_
        exact ⟨((HBF.out.setCell (p := ⟨w.heap.size, 0, none⟩) (Nat.le_refl _) _).setCell (p := ⟨w.heap.size, 1, none⟩) (Nat.le_refl _) _).setCell (p := ⟨w.heap.size, 2, none⟩) (Nat.le_refl _) _, .inl ⟨HPR.out, rfl⟩⟩
    ·have HPC : Hid (p = cd zs) := by
      have := HCD.out
      rw [cdGo_stop _ _ _ _ _ _ _ (by omega)] at this
      exact this
     have L := L4
     clear HCD L4
     have HCD := HPC
     clear HPC
     have lf := hid L.out.pgr
     obtain ⟨d0, d1, d2⟩ := L.out.cells
     go_wp2_with fail
     refine (specPageBytes_any _ ka kn kc va vn vc ia jn ic p _ lf.out).mono ?_
     intro e w5 hput
     obtain ⟨hb5, ⟨hnn, rfl⟩ | ⟨v5, bs, hss, rfl, hO5⟩⟩ := hput
     ·have HPR : Hid (prd zs = none) := by
       show prd zs = none
       rw [prd, if_neg]
       rintro ⟨_, _, h⟩
       rw [← HCD.out, hnn] at h
       cases h
      have L5 := hid (L.out.below hb5)
      have r0 := L5.out.rb.cell (j := 0) rfl
      have r1 := L5.out.rb.cell (j := 1) rfl
      have r2 := L5.out.rb.cell (j := 2) rfl
      have f0 := L5.out.rb.free 0
      have f1 := L5.out.rb.free 1
      have f2 := L5.out.rb.free 2
      have HBF := hid L5.out.be
      clear hb5 hnn L lf d0 d1 d2 L5
      go_wp2
      refine bodyPost_ret (results_pg2 (x := .slice none 0 0) (y := .slice none 0 0) (z := .slice none 0 0) rfl _ _ _ rfl rfl (by go_simp) (by go_simp) (by go_simp)) rfl ?_
      exact ⟨((HBF.out.setCell (p := ⟨w.heap.size, 0, none⟩) (Nat.le_refl _) _).setCell (p := ⟨w.heap.size, 1, none⟩) (Nat.le_refl _) _).setCell (p := ⟨w.heap.size, 2, none⟩) (Nat.le_refl _) _, .inl ⟨HPR.out, rfl⟩⟩
     ·have hbs := pgBytes_some hss
      obtain ⟨a5, n5, c5, rfl, R5, hn5⟩ := hO5.rdS hbs.1 (by rw [hbs.2]; omega)
      have L5 := hid (L.out.below hb5)
      have RB := hid (HR.out.kept L5.out.be)
      have HSS := hid hss
      clear hb5 hO5 hbs hss L lf d0 d1 d2
      obtain ⟨d0, d1, d2⟩ := L5.out.cells
      have r0 := L5.out.rb.cell (j := 0) rfl
      have r1 := L5.out.rb.cell (j := 1) rfl
      have r2 := L5.out.rb.cell (j := 2) rfl
      have f0 := L5.out.rb.free 0
      have f1 := L5.out.rb.free 1
      have f2 := L5.out.rb.free 2
      go_wp2_with fail
      refine (same_any a5 _ n5 _ c5 _ bs zs _ R5.out RB.out).mono ?_
      by_cases heq : bs = zs
      ·have HPR : Hid (prd zs = some p) := by
        show prd zs = some p
        rw [prd, if_pos, HCD.out]
        exact ⟨HZL.out, HZ0.out, by rw [← HCD.out, HSS.out, heq]⟩
       rw [decide_eq_true heq]
       rintro e w6 ⟨rfl, rfl⟩
       have L6 := hid L5.out.pgr
       have HBF := hid L5.out.be
       clear L5 R5 RB HSS heq
       go_wp2
       refine bodyPost_ret (results_pg2 (x := .slice ka kn kc) (y := .slice va vn vc) (z := .slice ia jn ic) rfl _ _ _ rfl rfl (by go_simp) (by go_simp) (by go_simp)) rfl ?_
       refine ⟨((HBF.out.setCell (p := ⟨w.heap.size, 0, none⟩) (Nat.le_refl _) _).setCell (p := ⟨w.heap.size, 1, none⟩) (Nat.le_refl _) _).setCell (p := ⟨w.heap.size, 2, none⟩) (Nat.le_refl _) _, .inr ⟨p, _, _, _, _, _, _, _, _, _, HPR.out, rfl, ?_⟩⟩
       have hon : Only (fun y => y = w.heap.size) w5 (((w5.setCell ⟨w.heap.size, 0, none⟩ (.slice ka kn kc)).setCell ⟨w.heap.size, 1, none⟩ (.slice va vn vc)).setCell ⟨w.heap.size, 2, none⟩ (.slice ia jn ic)) := (only_set (R := fun y => y = w.heap.size) rfl _).trans ((only_set (R := fun y => y = w.heap.size) rfl _).trans (only_set (R := fun y => y = w.heap.size) rfl _))
       have h7 := L6.out.to hon (fun y hy _ e => by omega)
       exact ⟨Rw.mono h7.hk (fun y hy _ => by omega), Rw.mono h7.hv (fun y hy _ => by omega), Rw.mono h7.hi (fun y hy _ => by omega)⟩
      ·have HPR : Hid (prd zs = none) := by
        show prd zs = none
        rw [prd, if_neg]
        rintro ⟨_, _, h⟩
        rw [← HCD.out, HSS.out] at h
        cases h
        exact heq rfl
       rw [decide_eq_false heq]
       rintro e w6 ⟨rfl, rfl⟩
       have HBF := hid L5.out.be
       clear L5 R5 RB HSS heq
       go_wp2
       refine bodyPost_ret (results_pg2 (x := .slice none 0 0) (y := .slice none 0 0) (z := .slice none 0 0) rfl _ _ _ rfl rfl (by go_simp) (by go_simp) (by go_simp)) rfl ?_
       exact ⟨((HBF.out.setCell (p := ⟨w.heap.size, 0, none⟩) (Nat.le_refl _) _).setCell (p := ⟨w.heap.size, 1, none⟩) (Nat.le_refl _) _).setCell (p := ⟨w.heap.size, 2, none⟩) (Nat.le_refl _) _, .inl ⟨HPR.out, rfl⟩⟩
  ·by_cases z66 : zAt zs 0 = 66
   ·have HZ0 : Hid (zAt zs 0 = 76 ∨ zAt zs 0 = 66) := .inr z66
    rw [if_pos z66] at HCDEF
    have HC0' : Hid (∀ v, Below w.heap.size w v → v.cell? ⟨b, off, none⟩ = some (.int .u8 66)) := fun v hv => by rw [HC0.out v hv, z66]
    rw [z66] at bS
    clear HC0 HPRN HZC hz0' z66 z76
    have HC0 := HC0'
    clear HC0'
    have RDS := hid (HR.out.kept LS.out.be)
    go_enter Tryz.func63, Tryz.ntmps63
    go_wp2_with fail
    refine (specGetVar_any _ 512 c zs 1 _ RDS.out (by omega)).mono ?_
    generalize (w.alloc (.cells #[.slice none 0 0, .slice none 0 0, .slice none 0 0] 107)).alloc (.cells #[.slice none 0 0, .slice none 0 0, .slice none 0 0] 107) = U at *
    rintro e w1 ⟨rfl, hb1⟩
    have L1 := hid (LS.out.below hb1)
    have hgv := gv_rng zs HBY.out 1
    generalize (gv zs 1).1 = n0 at *
    generalize (gv zs 1).2 = at0 at *
    clear hb1 LS RDS r0 r1 r2 f0 f1 f2 p0 p1 p2 bS
    rw [HZL.out] at hgv
    have b1 := HC0.out _ L1.out.be
    by_cases hat0 : 0 ≤ at0
    ·rw [if_pos hat0] at HCDEF
     have RD1 := hid (HR.out.kept L1.out.be)
     go_wp2_with fail
     refine (specGetVar_any _ 512 c zs at0 _ RD1.out (by omega)).mono ?_
     rintro e w2 ⟨rfl, hb2⟩
     have L2 := hid (L1.out.below hb2)
     have hgv2 := gv_rng zs HBY.out at0
     generalize (gv zs at0).1 = kid0 at *
     generalize (gv zs at0).2 = at1 at *
     rw [HZL.out] at hgv2
     have L3 := hid (L2.out.below (below_new (o := .cells #[.int .i64 kid0] 3) (w := w2) (Below.refl _ _)))
     have Q3 := hid (Bk.new w2 3 [.int .i64 kid0])
     obtain ⟨d0, d1, d2⟩ := L2.out.cells
     have b2 := HC0.out _ L2.out.be
     clear hb2 L1 RD1 b1
     go_wp2_with (at_builtin; refine wpList_append_in1 rfl _ _ rfl _ 0 _ rfl L3.out.hi w2.heap.size kid0 rfl Q3.out (by omega) ?_)
     intro a8 n8 c8 w8 hO8 hg8 ha8
     obtain ⟨hL8, hB8⟩ := L3.out.addI hO8 hg8 (ha8.imp id (fun e => ⟨_, e, by simp⟩))
     have LS := hid hL8
     have b8 := hB8.cell (j := 2) rfl
     have g8 := hB8.free 2
     clear hO8 hg8 ha8 hL8 hB8 L3 Q3 L2 d0 d1 d2 b2
     go_wp2_with fail
     clear b8 g8
     go_loopw [6, 9] (fun xa xi wr => ∃ (j : Nat) (at' : Int) (ka : Option Addr) (kn kc : Nat) (va : Option Addr) (vn vc : Nat) (ia : Option Addr) (jn ic : Nat) (p : PG), xa = .int .i64 at' ∧ xi = .int .i64 j ∧ j ≤ 5 ∧ (-1 ≤ at' ∧ at' ≤ 512) ∧ Hid (p.keys.length ≤ j ∧ p.vals.length ≤ j ∧ p.kids.length ≤ j + 1) ∧ Hid (Pr1 w wr (.slice ka kn kc) (.slice va vn vc) (.slice ia jn ic) p) ∧ Hid (cdGo zs true n0 (6 - j) j p at' = cd zs)) (fun _ xi _ => 6 - (intOf xi).toNat)
     case atStart => exact ⟨0, at1, none, 0, 0, none, 0, 0, _, _, _, ⟨[], [], [] ++ [kid0]⟩, rfl, rfl, by omega, by omega, ⟨by simp, by simp, by simp⟩, LS.out, HCDEF.out.symm⟩
     case round =>
      obtain ⟨j, at', ka, kn, kc, va, vn, vc, ia, jn, ic, p, rfl, rfl, hj, hat, HPL, L4, HCD⟩ := hrel
      clear LS
      by_cases q1 : (j : Int) < n0
      ·by_cases q2 : (j : Int) ≤ 4
       ·by_cases q3 : 0 ≤ at'
        ·have L4B := L4
         have RD4 := hid (HR.out.kept L4.out.be)
         have b4 := HC0.out _ L4.out.be
         go_wp2_with fail
         refine (specGetText_any _ _ _ zs at' _ RD4.out (by omega)).mono ?_
         rintro e w5 ⟨rfl, hb5⟩
         have L5 := hid ((L4.out.below hb5).below (below_new (o := .cells #[.string (strOf (gt zs at').1)] 9) (Below.refl _ _)))
         have LL5 := hid (L4.out.below hb5)
         have Q5 := hid (Bk.new w5 9 [.string (strOf (gt zs at').1)])
         clear hb5 L4 RD4 b4
         obtain ⟨d0, d1, d2⟩ := LL5.out.cells
         have hgt := gt_range zs HBY.out at'
         rw [HZL.out] at hgt
         generalize hkk : strOf (gt zs at').1 = kk at *
         have HKK := hid hkk
         clear hkk
         have hkn2 : kn = p.keys.length := (Rw.len L4B.out.pgr.hk).1
         have hq1 : kn ≤ 1048576 := by have := HPL.out; omega
         have HOK := hid L5.out.hk
         rw [← hkn2] at HOK
         have HKN := hid hkn2
         clear hkn2
         go_wp2_with (at_builtin; refine wpList_append_st1 rfl _ _ rfl _ kn _ rfl HOK.out w5.heap.size kk rfl Q5.out hq1 ?_)
         intro a6 n6 c6 w6 hO6 hg6 ha6
         rw [HKN.out] at hO6
         obtain ⟨hL6, hB6⟩ := L5.out.addK hO6 hg6 (ha6.imp id (fun e => ⟨_, e, by simp⟩))
         have L6 := hid hL6
         have b6 := hB6.cell (j := 0) rfl
         have g6 := hB6.free 0
         have RD6 := hid (HR.out.kept L6.out.be)
         have b7 := HC0.out _ L6.out.be
         clear hO6 hg6 ha6 hL6 hB6 L5 Q5 LL5 HOK HKN d0 d1 d2
         go_wp2_with fail
         refine (specGetVar_any _ _ _ zs (gt zs at').2 _ RD6.out (by omega)).mono ?_
         rintro e w7 ⟨rfl, hb7⟩
         have L7 := hid ((L6.out.below hb7).below (below_new (o := .cells #[.int .i64 (gv zs (gt zs at').2).1] 3) (Below.refl _ _)))
         have Q7 := hid (Bk.new w7 3 [.int .i64 (gv zs (gt zs at').2).1])
         have LL7 := hid (L6.out.below hb7)
         clear hb7 L6 RD6
         obtain ⟨d0, d1, d2⟩ := LL7.out.cells
         have hgv := gv_rng zs HBY.out (gt zs at').2
         rw [HZL.out] at hgv
         generalize hgk : (gv zs (gt zs at').2).1 = kid at *
         generalize hga : (gv zs (gt zs at').2).2 = at3 at *
         have hjn2 : jn = p.kids.length := (Rw.len L4B.out.pgr.hi).1
         have hq2 : jn ≤ 1048576 := by have := HPL.out; omega
         have HOW := hid L7.out.hi
         rw [← hjn2] at HOW
         have HJN := hid hjn2
         clear hjn2
         go_wp2_with (at_builtin; refine wpList_append_in1 rfl _ _ rfl _ jn _ rfl HOW.out w7.heap.size kid rfl Q7.out hq2 ?_)
         intro a8 n8 c8 w8 hO8 hg8 ha8
         rw [HJN.out] at hO8
         obtain ⟨hL8, hB8⟩ := L7.out.addI hO8 hg8 (ha8.imp id (fun e => ⟨_, e, by simp⟩))
         have L8 := hid hL8
         have b8 := hB8.cell (j := 2) rfl
         have g8 := hB8.free 2
         have HCX : Hid (cdGo zs true n0 (6 - (j + 1)) (j + 1) ⟨p.keys ++ [kk], p.vals, p.kids ++ [kid]⟩ at3 = cd zs) := by
          have := HCD.out
          rw [show 6 - j = (6 - (j + 1)) + 1 by omega, cdGo_on _ _ _ _ _ _ _ ⟨q1, by omega, q3⟩] at this
          show _ = cd zs
          simpa [cdStep, HKK.out, hgk, hga] using this
         clear hO8 hg8 ha8 hL8 hB8 L7 Q7 LL7 HOW hgk hga HJN
         go_wp2
         go_roundw
         case rel => exact ⟨j + 1, at3, _, _, _, _, _, _, _, _, _, _, rfl, by go_num, by omega, by omega, by have := HPL.out; exact ⟨by simp; omega, by simp; omega, by simp; omega⟩, L8.out, HCX.out⟩
         case measure => simp [intOf]; omega
        ·have HPC : Hid (p = cd zs) := by
          have := HCD.out
          rw [cdGo_stop _ _ _ _ _ _ _ (by omega)] at this
          exact this
         have L := L4
         clear HCD L4
         have HCD := HPC
         clear HPC
         have lf := hid L.out.pgr
         obtain ⟨d0, d1, d2⟩ := L.out.cells
         go_wp2_with fail
         refine (specPageBytes_any _ ka kn kc va vn vc ia jn ic p _ lf.out).mono ?_
         intro e w5 hput
         obtain ⟨hb5, ⟨hnn, rfl⟩ | ⟨v5, bs, hss, rfl, hO5⟩⟩ := hput
         ·have HPR : Hid (prd zs = none) := by
           show prd zs = none
           rw [prd, if_neg]
           rintro ⟨_, _, h⟩
           rw [← HCD.out, hnn] at h
           cases h
          have L5 := hid (L.out.below hb5)
          have r0 := L5.out.rb.cell (j := 0) rfl
          have r1 := L5.out.rb.cell (j := 1) rfl
          have r2 := L5.out.rb.cell (j := 2) rfl
          have f0 := L5.out.rb.free 0
          have f1 := L5.out.rb.free 1
          have f2 := L5.out.rb.free 2
          have HBF := hid L5.out.be
          clear hb5 hnn L lf d0 d1 d2 L5
          go_wp2
          refine bodyPost_ret (results_pg2 (x := .slice none 0 0) (y := .slice none 0 0) (z := .slice none 0 0) rfl _ _ _ rfl rfl (by go_simp) (by go_simp) (by go_simp)) rfl ?_
          exact ⟨((HBF.out.setCell (p := ⟨w.heap.size, 0, none⟩) (Nat.le_refl _) _).setCell (p := ⟨w.heap.size, 1, none⟩) (Nat.le_refl _) _).setCell (p := ⟨w.heap.size, 2, none⟩) (Nat.le_refl _) _, .inl ⟨HPR.out, rfl⟩⟩
         ·have hbs := pgBytes_some hss
          obtain ⟨a5, n5, c5, rfl, R5, hn5⟩ := hO5.rdS hbs.1 (by rw [hbs.2]; omega)
          have L5 := hid (L.out.below hb5)
          have RB := hid (HR.out.kept L5.out.be)
          have HSS := hid hss
          clear hb5 hO5 hbs hss L lf d0 d1 d2
          obtain ⟨d0, d1, d2⟩ := L5.out.cells
          have r0 := L5.out.rb.cell (j := 0) rfl
          have r1 := L5.out.rb.cell (j := 1) rfl
          have r2 := L5.out.rb.cell (j := 2) rfl
          have f0 := L5.out.rb.free 0
          have f1 := L5.out.rb.free 1
          have f2 := L5.out.rb.free 2
          go_wp2_with fail
          refine (same_any a5 _ n5 _ c5 _ bs zs _ R5.out RB.out).mono ?_
          by_cases heq : bs = zs
          ·have HPR : Hid (prd zs = some p) := by
            show prd zs = some p
            rw [prd, if_pos, HCD.out]
            exact ⟨HZL.out, HZ0.out, by rw [← HCD.out, HSS.out, heq]⟩
           rw [decide_eq_true heq]
           rintro e w6 ⟨rfl, rfl⟩
           have L6 := hid L5.out.pgr
           have HBF := hid L5.out.be
           clear L5 R5 RB HSS heq
           go_wp2
           refine bodyPost_ret (results_pg2 (x := .slice ka kn kc) (y := .slice va vn vc) (z := .slice ia jn ic) rfl _ _ _ rfl rfl (by go_simp) (by go_simp) (by go_simp)) rfl ?_
           refine ⟨((HBF.out.setCell (p := ⟨w.heap.size, 0, none⟩) (Nat.le_refl _) _).setCell (p := ⟨w.heap.size, 1, none⟩) (Nat.le_refl _) _).setCell (p := ⟨w.heap.size, 2, none⟩) (Nat.le_refl _) _, .inr ⟨p, _, _, _, _, _, _, _, _, _, HPR.out, rfl, ?_⟩⟩
           have hon : Only (fun y => y = w.heap.size) w5 (((w5.setCell ⟨w.heap.size, 0, none⟩ (.slice ka kn kc)).setCell ⟨w.heap.size, 1, none⟩ (.slice va vn vc)).setCell ⟨w.heap.size, 2, none⟩ (.slice ia jn ic)) := (only_set (R := fun y => y = w.heap.size) rfl _).trans ((only_set (R := fun y => y = w.heap.size) rfl _).trans (only_set (R := fun y => y = w.heap.size) rfl _))
           have h7 := L6.out.to hon (fun y hy _ e => by omega)
           exact ⟨Rw.mono h7.hk (fun y hy _ => by omega), Rw.mono h7.hv (fun y hy _ => by omega), Rw.mono h7.hi (fun y hy _ => by omega)⟩
          ·have HPR : Hid (prd zs = none) := by
            show prd zs = none
            rw [prd, if_neg]
            rintro ⟨_, _, h⟩
            rw [← HCD.out, HSS.out] at h
            cases h
            exact heq rfl
           rw [decide_eq_false heq]
           rintro e w6 ⟨rfl, rfl⟩
           have HBF := hid L5.out.be
           clear L5 R5 RB HSS heq
           go_wp2
           refine bodyPost_ret (results_pg2 (x := .slice none 0 0) (y := .slice none 0 0) (z := .slice none 0 0) rfl _ _ _ rfl rfl (by go_simp) (by go_simp) (by go_simp)) rfl ?_
           exact ⟨((HBF.out.setCell (p := ⟨w.heap.size, 0, none⟩) (Nat.le_refl _) _).setCell (p := ⟨w.heap.size, 1, none⟩) (Nat.le_refl _) _).setCell (p := ⟨w.heap.size, 2, none⟩) (Nat.le_refl _) _, .inl ⟨HPR.out, rfl⟩⟩
       ·have HPC : Hid (p = cd zs) := by
         have := HCD.out
         rw [cdGo_stop _ _ _ _ _ _ _ (by omega)] at this
         exact this
        have L := L4
        clear HCD L4
        have HCD := HPC
        clear HPC
        have lf := hid L.out.pgr
        obtain ⟨d0, d1, d2⟩ := L.out.cells
        go_wp2_with fail
        refine (specPageBytes_any _ ka kn kc va vn vc ia jn ic p _ lf.out).mono ?_
        intro e w5 hput
        obtain ⟨hb5, ⟨hnn, rfl⟩ | ⟨v5, bs, hss, rfl, hO5⟩⟩ := hput
        ·have HPR : Hid (prd zs = none) := by
          show prd zs = none
          rw [prd, if_neg]
          rintro ⟨_, _, h⟩
          rw [← HCD.out, hnn] at h
          cases h
         have L5 := hid (L.out.below hb5)
         have r0 := L5.out.rb.cell (j := 0) rfl
         have r1 := L5.out.rb.cell (j := 1) rfl
         have r2 := L5.out.rb.cell (j := 2) rfl
         have f0 := L5.out.rb.free 0
         have f1 := L5.out.rb.free 1
         have f2 := L5.out.rb.free 2
         have HBF := hid L5.out.be
         clear hb5 hnn L lf d0 d1 d2 L5
         go_wp2
         refine bodyPost_ret (results_pg2 (x := .slice none 0 0) (y := .slice none 0 0) (z := .slice none 0 0) rfl _ _ _ rfl rfl (by go_simp) (by go_simp) (by go_simp)) rfl ?_
         exact ⟨((HBF.out.setCell (p := ⟨w.heap.size, 0, none⟩) (Nat.le_refl _) _).setCell (p := ⟨w.heap.size, 1, none⟩) (Nat.le_refl _) _).setCell (p := ⟨w.heap.size, 2, none⟩) (Nat.le_refl _) _, .inl ⟨HPR.out, rfl⟩⟩
        ·have hbs := pgBytes_some hss
         obtain ⟨a5, n5, c5, rfl, R5, hn5⟩ := hO5.rdS hbs.1 (by rw [hbs.2]; omega)
         have L5 := hid (L.out.below hb5)
         have RB := hid (HR.out.kept L5.out.be)
         have HSS := hid hss
         clear hb5 hO5 hbs hss L lf d0 d1 d2
         obtain ⟨d0, d1, d2⟩ := L5.out.cells
         have r0 := L5.out.rb.cell (j := 0) rfl
         have r1 := L5.out.rb.cell (j := 1) rfl
         have r2 := L5.out.rb.cell (j := 2) rfl
         have f0 := L5.out.rb.free 0
         have f1 := L5.out.rb.free 1
         have f2 := L5.out.rb.free 2
         go_wp2_with fail
         refine (same_any a5 _ n5 _ c5 _ bs zs _ R5.out RB.out).mono ?_
         by_cases heq : bs = zs
         ·have HPR : Hid (prd zs = some p) := by
           show prd zs = some p
           rw [prd, if_pos, HCD.out]
           exact ⟨HZL.out, HZ0.out, by rw [← HCD.out, HSS.out, heq]⟩
          rw [decide_eq_true heq]
          rintro e w6 ⟨rfl, rfl⟩
          have L6 := hid L5.out.pgr
          have HBF := hid L5.out.be
          clear L5 R5 RB HSS heq
          go_wp2
          refine bodyPost_ret (results_pg2 (x := .slice ka kn kc) (y := .slice va vn vc) (z := .slice ia jn ic) rfl _ _ _ rfl rfl (by go_simp) (by go_simp) (by go_simp)) rfl ?_
          refine ⟨((HBF.out.setCell (p := ⟨w.heap.size, 0, none⟩) (Nat.le_refl _) _).setCell (p := ⟨w.heap.size, 1, none⟩) (Nat.le_refl _) _).setCell (p := ⟨w.heap.size, 2, none⟩) (Nat.le_refl _) _, .inr ⟨p, _, _, _, _, _, _, _, _, _, HPR.out, rfl, ?_⟩⟩
          have hon : Only (fun y => y = w.heap.size) w5 (((w5.setCell ⟨w.heap.size, 0, none⟩ (.slice ka kn kc)).setCell ⟨w.heap.size, 1, none⟩ (.slice va vn vc)).setCell ⟨w.heap.size, 2, none⟩ (.slice ia jn ic)) := (only_set (R := fun y => y = w.heap.size) rfl _).trans ((only_set (R := fun y => y = w.heap.size) rfl _).trans (only_set (R := fun y => y = w.heap.size) rfl _))
          have h7 := L6.out.to hon (fun y hy _ e => by omega)
          exact ⟨Rw.mono h7.hk (fun y hy _ => by omega), Rw.mono h7.hv (fun y hy _ => by omega), Rw.mono h7.hi (fun y hy _ => by omega)⟩
         ·have HPR : Hid (prd zs = none) := by
           show prd zs = none
           rw [prd, if_neg]
           rintro ⟨_, _, h⟩
           rw [← HCD.out, HSS.out] at h
           cases h
           exact heq rfl
          rw [decide_eq_false heq]
          rintro e w6 ⟨rfl, rfl⟩
          have HBF := hid L5.out.be
          clear L5 R5 RB HSS heq
          go_wp2
          refine bodyPost_ret (results_pg2 (x := .slice none 0 0) (y := .slice none 0 0) (z := .slice none 0 0) rfl _ _ _ rfl rfl (by go_simp) (by go_simp) (by go_simp)) rfl ?_
          exact ⟨((HBF.out.setCell (p := ⟨w.heap.size, 0, none⟩) (Nat.le_refl _) _).setCell (p := ⟨w.heap.size, 1, none⟩) (Nat.le_refl _) _).setCell (p := ⟨w.heap.size, 2, none⟩) (Nat.le_refl _) _, .inl ⟨HPR.out, rfl⟩⟩
      ·have HPC : Hid (p = cd zs) := by
        have := HCD.out
        rw [cdGo_stop _ _ _ _ _ _ _ (by omega)] at this
        exact this
       have L := L4
       clear HCD L4
       have HCD := HPC
       clear HPC
       have lf := hid L.out.pgr
       obtain ⟨d0, d1, d2⟩ := L.out.cells
       go_wp2_with fail
       refine (specPageBytes_any _ ka kn kc va vn vc ia jn ic p _ lf.out).mono ?_
       intro e w5 hput
       obtain ⟨hb5, ⟨hnn, rfl⟩ | ⟨v5, bs, hss, rfl, hO5⟩⟩ := hput
       ·have HPR : Hid (prd zs = none) := by
         show prd zs = none
         rw [prd, if_neg]
         rintro ⟨_, _, h⟩
         rw [← HCD.out, hnn] at h
         cases h
        have L5 := hid (L.out.below hb5)
        have r0 := L5.out.rb.cell (j := 0) rfl
        have r1 := L5.out.rb.cell (j := 1) rfl
        have r2 := L5.out.rb.cell (j := 2) rfl
        have f0 := L5.out.rb.free 0
        have f1 := L5.out.rb.free 1
        have f2 := L5.out.rb.free 2
        have HBF := hid L5.out.be
        clear hb5 hnn L lf d0 d1 d2 L5
        go_wp2
        refine bodyPost_ret (results_pg2 (x := .slice none 0 0) (y := .slice none 0 0) (z := .slice none 0 0) rfl _ _ _ rfl rfl (by go_simp) (by go_simp) (by go_simp)) rfl ?_
        exact ⟨((HBF.out.setCell (p := ⟨w.heap.size, 0, none⟩) (Nat.le_refl _) _).setCell (p := ⟨w.heap.size, 1, none⟩) (Nat.le_refl _) _).setCell (p := ⟨w.heap.size, 2, none⟩) (Nat.le_refl _) _, .inl ⟨HPR.out, rfl⟩⟩
       ·have hbs := pgBytes_some hss
        obtain ⟨a5, n5, c5, rfl, R5, hn5⟩ := hO5.rdS hbs.1 (by rw [hbs.2]; omega)
        have L5 := hid (L.out.below hb5)
        have RB := hid (HR.out.kept L5.out.be)
        have HSS := hid hss
        clear hb5 hO5 hbs hss L lf d0 d1 d2
        obtain ⟨d0, d1, d2⟩ := L5.out.cells
        have r0 := L5.out.rb.cell (j := 0) rfl
        have r1 := L5.out.rb.cell (j := 1) rfl
        have r2 := L5.out.rb.cell (j := 2) rfl
        have f0 := L5.out.rb.free 0
        have f1 := L5.out.rb.free 1
        have f2 := L5.out.rb.free 2
        go_wp2_with fail
        refine (same_any a5 _ n5 _ c5 _ bs zs _ R5.out RB.out).mono ?_
        by_cases heq : bs = zs
        ·have HPR : Hid (prd zs = some p) := by
          show prd zs = some p
          rw [prd, if_pos, HCD.out]
          exact ⟨HZL.out, HZ0.out, by rw [← HCD.out, HSS.out, heq]⟩
         rw [decide_eq_true heq]
         rintro e w6 ⟨rfl, rfl⟩
         have L6 := hid L5.out.pgr
         have HBF := hid L5.out.be
         clear L5 R5 RB HSS heq
         go_wp2
         refine bodyPost_ret (results_pg2 (x := .slice ka kn kc) (y := .slice va vn vc) (z := .slice ia jn ic) rfl _ _ _ rfl rfl (by go_simp) (by go_simp) (by go_simp)) rfl ?_
         refine ⟨((HBF.out.setCell (p := ⟨w.heap.size, 0, none⟩) (Nat.le_refl _) _).setCell (p := ⟨w.heap.size, 1, none⟩) (Nat.le_refl _) _).setCell (p := ⟨w.heap.size, 2, none⟩) (Nat.le_refl _) _, .inr ⟨p, _, _, _, _, _, _, _, _, _, HPR.out, rfl, ?_⟩⟩
         have hon : Only (fun y => y = w.heap.size) w5 (((w5.setCell ⟨w.heap.size, 0, none⟩ (.slice ka kn kc)).setCell ⟨w.heap.size, 1, none⟩ (.slice va vn vc)).setCell ⟨w.heap.size, 2, none⟩ (.slice ia jn ic)) := (only_set (R := fun y => y = w.heap.size) rfl _).trans ((only_set (R := fun y => y = w.heap.size) rfl _).trans (only_set (R := fun y => y = w.heap.size) rfl _))
         have h7 := L6.out.to hon (fun y hy _ e => by omega)
         exact ⟨Rw.mono h7.hk (fun y hy _ => by omega), Rw.mono h7.hv (fun y hy _ => by omega), Rw.mono h7.hi (fun y hy _ => by omega)⟩
        ·have HPR : Hid (prd zs = none) := by
          show prd zs = none
          rw [prd, if_neg]
          rintro ⟨_, _, h⟩
          rw [← HCD.out, HSS.out] at h
          cases h
          exact heq rfl
         rw [decide_eq_false heq]
         rintro e w6 ⟨rfl, rfl⟩
         have HBF := hid L5.out.be
         clear L5 R5 RB HSS heq
         go_wp2
         refine bodyPost_ret (results_pg2 (x := .slice none 0 0) (y := .slice none 0 0) (z := .slice none 0 0) rfl _ _ _ rfl rfl (by go_simp) (by go_simp) (by go_simp)) rfl ?_
         exact ⟨((HBF.out.setCell (p := ⟨w.heap.size, 0, none⟩) (Nat.le_refl _) _).setCell (p := ⟨w.heap.size, 1, none⟩) (Nat.le_refl _) _).setCell (p := ⟨w.heap.size, 2, none⟩) (Nat.le_refl _) _, .inl ⟨HPR.out, rfl⟩⟩
    ·rw [if_neg hat0] at HCDEF
     have LS := L1
     clear L1
     go_wp2_with fail
     clear b1
     go_loopw [6, 9] (fun xa xi wr => ∃ (j : Nat) (at' : Int) (ka : Option Addr) (kn kc : Nat) (va : Option Addr) (vn vc : Nat) (ia : Option Addr) (jn ic : Nat) (p : PG), xa = .int .i64 at' ∧ xi = .int .i64 j ∧ j ≤ 5 ∧ (-1 ≤ at' ∧ at' ≤ 512) ∧ Hid (p.keys.length ≤ j ∧ p.vals.length ≤ j ∧ p.kids.length ≤ j + 1) ∧ Hid (Pr1 w wr (.slice ka kn kc) (.slice va vn vc) (.slice ia jn ic) p) ∧ Hid (cdGo zs true n0 (6 - j) j p at' = cd zs)) (fun _ xi _ => 6 - (intOf xi).toNat)
     case atStart => exact ⟨0, at0, none, 0, 0, none, 0, 0, none, 0, 0, ⟨[], [], []⟩, rfl, rfl, by omega, by omega, ⟨by simp, by simp, by simp⟩, LS.out, HCDEF.out.symm⟩
     case round =>
      obtain ⟨j, at', ka, kn, kc, va, vn, vc, ia, jn, ic, p, rfl, rfl, hj, hat, HPL, L4, HCD⟩ := hrel
      clear LS
      by_cases q1 : (j : Int) < n0
      ·by_cases q2 : (j : Int) ≤ 4
       ·by_cases q3 : 0 ≤ at'
        ·have L4B := L4
         have RD4 := hid (HR.out.kept L4.out.be)
         have b4 := HC0.out _ L4.out.be
         go_wp2_with fail
         refine (specGetText_any _ _ _ zs at' _ RD4.out (by omega)).mono ?_
         rintro e w5 ⟨rfl, hb5⟩
         have L5 := hid ((L4.out.below hb5).below (below_new (o := .cells #[.string (strOf (gt zs at').1)] 9) (Below.refl _ _)))
         have LL5 := hid (L4.out.below hb5)
         have Q5 := hid (Bk.new w5 9 [.string (strOf (gt zs at').1)])
         clear hb5 L4 RD4 b4
         obtain ⟨d0, d1, d2⟩ := LL5.out.cells
         have hgt := gt_range zs HBY.out at'
         rw [HZL.out] at hgt
         generalize hkk : strOf (gt zs at').1 = kk at *
         have HKK := hid hkk
         clear hkk
         have hkn2 : kn = p.keys.length := (Rw.len L4B.out.pgr.hk).1
         have hq1 : kn ≤ 1048576 := by have := HPL.out; omega
         have HOK := hid L5.out.hk
         rw [← hkn2] at HOK
         have HKN := hid hkn2
         clear hkn2
         go_wp2_with (at_builtin; refine wpList_append_st1 rfl _ _ rfl _ kn _ rfl HOK.out w5.heap.size kk rfl Q5.out hq1 ?_)
         intro a6 n6 c6 w6 hO6 hg6 ha6
         rw [HKN.out] at hO6
         obtain ⟨hL6, hB6⟩ := L5.out.addK hO6 hg6 (ha6.imp id (fun e => ⟨_, e, by simp⟩))
         have L6 := hid hL6
         have b6 := hB6.cell (j := 0) rfl
         have g6 := hB6.free 0
         have RD6 := hid (HR.out.kept L6.out.be)
         have b7 := HC0.out _ L6.out.be
         clear hO6 hg6 ha6 hL6 hB6 L5 Q5 LL5 HOK HKN d0 d1 d2
         go_wp2_with fail
         refine (specGetVar_any _ _ _ zs (gt zs at').2 _ RD6.out (by omega)).mono ?_
         rintro e w7 ⟨rfl, hb7⟩
         have L7 := hid ((L6.out.below hb7).below (below_new (o := .cells #[.int .i64 (gv zs (gt zs at').2).1] 3) (Below.refl _ _)))
         have Q7 := hid (Bk.new w7 3 [.int .i64 (gv zs (gt zs at').2).1])
         have LL7 := hid (L6.out.below hb7)
         clear hb7 L6 RD6
         obtain ⟨d0, d1, d2⟩ := LL7.out.cells
         have hgv := gv_rng zs HBY.out (gt zs at').2
         rw [HZL.out] at hgv
         generalize hgk : (gv zs (gt zs at').2).1 = kid at *
         generalize hga : (gv zs (gt zs at').2).2 = at3 at *
         have hjn2 : jn = p.kids.length := (Rw.len L4B.out.pgr.hi).1
         have hq2 : jn ≤ 1048576 := by have := HPL.out; omega
         have HOW := hid L7.out.hi
         rw [← hjn2] at HOW
         have HJN := hid hjn2
         clear hjn2
         go_wp2_with (at_builtin; refine wpList_append_in1 rfl _ _ rfl _ jn _ rfl HOW.out w7.heap.size kid rfl Q7.out hq2 ?_)
         intro a8 n8 c8 w8 hO8 hg8 ha8
         rw [HJN.out] at hO8
         obtain ⟨hL8, hB8⟩ := L7.out.addI hO8 hg8 (ha8.imp id (fun e => ⟨_, e, by simp⟩))
         have L8 := hid hL8
         have b8 := hB8.cell (j := 2) rfl
         have g8 := hB8.free 2
         have HCX : Hid (cdGo zs true n0 (6 - (j + 1)) (j + 1) ⟨p.keys ++ [kk], p.vals, p.kids ++ [kid]⟩ at3 = cd zs) := by
          have := HCD.out
          rw [show 6 - j = (6 - (j + 1)) + 1 by omega, cdGo_on _ _ _ _ _ _ _ ⟨q1, by omega, q3⟩] at this
          show _ = cd zs
          simpa [cdStep, HKK.out, hgk, hga] using this
         clear hO8 hg8 ha8 hL8 hB8 L7 Q7 LL7 HOW hgk hga HJN
         go_wp2
         go_roundw
         case rel => exact ⟨j + 1, at3, _, _, _, _, _, _, _, _, _, _, rfl, by go_num, by omega, by omega, by have := HPL.out; exact ⟨by simp; omega, by simp; omega, by simp; omega⟩, L8.out, HCX.out⟩
         case measure => simp [intOf]; omega
        ·have HPC : Hid (p = cd zs) := by
          have := HCD.out
          rw [cdGo_stop _ _ _ _ _ _ _ (by omega)] at this
          exact this
         have L := L4
         clear HCD L4
         have HCD := HPC
         clear HPC
         have lf := hid L.out.pgr
         obtain ⟨d0, d1, d2⟩ := L.out.cells
         go_wp2_with fail
         refine (specPageBytes_any _ ka kn kc va vn vc ia jn ic p _ lf.out).mono ?_
         intro e w5 hput
         obtain ⟨hb5, ⟨hnn, rfl⟩ | ⟨v5, bs, hss, rfl, hO5⟩⟩ := hput
         ·have HPR : Hid (prd zs = none) := by
           show prd zs = none
           rw [prd, if_neg]
           rintro ⟨_, _, h⟩
           rw [← HCD.out, hnn] at h
           cases h
          have L5 := hid (L.out.below hb5)
          have r0 := L5.out.rb.cell (j := 0) rfl
          have r1 := L5.out.rb.cell (j := 1) rfl
          have r2 := L5.out.rb.cell (j := 2) rfl
          have f0 := L5.out.rb.free 0
          have f1 := L5.out.rb.free 1
          have f2 := L5.out.rb.free 2
          have HBF := hid L5.out.be
          clear hb5 hnn L lf d0 d1 d2 L5
          go_wp2
          refine bodyPost_ret (results_pg2 (x := .slice none 0 0) (y := .slice none 0 0) (z := .slice none 0 0) rfl _ _ _ rfl rfl (by go_simp) (by go_simp) (by go_simp)) rfl ?_
          exact ⟨((HBF.out.setCell (p := ⟨w.heap.size, 0, none⟩) (Nat.le_refl _) _).setCell (p := ⟨w.heap.size, 1, none⟩) (Nat.le_refl _) _).setCell (p := ⟨w.heap.size, 2, none⟩) (Nat.le_refl _) _, .inl ⟨HPR.out, rfl⟩⟩
         ·have hbs := pgBytes_some hss
          obtain ⟨a5, n5, c5, rfl, R5, hn5⟩ := hO5.rdS hbs.1 (by rw [hbs.2]; omega)
          have L5 := hid (L.out.below hb5)
          have RB := hid (HR.out.kept L5.out.be)
          have HSS := hid hss
          clear hb5 hO5 hbs hss L lf d0 d1 d2
          obtain ⟨d0, d1, d2⟩ := L5.out.cells
          have r0 := L5.out.rb.cell (j := 0) rfl
          have r1 := L5.out.rb.cell (j := 1) rfl
          have r2 := L5.out.rb.cell (j := 2) rfl
          have f0 := L5.out.rb.free 0
          have f1 := L5.out.rb.free 1
          have f2 := L5.out.rb.free 2
          go_wp2_with fail
          refine (same_any a5 _ n5 _ c5 _ bs zs _ R5.out RB.out).mono ?_
          by_cases heq : bs = zs
          ·have HPR : Hid (prd zs = some p) := by
            show prd zs = some p
            rw [prd, if_pos, HCD.out]
            exact ⟨HZL.out, HZ0.out, by rw [← HCD.out, HSS.out, heq]⟩
           rw [decide_eq_true heq]
           rintro e w6 ⟨rfl, rfl⟩
           have L6 := hid L5.out.pgr
           have HBF := hid L5.out.be
           clear L5 R5 RB HSS heq
           go_wp2
           refine bodyPost_ret (results_pg2 (x := .slice ka kn kc) (y := .slice va vn vc) (z := .slice ia jn ic) rfl _ _ _ rfl rfl (by go_simp) (by go_simp) (by go_simp)) rfl ?_
           refine ⟨((HBF.out.setCell (p := ⟨w.heap.size, 0, none⟩) (Nat.le_refl _) _).setCell (p := ⟨w.heap.size, 1, none⟩) (Nat.le_refl _) _).setCell (p := ⟨w.heap.size, 2, none⟩) (Nat.le_refl _) _, .inr ⟨p, _, _, _, _, _, _, _, _, _, HPR.out, rfl, ?_⟩⟩
           have hon : Only (fun y => y = w.heap.size) w5 (((w5.setCell ⟨w.heap.size, 0, none⟩ (.slice ka kn kc)).setCell ⟨w.heap.size, 1, none⟩ (.slice va vn vc)).setCell ⟨w.heap.size, 2, none⟩ (.slice ia jn ic)) := (only_set (R := fun y => y = w.heap.size) rfl _).trans ((only_set (R := fun y => y = w.heap.size) rfl _).trans (only_set (R := fun y => y = w.heap.size) rfl _))
           have h7 := L6.out.to hon (fun y hy _ e => by omega)
           exact ⟨Rw.mono h7.hk (fun y hy _ => by omega), Rw.mono h7.hv (fun y hy _ => by omega), Rw.mono h7.hi (fun y hy _ => by omega)⟩
          ·have HPR : Hid (prd zs = none) := by
            show prd zs = none
            rw [prd, if_neg]
            rintro ⟨_, _, h⟩
            rw [← HCD.out, HSS.out] at h
            cases h
            exact heq rfl
           rw [decide_eq_false heq]
           rintro e w6 ⟨rfl, rfl⟩
           have HBF := hid L5.out.be
           clear L5 R5 RB HSS heq
           go_wp2
           refine bodyPost_ret (results_pg2 (x := .slice none 0 0) (y := .slice none 0 0) (z := .slice none 0 0) rfl _ _ _ rfl rfl (by go_simp) (by go_simp) (by go_simp)) rfl ?_
           exact ⟨((HBF.out.setCell (p := ⟨w.heap.size, 0, none⟩) (Nat.le_refl _) _).setCell (p := ⟨w.heap.size, 1, none⟩) (Nat.le_refl _) _).setCell (p := ⟨w.heap.size, 2, none⟩) (Nat.le_refl _) _, .inl ⟨HPR.out, rfl⟩⟩
       ·have HPC : Hid (p = cd zs) := by
         have := HCD.out
         rw [cdGo_stop _ _ _ _ _ _ _ (by omega)] at this
         exact this
        have L := L4
        clear HCD L4
        have HCD := HPC
        clear HPC
        have lf := hid L.out.pgr
        obtain ⟨d0, d1, d2⟩ := L.out.cells
        go_wp2_with fail
        refine (specPageBytes_any _ ka kn kc va vn vc ia jn ic p _ lf.out).mono ?_
        intro e w5 hput
        obtain ⟨hb5, ⟨hnn, rfl⟩ | ⟨v5, bs, hss, rfl, hO5⟩⟩ := hput
        ·have HPR : Hid (prd zs = none) := by
          show prd zs = none
          rw [prd, if_neg]
          rintro ⟨_, _, h⟩
          rw [← HCD.out, hnn] at h
          cases h
         have L5 := hid (L.out.below hb5)
         have r0 := L5.out.rb.cell (j := 0) rfl
         have r1 := L5.out.rb.cell (j := 1) rfl
         have r2 := L5.out.rb.cell (j := 2) rfl
         have f0 := L5.out.rb.free 0
         have f1 := L5.out.rb.free 1
         have f2 := L5.out.rb.free 2
         have HBF := hid L5.out.be
         clear hb5 hnn L lf d0 d1 d2 L5
         go_wp2
         refine bodyPost_ret (results_pg2 (x := .slice none 0 0) (y := .slice none 0 0) (z := .slice none 0 0) rfl _ _ _ rfl rfl (by go_simp) (by go_simp) (by go_simp)) rfl ?_
         exact ⟨((HBF.out.setCell (p := ⟨w.heap.size, 0, none⟩) (Nat.le_refl _) _).setCell (p := ⟨w.heap.size, 1, none⟩) (Nat.le_refl _) _).setCell (p := ⟨w.heap.size, 2, none⟩) (Nat.le_refl _) _, .inl ⟨HPR.out, rfl⟩⟩
        ·have hbs := pgBytes_some hss
         obtain ⟨a5, n5, c5, rfl, R5, hn5⟩ := hO5.rdS hbs.1 (by rw [hbs.2]; omega)
         have L5 := hid (L.out.below hb5)
         have RB := hid (HR.out.kept L5.out.be)
         have HSS := hid hss
         clear hb5 hO5 hbs hss L lf d0 d1 d2
         obtain ⟨d0, d1, d2⟩ := L5.out.cells
         have r0 := L5.out.rb.cell (j := 0) rfl
         have r1 := L5.out.rb.cell (j := 1) rfl
         have r2 := L5.out.rb.cell (j := 2) rfl
         have f0 := L5.out.rb.free 0
         have f1 := L5.out.rb.free 1
         have f2 := L5.out.rb.free 2
         go_wp2_with fail
         refine (same_any a5 _ n5 _ c5 _ bs zs _ R5.out RB.out).mono ?_
         by_cases heq : bs = zs
         ·have HPR : Hid (prd zs = some p) := by
           show prd zs = some p
           rw [prd, if_pos, HCD.out]
           exact ⟨HZL.out, HZ0.out, by rw [← HCD.out, HSS.out, heq]⟩
          rw [decide_eq_true heq]
          rintro e w6 ⟨rfl, rfl⟩
          have L6 := hid L5.out.pgr
          have HBF := hid L5.out.be
          clear L5 R5 RB HSS heq
          go_wp2
          refine bodyPost_ret (results_pg2 (x := .slice ka kn kc) (y := .slice va vn vc) (z := .slice ia jn ic) rfl _ _ _ rfl rfl (by go_simp) (by go_simp) (by go_simp)) rfl ?_
          refine ⟨((HBF.out.setCell (p := ⟨w.heap.size, 0, none⟩) (Nat.le_refl _) _).setCell (p := ⟨w.heap.size, 1, none⟩) (Nat.le_refl _) _).setCell (p := ⟨w.heap.size, 2, none⟩) (Nat.le_refl _) _, .inr ⟨p, _, _, _, _, _, _, _, _, _, HPR.out, rfl, ?_⟩⟩
          have hon : Only (fun y => y = w.heap.size) w5 (((w5.setCell ⟨w.heap.size, 0, none⟩ (.slice ka kn kc)).setCell ⟨w.heap.size, 1, none⟩ (.slice va vn vc)).setCell ⟨w.heap.size, 2, none⟩ (.slice ia jn ic)) := (only_set (R := fun y => y = w.heap.size) rfl _).trans ((only_set (R := fun y => y = w.heap.size) rfl _).trans (only_set (R := fun y => y = w.heap.size) rfl _))
          have h7 := L6.out.to hon (fun y hy _ e => by omega)
          exact ⟨Rw.mono h7.hk (fun y hy _ => by omega), Rw.mono h7.hv (fun y hy _ => by omega), Rw.mono h7.hi (fun y hy _ => by omega)⟩
         ·have HPR : Hid (prd zs = none) := by
           show prd zs = none
           rw [prd, if_neg]
           rintro ⟨_, _, h⟩
           rw [← HCD.out, HSS.out] at h
           cases h
           exact heq rfl
          rw [decide_eq_false heq]
          rintro e w6 ⟨rfl, rfl⟩
          have HBF := hid L5.out.be
          clear L5 R5 RB HSS heq
          go_wp2
          refine bodyPost_ret (results_pg2 (x := .slice none 0 0) (y := .slice none 0 0) (z := .slice none 0 0) rfl _ _ _ rfl rfl (by go_simp) (by go_simp) (by go_simp)) rfl ?_
          exact ⟨((HBF.out.setCell (p := ⟨w.heap.size, 0, none⟩) (Nat.le_refl _) _).setCell (p := ⟨w.heap.size, 1, none⟩) (Nat.le_refl _) _).setCell (p := ⟨w.heap.size, 2, none⟩) (Nat.le_refl _) _, .inl ⟨HPR.out, rfl⟩⟩
      ·have HPC : Hid (p = cd zs) := by
        have := HCD.out
        rw [cdGo_stop _ _ _ _ _ _ _ (by omega)] at this
        exact this
       have L := L4
       clear HCD L4
       have HCD := HPC
       clear HPC
       have lf := hid L.out.pgr
       obtain ⟨d0, d1, d2⟩ := L.out.cells
       go_wp2_with fail
       refine (specPageBytes_any _ ka kn kc va vn vc ia jn ic p _ lf.out).mono ?_
       intro e w5 hput
       obtain ⟨hb5, ⟨hnn, rfl⟩ | ⟨v5, bs, hss, rfl, hO5⟩⟩ := hput
       ·have HPR : Hid (prd zs = none) := by
         show prd zs = none
         rw [prd, if_neg]
         rintro ⟨_, _, h⟩
         rw [← HCD.out, hnn] at h
         cases h
        have L5 := hid (L.out.below hb5)
        have r0 := L5.out.rb.cell (j := 0) rfl
        have r1 := L5.out.rb.cell (j := 1) rfl
        have r2 := L5.out.rb.cell (j := 2) rfl
        have f0 := L5.out.rb.free 0
        have f1 := L5.out.rb.free 1
        have f2 := L5.out.rb.free 2
        have HBF := hid L5.out.be
        clear hb5 hnn L lf d0 d1 d2 L5
        go_wp2
        refine bodyPost_ret (results_pg2 (x := .slice none 0 0) (y := .slice none 0 0) (z := .slice none 0 0) rfl _ _ _ rfl rfl (by go_simp) (by go_simp) (by go_simp)) rfl ?_
        exact ⟨((HBF.out.setCell (p := ⟨w.heap.size, 0, none⟩) (Nat.le_refl _) _).setCell (p := ⟨w.heap.size, 1, none⟩) (Nat.le_refl _) _).setCell (p := ⟨w.heap.size, 2, none⟩) (Nat.le_refl _) _, .inl ⟨HPR.out, rfl⟩⟩
       ·have hbs := pgBytes_some hss
        obtain ⟨a5, n5, c5, rfl, R5, hn5⟩ := hO5.rdS hbs.1 (by rw [hbs.2]; omega)
        have L5 := hid (L.out.below hb5)
        have RB := hid (HR.out.kept L5.out.be)
        have HSS := hid hss
        clear hb5 hO5 hbs hss L lf d0 d1 d2
        obtain ⟨d0, d1, d2⟩ := L5.out.cells
        have r0 := L5.out.rb.cell (j := 0) rfl
        have r1 := L5.out.rb.cell (j := 1) rfl
        have r2 := L5.out.rb.cell (j := 2) rfl
        have f0 := L5.out.rb.free 0
        have f1 := L5.out.rb.free 1
        have f2 := L5.out.rb.free 2
        go_wp2_with fail
        refine (same_any a5 _ n5 _ c5 _ bs zs _ R5.out RB.out).mono ?_
        by_cases heq : bs = zs
        ·have HPR : Hid (prd zs = some p) := by
          show prd zs = some p
          rw [prd, if_pos, HCD.out]
          exact ⟨HZL.out, HZ0.out, by rw [← HCD.out, HSS.out, heq]⟩
         rw [decide_eq_true heq]
         rintro e w6 ⟨rfl, rfl⟩
         have L6 := hid L5.out.pgr
         have HBF := hid L5.out.be
         clear L5 R5 RB HSS heq
         go_wp2
         refine bodyPost_ret (results_pg2 (x := .slice ka kn kc) (y := .slice va vn vc) (z := .slice ia jn ic) rfl _ _ _ rfl rfl (by go_simp) (by go_simp) (by go_simp)) rfl ?_
         refine ⟨((HBF.out.setCell (p := ⟨w.heap.size, 0, none⟩) (Nat.le_refl _) _).setCell (p := ⟨w.heap.size, 1, none⟩) (Nat.le_refl _) _).setCell (p := ⟨w.heap.size, 2, none⟩) (Nat.le_refl _) _, .inr ⟨p, _, _, _, _, _, _, _, _, _, HPR.out, rfl, ?_⟩⟩
         have hon : Only (fun y => y = w.heap.size) w5 (((w5.setCell ⟨w.heap.size, 0, none⟩ (.slice ka kn kc)).setCell ⟨w.heap.size, 1, none⟩ (.slice va vn vc)).setCell ⟨w.heap.size, 2, none⟩ (.slice ia jn ic)) := (only_set (R := fun y => y = w.heap.size) rfl _).trans ((only_set (R := fun y => y = w.heap.size) rfl _).trans (only_set (R := fun y => y = w.heap.size) rfl _))
         have h7 := L6.out.to hon (fun y hy _ e => by omega)
         exact ⟨Rw.mono h7.hk (fun y hy _ => by omega), Rw.mono h7.hv (fun y hy _ => by omega), Rw.mono h7.hi (fun y hy _ => by omega)⟩
        ·have HPR : Hid (prd zs = none) := by
          show prd zs = none
          rw [prd, if_neg]
          rintro ⟨_, _, h⟩
          rw [← HCD.out, HSS.out] at h
          cases h
          exact heq rfl
         rw [decide_eq_false heq]
         rintro e w6 ⟨rfl, rfl⟩
         have HBF := hid L5.out.be
         clear L5 R5 RB HSS heq
         go_wp2
         refine bodyPost_ret (results_pg2 (x := .slice none 0 0) (y := .slice none 0 0) (z := .slice none 0 0) rfl _ _ _ rfl rfl (by go_simp) (by go_simp) (by go_simp)) rfl ?_
         exact ⟨((HBF.out.setCell (p := ⟨w.heap.size, 0, none⟩) (Nat.le_refl _) _).setCell (p := ⟨w.heap.size, 1, none⟩) (Nat.le_refl _) _).setCell (p := ⟨w.heap.size, 2, none⟩) (Nat.le_refl _) _, .inl ⟨HPR.out, rfl⟩⟩
   ·have HPR := hid (HPRN.out (by rintro (h | h); exact z76 h; exact z66 h))
    have n76 : (zAt zs 0 != 76) = true := by simp [z76]
    have n66 : (zAt zs 0 != 66) = true := by simp [z66]
    have HBF := hid LS.out.be
    generalize zAt zs 0 = q at *
    clear HPRN HCDEF HZC HC0 LS
    go_enter Tryz.func63, Tryz.ntmps63
    go_wp2
    refine bodyPost_ret (results_pg2 (x := .slice none 0 0) (y := .slice none 0 0) (z := .slice none 0 0) rfl _ _ _ rfl rfl (by go_simp) (by go_simp) (by go_simp)) rfl ?_
    exact ⟨HBF.out, .inl ⟨HPR.out, rfl⟩⟩
 ·have h512' : ((n : Int) != 512) = true := by simp; omega
  have HPR : Hid (prd zs = none) := by
   show prd zs = none
   rw [prd, if_neg]
   rintro ⟨h, _⟩
   omega
  have HBF := hid LS.out.be
  clear HBY HR LS h hzl
  go_enter Tryz.func63, Tryz.ntmps63
  go_wp2
  refine bodyPost_ret (results_pg2 (x := .slice none 0 0) (y := .slice none 0 0) (z := .slice none 0 0) rfl _ _ _ rfl rfl (by go_simp) (by go_simp) (by go_simp)) rfl ?_
  exact ⟨HBF.out, .inl ⟨HPR.out, rfl⟩⟩
theorem encF_down (f : Nat) : ∀ n : Int, n < bnd f → encF (f + 1) n = encF f n := by
 induction f with
 | zero => intro n h; rw [encF_small _ n (by simpa [bnd] using h), encF_small _ n (by simpa [bnd] using h)]
 | succ f ih =>
  intro n h
  by_cases hn : 128 ≤ n
  ·rw [encF_big _ n hn, encF_big _ n hn, ih (n / 128) (bnd_down f n h)]
  ·rw [encF_small _ n (by omega), encF_small _ n (by omega)]
theorem at_here (pre : List Int) (z : Int) (r : List Int) : (pre ++ z :: r)[pre.length]?.getD 0 = z := by simp
theorem not_bad {r q u : Int} (hs : r + q * u ≤ 1099511627775) (hz : q = 0 → ¬ 1 < u) : ¬ (1099511627775 < r + q * u ∨ (q = 0 ∧ 1 < u)) := by
 rintro (h | ⟨h, h'⟩)
 ·omega
 ·exact hz h h'
theorem gvGo_enc (f' : Nat) : ∀ (f : Nat) (pre rest : List Int) (q r u : Int), 0 ≤ q → q < bnd f' → f' < f → r + q * u ≤ 1099511627775 → (q = 0 → ¬ 1 < u) →
  gvGo f (pre ++ encF f' q ++ rest) pre.length r u = (r + q * u, ((pre.length + (encF f' q).length : Nat) : Int)) := by
 induction f' with
 | zero =>
  intro f pre rest q r u h0 hq hf hs hz
  obtain ⟨g, rfl⟩ : ∃ g, f = g + 1 := ⟨f - 1, by omega⟩
  have e : pre ++ encF 0 q ++ rest = pre ++ q :: rest := by simp [encF]
  have hq' : q < 128 := hq
  rw [e, gvGo_good g _ pre.length r u (by simp) (by rw [at_here]; exact hq') (by rw [at_here]; exact not_bad hs hz), at_here]
  simp [encF]
 | succ f' ih =>
  intro f pre rest q r u h0 hq hf hs hz
  obtain ⟨g, rfl⟩ : ∃ g, f = g + 1 := ⟨f - 1, by omega⟩
  by_cases hb : 128 ≤ q
  ·rw [encF_big f' q hb]
   have e : pre ++ (128 + q % 128) :: encF f' (q / 128) ++ rest = pre ++ (128 + q % 128) :: (encF f' (q / 128) ++ rest) := by simp
   have e2 : pre ++ (128 + q % 128) :: encF f' (q / 128) ++ rest = (pre ++ [128 + q % 128]) ++ encF f' (q / 128) ++ rest := by simp
   have hm : q * u = q % 128 * u + q / 128 * (u * 128) := by
    have : q = q % 128 + 128 * (q / 128) := by omega
    rw [Int.mul_comm u 128, ← Int.mul_assoc, ← Int.add_mul]
    congr 1
    omega
   have hk : pre.length < (pre ++ (128 + q % 128) :: (encF f' (q / 128) ++ rest)).length := by simp
   rw [e, gvGo_more g _ pre.length r u hk (by rw [at_here]; omega), at_here, ← e, e2]
   have hl : pre.length + 1 = (pre ++ [128 + q % 128]).length := by simp
   rw [hl, ih g (pre ++ [128 + q % 128]) rest (q / 128) (r + (128 + q % 128 - 128) * u) (u * 128) (by omega) (bnd_down f' q hq) (by omega) (by
    rw [show 128 + q % 128 - 128 = q % 128 from by omega]; omega) (by intro h; omega)]
   rw [show 128 + q % 128 - 128 = q % 128 from by omega]
   simp only [Prod.mk.injEq]
   constructor
   ·omega
   ·simp; omega
  ·have e : pre ++ encF (f' + 1) q ++ rest = pre ++ q :: rest := by rw [encF_small _ q (by omega)]; simp
   rw [e, gvGo_good g _ pre.length r u (by simp) (by rw [at_here]; omega) (by rw [at_here]; exact not_bad hs hz), at_here, encF_small _ q (by omega)]
   simp
theorem gv_enc (pre rest : List Int) (n : Int) (h0 : 0 ≤ n) (h1 : n ≤ 1099511627775) : gv (pre ++ enc n ++ rest) (pre.length : Int) = (n, ((pre.length + (enc n).length : Nat) : Int)) := by
 have e : enc n = encF 5 n := encF_down 5 n (by simp [bnd]; omega)
 rw [gv_nat, e, gvGo_enc 5 6 pre rest n 0 1 h0 (by simp [bnd]; omega) (by omega) (by omega) (by omega)]
 simp
open Go.RowKit
theorem gt_rest (pre zs rest : List Int) (h : zs.length ≤ 1048576) : gt (pre ++ enc (zs.length : Int) ++ zs ++ rest) (pre.length : Int) = (zs, ((pre ++ enc (zs.length : Int) ++ zs).length : Int)) := by
 have hg := gv_enc pre (zs ++ rest) (zs.length : Int) (by omega) (by omega)
 have e : pre ++ enc (zs.length : Int) ++ zs ++ rest = pre ++ enc (zs.length : Int) ++ (zs ++ rest) := by simp
 have hlen : (pre ++ enc (zs.length : Int) ++ (zs ++ rest)).length = pre.length + (enc (zs.length : Int)).length + (zs.length + rest.length) := by simp only [List.length_append]
 rw [e, gt, hg]
 simp only
 rw [if_neg (by rw [hlen]; omega)]
 have hd : ((pre ++ enc (zs.length : Int) ++ (zs ++ rest)).drop ((pre.length + (enc (zs.length : Int)).length : Nat) : Int).toNat) = zs ++ rest := by
  rw [Int.toNat_natCast, show pre.length + (enc (zs.length : Int)).length = (pre ++ enc (zs.length : Int)).length by simp, List.drop_left]
 rw [hd, Int.toNat_natCast, List.take_left]
 simp only [List.length_append, Prod.mk.injEq, true_and]
 omega
theorem strOf_bytesOf (s : ByteArray) : strOf (bytesOf s) = s := by
 apply ByteArray.ext
 simp only [strOf, bytesOf, List.map_map]
 have : (List.map ((fun z : Int => UInt8.ofNat z.toNat) ∘ fun b : UInt8 => ((b.toNat : Nat) : Int)) s.data.toList) = s.data.toList := by
  conv => rhs; rw [← List.map_id s.data.toList]
  refine List.map_congr_left fun b _ => ?_
  simp
 rw [this]
theorem body_split (p : PG) (j : Nat) : ∀ m, ∃ R, pgBody p (j + m) = pgBody p j ++ R
 | 0 => ⟨[], by simp⟩
 | m + 1 => by
  obtain ⟨R, h⟩ := body_split p j m
  exact ⟨R ++ pgPart p (j + m), by rw [← Nat.add_assoc, pgBody, h, List.append_assoc]⟩
theorem sAt_take {l : List ByteArray} {j : Nat} (h : j < l.length) : l.take j ++ [sAt l j] = l.take (j + 1) := by
 rw [List.take_succ_eq_append_getElem h]; simp [sAt, h]
theorem iAt_take {l : List Int} {j : Nat} (h : j < l.length) : l.take j ++ [iAt l j] = l.take (j + 1) := by
 rw [List.take_succ_eq_append_getElem h]; simp [iAt, h]
theorem PG.ext' {p : PG} {a b : List ByteArray} {c : List Int} (h1 : a = p.keys) (h2 : b = p.vals) (h3 : c = p.kids) : (⟨a, b, c⟩ : PG) = p := by
 cases p; simp at h1 h2 h3; simp [h1, h2, h3]
theorem cd_leaf {p : PG} {zs rest : List Int} (hF : PgF p) (h0 : p.kids.length = 0) (hz : zs = pgRaw p ++ rest) : ∀ m j, j + m = p.keys.length → cdGo zs false (p.keys.length : Int) (6 - j) j ⟨p.keys.take j, p.vals.take j, []⟩ ((pgBody p j).length : Int) = p
 | 0, j, hj => by
  obtain ⟨hv, _⟩ := hF.lf h0
  rw [cdGo_stop _ _ _ _ _ _ _ (by omega)]
  exact PG.ext' (List.take_of_length_le (by omega)) (List.take_of_length_le (by omega)) (List.eq_nil_of_length_eq_zero h0).symm
 | m + 1, j, hj => by
  obtain ⟨hv, hvs⟩ := hF.lf h0
  have hn := hF.nk
  have hk := hF.ks j (by omega)
  have hvj := hvs j (by omega)
  obtain ⟨R, hR⟩ := body_split p (j + 1) m
  have e1 : zs = pgBody p j ++ (enc ((bytesOf (sAt p.keys j)).length : Int) ++ bytesOf (sAt p.keys j) ++ (enc ((bytesOf (sAt p.vals j)).length : Int) ++ bytesOf (sAt p.vals j))) ++ (R ++ rest) := by
   rw [hz, pgRaw, ← hj, show j + (m + 1) = j + 1 + m by omega, hR, pgBody, pgPart, if_pos h0, bytesOf_len, bytesOf_len]
   simp only [List.append_assoc]
  have g1 : gt zs ((pgBody p j).length : Int) = (bytesOf (sAt p.keys j), ((pgBody p j ++ enc ((bytesOf (sAt p.keys j)).length : Int) ++ bytesOf (sAt p.keys j)).length : Int)) := by
   have := gt_rest (pgBody p j) (bytesOf (sAt p.keys j)) (enc ((bytesOf (sAt p.vals j)).length : Int) ++ bytesOf (sAt p.vals j) ++ (R ++ rest)) (by rw [bytesOf_len]; omega)
   rw [← this, e1]
   simp only [List.append_assoc]
  have g2 : gt zs ((pgBody p j ++ enc ((bytesOf (sAt p.keys j)).length : Int) ++ bytesOf (sAt p.keys j)).length : Int) = (bytesOf (sAt p.vals j), ((pgBody p (j + 1)).length : Int)) := by
   have := gt_rest (pgBody p j ++ enc ((bytesOf (sAt p.keys j)).length : Int) ++ bytesOf (sAt p.keys j)) (bytesOf (sAt p.vals j)) (R ++ rest) (by rw [bytesOf_len]; omega)
   have e2 : pgBody p (j + 1) = pgBody p j ++ enc ((bytesOf (sAt p.keys j)).length : Int) ++ bytesOf (sAt p.keys j) ++ enc ((bytesOf (sAt p.vals j)).length : Int) ++ bytesOf (sAt p.vals j) := by
    rw [pgBody, pgPart, if_pos h0, bytesOf_len, bytesOf_len]
    simp only [List.append_assoc]
   rw [e2, ← this, e1]
   simp only [List.append_assoc]
  have st : cdStep zs false ⟨p.keys.take j, p.vals.take j, []⟩ ((pgBody p j).length : Int) = (⟨p.keys.take (j + 1), p.vals.take (j + 1), []⟩, ((pgBody p (j + 1)).length : Int)) := by
   rw [cdStep, if_neg (by simp), g1]
   simp only
   rw [g2, strOf_bytesOf, strOf_bytesOf, sAt_take (by omega), sAt_take (by omega)]
  rw [show 6 - j = (6 - (j + 1)) + 1 by omega, cdGo_on _ _ _ _ _ _ _ ⟨by omega, by omega, by omega⟩, st]
  exact cd_leaf hF h0 hz m (j + 1) (by omega)
theorem cd_branch {p : PG} {zs rest : List Int} (hF : PgF p) (h0 : ¬ p.kids.length = 0) (hv0 : p.vals = []) (hz : zs = pgRaw p ++ rest) : ∀ m j, j + m = p.keys.length → cdGo zs true (p.keys.length : Int) (6 - j) j ⟨p.keys.take j, [], p.kids.take (j + 1)⟩ ((pgBody p j).length : Int) = p
 | 0, j, hj => by
  obtain ⟨hv, _⟩ := hF.br h0
  rw [cdGo_stop _ _ _ _ _ _ _ (by omega)]
  exact PG.ext' (List.take_of_length_le (by omega)) hv0.symm (List.take_of_length_le (by omega))
 | m + 1, j, hj => by
  obtain ⟨hv, hvs⟩ := hF.br h0
  have hn := hF.nk
  have hk := hF.ks j (by omega)
  have hvj := hvs (j + 1) (by omega)
  obtain ⟨R, hR⟩ := body_split p (j + 1) m
  have e1 : zs = pgBody p j ++ (enc ((bytesOf (sAt p.keys j)).length : Int) ++ bytesOf (sAt p.keys j) ++ enc (iAt p.kids (j + 1))) ++ (R ++ rest) := by
   rw [hz, pgRaw, ← hj, show j + (m + 1) = j + 1 + m by omega, hR, pgBody, pgPart, if_neg h0, bytesOf_len]
   simp only [List.append_assoc]
  have g1 : gt zs ((pgBody p j).length : Int) = (bytesOf (sAt p.keys j), ((pgBody p j ++ enc ((bytesOf (sAt p.keys j)).length : Int) ++ bytesOf (sAt p.keys j)).length : Int)) := by
   have := gt_rest (pgBody p j) (bytesOf (sAt p.keys j)) (enc (iAt p.kids (j + 1)) ++ (R ++ rest)) (by rw [bytesOf_len]; omega)
   rw [← this, e1]
   simp only [List.append_assoc]
  have g2 : gv zs ((pgBody p j ++ enc ((bytesOf (sAt p.keys j)).length : Int) ++ bytesOf (sAt p.keys j)).length : Int) = (iAt p.kids (j + 1), ((pgBody p (j + 1)).length : Int)) := by
   have := gv_enc (pgBody p j ++ enc ((bytesOf (sAt p.keys j)).length : Int) ++ bytesOf (sAt p.keys j)) (R ++ rest) (iAt p.kids (j + 1)) (by omega) (by omega)
   have e2 : pgBody p (j + 1) = pgBody p j ++ enc ((bytesOf (sAt p.keys j)).length : Int) ++ bytesOf (sAt p.keys j) ++ enc (iAt p.kids (j + 1)) := by
    rw [pgBody, pgPart, if_neg h0, bytesOf_len]
    simp only [List.append_assoc]
   have e3 : ((pgBody p j ++ enc ((bytesOf (sAt p.keys j)).length : Int) ++ bytesOf (sAt p.keys j)).length + (enc (iAt p.kids (j + 1))).length : Nat) = (pgBody p (j + 1)).length := by rw [e2]; exact List.length_append.symm
   rw [e3] at this
   rw [← this, e1]
   simp only [List.append_assoc]
  have st : cdStep zs true ⟨p.keys.take j, [], p.kids.take (j + 1)⟩ ((pgBody p j).length : Int) = (⟨p.keys.take (j + 1), [], p.kids.take (j + 1 + 1)⟩, ((pgBody p (j + 1)).length : Int)) := by
   rw [cdStep, if_pos rfl, g1]
   simp only
   rw [g2, strOf_bytesOf, sAt_take (by omega), iAt_take (by omega)]
  rw [show 6 - j = (6 - (j + 1)) + 1 by omega, cdGo_on _ _ _ _ _ _ _ ⟨by omega, by omega, by omega⟩, st]
  exact cd_branch hF h0 hv0 hz m (j + 1) (by omega)
theorem cd_full {p : PG} (hok : pgOk p = true) : cd (pgFull p) = p ∧ (zAt (pgFull p) 0 = 76 ∨ zAt (pgFull p) 0 = 66) := by
 have hF := pgOk_facts hok
 have hn := hF.nk
 obtain ⟨R, hR⟩ := body_split p 0 p.keys.length
 rw [Nat.zero_add] at hR
 have hz : pgFull p = pgRaw p ++ List.replicate (512 - (pgRaw p).length) 0 := rfl
 have hh : pgFull p = pgHead p ++ (R ++ List.replicate (512 - (pgRaw p).length) 0) := by
  have hr : pgRaw p = pgHead p ++ R := hR
  rw [hz]
  generalize List.replicate (512 - (pgRaw p).length) 0 = Z
  rw [hr, List.append_assoc]
 generalize R ++ List.replicate (512 - (pgRaw p).length) 0 = R2 at hh
 by_cases h0 : p.kids.length = 0
 ·have hhd : pgHead p = [76] ++ enc (p.keys.length : Int) := by rw [pgHead, if_pos h0, if_pos h0]; simp
  have hz0 : zAt (pgFull p) 0 = 76 := by rw [hh, hhd]; rfl
  have hgv : gv (pgFull p) 1 = ((p.keys.length : Int), ((pgHead p).length : Int)) := by
   have := gv_enc [76] R2 (p.keys.length : Int) (by omega) (by omega)
   rw [hh, hhd]
   simpa [Int.add_comm] using this
  refine ⟨?_, .inl hz0⟩
  rw [cd, if_neg (by rw [hz0]; decide), hgv]
  have := cd_leaf hF h0 hz p.keys.length 0 (by omega)
  simpa [pgBody] using this
 ·have hbr := hF.br h0
  have hk0 := hbr.2 0 (by omega)
  have hhd : pgHead p = [66] ++ enc (p.keys.length : Int) ++ enc (iAt p.kids 0) := by rw [pgHead, if_neg h0, if_neg h0]
  have hz0 : zAt (pgFull p) 0 = 66 := by rw [hh, hhd]; rfl
  have hgv : gv (pgFull p) 1 = ((p.keys.length : Int), (([66] ++ enc (p.keys.length : Int)).length : Int)) := by
   have := gv_enc [66] (enc (iAt p.kids 0) ++ R2) (p.keys.length : Int) (by omega) (by omega)
   rw [hh, hhd]
   simpa [Int.add_comm] using this
  have hgv2 : gv (pgFull p) (([66] ++ enc (p.keys.length : Int)).length : Int) = (iAt p.kids 0, ((pgHead p).length : Int)) := by
   have := gv_enc ([66] ++ enc (p.keys.length : Int)) R2 (iAt p.kids 0) (by omega) (by omega)
   rw [hh, hhd, this]
   simp
   omega
  have hv0 : p.vals = [] := by
   have h1 := hok
   simp only [pgOk, Bool.and_eq_true] at h1
   have h2 := h1.2
   rw [if_neg h0] at h2
   simp only [pgBranch, Bool.and_eq_true, decide_eq_true_eq] at h2
   exact List.eq_nil_of_length_eq_zero h2.2.2
  refine ⟨?_, .inr hz0⟩
  rw [cd, if_pos hz0, hgv]
  simp only
  rw [if_pos (by omega), hgv2]
  simp only
  have := cd_branch hF h0 hv0 hz p.keys.length 0 (by omega)
  have e : p.kids.take (0 + 1) = [iAt p.kids 0] := by
   rw [← iAt_take (by omega)]; rfl
  rw [e] at this
  simpa [pgBody] using this
theorem pgFull_len {p : PG} (hok : pgOk p = true) : (pgFull p).length = 512 := (pgBytes_some (p := p) (by rw [pgBytes, if_pos hok])).2
theorem prd_iff (zs : List Int) (p : PG) : prd zs = some p ↔ pgBytes p = some zs := by
 constructor
 ·intro h
  unfold prd at h
  split at h
  ·rename_i hc
   cases h
   exact hc.2.2
  ·cases h
 ·intro h
  have h2 := h
  unfold pgBytes at h2
  split at h2
  ·rename_i hok
   cases h2
   obtain ⟨h3, h4⟩ := cd_full hok
   rw [prd, if_pos ⟨pgFull_len hok, h4, by rw [h3]; exact h⟩, h3]
  ·cases h2
end Go.Proofs.YtidjehapeanpbaaGreatDoor
