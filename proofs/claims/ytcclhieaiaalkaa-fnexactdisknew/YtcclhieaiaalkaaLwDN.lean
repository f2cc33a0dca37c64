/-
  The law FnExactDiskNew answers true at every number.
-/
import Derived.Test.YtcclhieaiaalkaaLwDO
import Derived.Test.YtcclhieaiaalkaaDkN
namespace Go.Proofs.Ytcclhieaiaalkaa
open Go.RowKit
set_option linter.unusedVariables false
theorem offS_nil (n k : Nat) : offS (List.replicate n []) k = 0 := by
  induction k with
  | zero => rfl
  | succ k ih =>
    rw [offS, ih]
    by_cases e : k < n
    · simp [shAt, e]
    · simp [shAt, e]
theorem dn_small (n : Int) : smallD ((dnV n).getD emD) ∧ dkTot ((dnV n).getD emD) ≤ 4194304 := by
  unfold dnV
  split
  · refine ⟨⟨fun i hi => ?_, fun i hi => by simp at hi⟩, ?_⟩
    · have hi' : i < n.toNat := by simpa using hi
      simp [shAt, hi']
    · simp only [Option.getD_some, dkTot, offS_nil, List.length_nil, offW]; omega
  · exact ⟨⟨fun i hi => by simp [emD] at hi, fun i hi => by simp [emD] at hi⟩, by simp [emD, dkTot, offS, offW]⟩
/-- An answered disk in its box. -/
structure DB (v : World) (b B : Nat) (sa : Option Addr) (sn sc : Nat) (da : Option Addr) (dn dc : Nat) (V : List Value) (U : List (Int × Value)) (d : DK) : Prop where
  box : Bk v b 31 [.slice sa sn sc, .slice da dn dc]
  own : DO v B (.slice sa sn sc) V (.slice da dn dc) U d
  sep : ∀ y, dbl (.slice sa sn sc) V (.slice da dn dc) U y → y < b
theorem DB.below {v v' : World} {b B : Nat} {sa : Option Addr} {sn sc : Nat} {da : Option Addr} {dn dc : Nat} {V : List Value} {U : List (Int × Value)} {d : DK} (h : DB v b B sa sn sc da dn dc V U d) (hb : Below v.heap.size v v') : DB v' b B sa sn sc da dn dc V U d := ⟨h.box.below hb, h.own.below hb, h.sep⟩
theorem DB.to {v v' : World} {R : Nat → Prop} {b B : Nat} {sa : Option Addr} {sn sc : Nat} {da : Option Addr} {dn dc : Nat} {V : List Value} {U : List (Int × Value)} {d : DK} (h : DB v b B sa sn sc da dn dc V U d) (ho : Only R v v') (hb : ¬ R b) (hR : ∀ y, dbl (.slice sa sn sc) V (.slice da dn dc) U y → ¬ R y) : DB v' b B sa sn sc da dn dc V U d := ⟨h.box.to ho hb, h.own.to ho hR, h.sep⟩
theorem DB.new {v : World} {B : Nat} {sa : Option Addr} {sn sc : Nat} {da : Option Addr} {dn dc : Nat} {V : List Value} {U : List (Int × Value)} {d : DK} (h : DO v B (.slice sa sn sc) V (.slice da dn dc) U d) : DB (v.alloc (.cells #[.slice sa sn sc, .slice da dn dc] 31)) v.heap.size B sa sn sc da dn dc V U d := ⟨Bk.new v _ [_, _], h.below (below_new (Below.refl _ _)), fun y hy => (h.lt hy).2⟩
theorem DB.cells {v : World} {b B : Nat} {sa : Option Addr} {sn sc : Nat} {da : Option Addr} {dn dc : Nat} {V : List Value} {U : List (Int × Value)} {d : DK} (h : DB v b B sa sn sc da dn dc V U d) : v.cell? ⟨b, 0, none⟩ = some (.slice sa sn sc) ∧ v.cell? ⟨b, 1, none⟩ = some (.slice da dn dc) := ⟨h.box.cell (j := 0) rfl, h.box.cell (j := 1) rfl⟩
theorem DB.dk {v : World} {b B : Nat} {sa : Option Addr} {sn sc : Nat} {da : Option Addr} {dn dc : Nat} {V : List Value} {U : List (Int × Value)} {d : DK} (h : DB v b B sa sn sc da dn dc V U d) : Dk v (fun _ => True) sa sn sc da dn dc d := h.own.dk (fun _ _ => trivial)
/-- A marked disk in its box. -/
structure DQ5 (v : World) (b : Nat) (sa : Option Addr) (sn sc : Nat) (da : Option Addr) (dn dc : Nat) (V : List Value) (U : List (Int × Value)) (d : DK) (k : Nat) : Prop where
  box : Bk v b 31 [.slice sa sn sc, .slice da dn dc]
  own : DM v (.slice sa sn sc) V (.slice da dn dc) U d k
theorem DQ5.below {v v' : World} {b : Nat} {sa : Option Addr} {sn sc : Nat} {da : Option Addr} {dn dc : Nat} {V : List Value} {U : List (Int × Value)} {d : DK} {k : Nat} (h : DQ5 v b sa sn sc da dn dc V U d k) (hb : Below v.heap.size v v') : DQ5 v' b sa sn sc da dn dc V U d k := ⟨h.box.below hb, h.own.below hb⟩
theorem DQ5.cells {v : World} {b : Nat} {sa : Option Addr} {sn sc : Nat} {da : Option Addr} {dn dc : Nat} {V : List Value} {U : List (Int × Value)} {d : DK} {k : Nat} (h : DQ5 v b sa sn sc da dn dc V U d k) : v.cell? ⟨b, 0, none⟩ = some (.slice sa sn sc) ∧ v.cell? ⟨b, 1, none⟩ = some (.slice da dn dc) := ⟨h.box.cell (j := 0) rfl, h.box.cell (j := 1) rfl⟩
set_option maxHeartbeats 8000000 in
set_option maxRecDepth 20000 in
theorem lawDiskNew_walk (n : Int) (w : World) (_h : (Lit.int .i64 n).wf = true) :
    Calls Try.prog 4 #[.int .i64 n] w fun e w' => e = .returned (.bool true) ∧ Below w.heap.size w w' := by
  clear _h
  have HSM := hid (dn_small n).1
  have HT := hid (dn_small n).2
  have HSP := hid (fun w => specDiskNew_any n w)
  have HIM := hid (fun w => implDiskNew_any n w)
  generalize dnV n = o at *
  have hoo : (o.isSome != o.isSome) = false := by simp
  generalize hZ : o.isSome = Z at *
  have HZ := hid hZ
  generalize hdd : o.getD emD = dd at *
  have HDD := hid hdd
  clear hZ hdd
  go_enter Try.func4, Try.ntmps4
  go_wp2_with fail
  refine (HSP.out _).mono ?_
  rintro e w1 ⟨sa0, sn0, sc0, da0, dn0, dc0, V0, U0, rfl, hO, hb⟩
  rw [HDD.out] at hO
  rw [HZ.out]
  have A1 := hid (DB.new hO)
  have B1 : Hid (Below w.heap.size w (w1.alloc (.cells #[.slice sa0 sn0 sc0, .slice da0 dn0 dc0] 31))) := bt5 hb (below_new (Below.refl _ _))
  clear hO hb
  go_wp2_with fail
  refine (HIM.out _).mono ?_
  generalize w1.alloc (.cells #[.slice sa0 sn0 sc0, .slice da0 dn0 dc0] 31) = u1 at *
  generalize w1.heap.size = b1 at *
  rintro e w2 ⟨sa, sn, sc, da, dn, dc, V, U, rfl, hO, hb⟩
  rw [HDD.out] at hO
  rw [HZ.out]
  have hb2 : Below u1.heap.size u1 (w2.alloc (.cells #[.slice sa sn sc, .slice da dn dc] 31)) := bt5 hb (below_new (Below.refl _ _))
  have A2 := hid (A1.out.below hb2)
  have B2 := hid (bt5 B1.out hb2)
  have G2 := hid (DB.new hO)
  have S1 : Hid (b1 < u1.heap.size) := A1.out.box.lt
  have S2 : Hid (u1.heap.size ≤ w2.heap.size) := hb.size
  have S3 := hid (fun y hy => (A1.out.own.lt (y := y) hy).2)
  clear hO hb hb2 A1
  obtain ⟨x0, x1⟩ := A2.out.cells
  obtain ⟨y0, y1⟩ := G2.out.cells
  go_wp2_with fail
  refine (eqDisk_any (fun _ => True) (fun _ => True) _ _ _ _ _ _ dd _ _ _ _ _ _ dd _ G2.out.dk A2.out.dk HSM.out HSM.out).mono ?_
  generalize w2.alloc (.cells #[.slice sa sn sc, .slice da dn dc] 31) = u2 at *
  generalize w2.heap.size = b2 at *
  rw [decide_eq_true (rfl : dd = dd)]
  rintro e w3 ⟨rfl, hb⟩
  have A3 := hid (A2.out.below hb)
  have B3 := hid (bt5 B2.out hb)
  have G3 := hid (G2.out.below hb)
  clear hb A2 G2 x0 x1 y0 y1
  obtain ⟨y0, y1⟩ := G3.out.cells
  go_wp2_with fail
  refine (markDisk_ex _ sa sn sc da dn dc 1 V U dd _ G3.out.own HT.out (by omega) (by omega)).mono ?_
  rintro e w4 ⟨rfl, hm, ho⟩
  have A4 := hid (A3.out.to ho (fun e => by have := (G3.out.own.lt e).1; have := S1.out; omega) (fun y hy e => by have h1 := S3.out y hy; have := (G3.out.own.lt e).1; omega))
  have Q4 : Hid (DQ5 w4 b2 sa sn sc da dn dc V U dd 1) := ⟨G3.out.box.to ho (fun e => absurd (G3.out.sep _ e) (Nat.lt_irrefl _)), hm⟩
  have B4 := hid (B3.out.trans (ho.below B3.out.size (fun y hy e => by have h1 := (G3.out.own.lt e).1; have h2 := B1.out.size; omega)))
  clear hm ho A3 B3 G3 y0 y1 B2 B1 S1 S2 S3
  obtain ⟨y0, y1⟩ := Q4.out.cells
  have HTP : Hid (1 + dkTot dd ≤ 4194305) := by have := HT.out; show _ ≤ _; omega
  generalize hq : 1 + dkTot dd = q at *
  have HQ := hid hq
  have hq0 : ¬ (q : Int) < 0 := by omega
  have hqq : ((q : Int) != (q : Int)) = false := by simp
  clear hq
  go_wp2_with fail
  refine (heldDisk_any sa sn sc da dn dc 1 V U dd _ Q4.out.own HT.out (by omega) (by omega)).mono ?_
  rw [HQ.out]
  rintro e w5 ⟨rfl, hb⟩
  have A5 := hid (A4.out.below hb)
  have B5 := hid (bt5 B4.out hb)
  have Q5 := hid (Q4.out.below hb)
  clear hb A4 B4 Q4 y0 y1
  go_wp2_with fail
  refine (HIM.out _).mono ?_
  rintro e w6 ⟨sa2, sn2, sc2, da2, dn2, dc2, V2, U2, rfl, hO, hb⟩
  rw [HDD.out] at hO
  rw [HZ.out]
  have hb2 : Below w5.heap.size w5 (w6.alloc (.cells #[.slice sa2 sn2 sc2, .slice da2 dn2 dc2] 31)) := bt5 hb (below_new (Below.refl _ _))
  have A6 := hid (A5.out.below hb2)
  have B6 := hid (bt5 B5.out hb2)
  have Q6 := hid (Q5.out.below hb2)
  have H6 := hid (DB.new hO)
  clear hO hb hb2 A5 B5 Q5
  obtain ⟨x0, x1⟩ := A6.out.cells
  obtain ⟨y0, y1⟩ := H6.out.cells
  go_wp2_with fail
  refine (eqDisk_any (fun _ => True) (fun _ => True) _ _ _ _ _ _ dd _ _ _ _ _ _ dd _ H6.out.dk A6.out.dk HSM.out HSM.out).mono ?_
  generalize w6.alloc (.cells #[.slice sa2 sn2 sc2, .slice da2 dn2 dc2] 31) = u6 at *
  generalize w6.heap.size = b6 at *
  rw [decide_eq_true (rfl : dd = dd)]
  rintro e w7 ⟨rfl, hb⟩
  have B7 := hid (bt5 B6.out hb)
  have Q7 := hid (Q6.out.below hb)
  clear hb A6 H6 B6 Q6 x0 x1 y0 y1
  obtain ⟨y0, y1⟩ := Q7.out.cells
  go_wp2_with fail
  refine (heldDisk_any sa sn sc da dn dc 1 V U dd _ Q7.out.own HT.out (by omega) (by omega)).mono ?_
  rw [HQ.out]
  rintro e w8 ⟨rfl, hb⟩
  have B8 := hid (bt5 B7.out hb)
  clear hb Q7 B7 y0 y1
  go_wp2
  go_ret
  exact ⟨rfl, B8.out⟩
end Go.Proofs.Ytcclhieaiaalkaa

