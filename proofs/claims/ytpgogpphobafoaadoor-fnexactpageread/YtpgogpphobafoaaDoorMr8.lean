/-
  The reader's page.
-/
import Derived.Test.YtpgogpphobafoaaDoorMr5
import Derived.Test.YtpgogpphobafoaaDoorMr6
import Derived.Test.YtpgogpphobafoaaDoorMr7
import Derived.Test.YtpgogpphobafoaaDoorMr3
import Derived.Deep.RegionLaw
import Derived.Test.YtpgogpphobafoaaDoorMr2
import Derived.ProofKit
import Derived.OpenShut
import Derived.ChangeOld
import Derived.Stop.LaidErr
namespace Go.Proofs.YtpgogpphobafoaaDoor
open Go.RowKit
/-- A page is read, or the reader gives up where there is none. -/
def RdP (zs : List Int) (R : Nat) (w : World) (e : Ending) (w' : World) : Prop :=
  Only (fun y => y = R) w w' ∧ ((Gave e ∧ prd zs = none) ∨ ∃ (ka : Option Addr) (kn kc : Nat) (va : Option Addr) (vn vc : Nat) (ia : Option Addr) (jn ic : Nat) (p : PG), e = .returned (.agg #[.slice ka kn kc, .slice va vn vc, .slice ia jn ic]) ∧
    PO w' (.slice ka kn kc) (.slice va vn vc) (.slice ia jn ic) p ∧ (∀ y, pbl (.slice ka kn kc) (.slice va vn vc) (.slice ia jn ic) y → w.heap.size ≤ y) ∧ prd zs = some p)
/-- The two boxes of the function and its reader. -/
structure Pb (w v : World) (R : Nat) (a : Option Addr) (n c : Nat) (zs : List Int) (q : Int) (x y z : Value) : Prop where
  rs : Rs v R a n c zs q
  rb : Bk v w.heap.size 30 [.slice none 0 0, .slice none 0 0, .slice none 0 0]
  bk : Bk v (w.heap.size + 1) 30 [x, y, z]
  on : Only (fun y => y = R) w v
  lt : R < w.heap.size
theorem Pb.to {w v v' : World} {R : Nat} {a : Option Addr} {n c : Nat} {zs : List Int} {q q' : Int} {x y z : Value} (h : Pb w v R a n c zs q x y z) (ho : Only (fun y => y = R) v v') (hr : Rs v' R a n c zs q') : Pb w v' R a n c zs q' x y z :=
  ⟨hr, h.rb.to ho (fun e => by have := h.lt; omega), h.bk.to ho (fun e => by have := h.lt; omega), h.on.trans ho, h.lt⟩
theorem Pb.below {w v v' : World} {R : Nat} {a : Option Addr} {n c : Nat} {zs : List Int} {q : Int} {x y z : Value} (h : Pb w v R a n c zs q x y z) (hb : Below v.heap.size v v') : Pb w v' R a n c zs q x y z :=
  ⟨h.rs.below hb, h.rb.below hb, h.bk.below hb, h.on.trans (only_of_below hb _), h.lt⟩
theorem Pb.set {w v : World} {R : Nat} {a : Option Addr} {n c : Nat} {zs : List Int} {q : Int} {x y z : Value} (h : Pb w v R a n c zs q x y z) (x' y' z' : Value) : Pb w (((v.setCell ⟨w.heap.size + 1, 0, none⟩ x').setCell ⟨w.heap.size + 1, 1, none⟩ y').setCell ⟨w.heap.size + 1, 2, none⟩ z') R a n c zs q x' y' z' ∧ Only (fun y => y = w.heap.size + 1) v (((v.setCell ⟨w.heap.size + 1, 0, none⟩ x').setCell ⟨w.heap.size + 1, 1, none⟩ y').setCell ⟨w.heap.size + 1, 2, none⟩ z') := by
  have ho : Only (fun y => y = w.heap.size + 1) v (((v.setCell ⟨w.heap.size + 1, 0, none⟩ x').setCell ⟨w.heap.size + 1, 1, none⟩ y').setCell ⟨w.heap.size + 1, 2, none⟩ z') :=
    ((only_set (R := fun y => y = w.heap.size + 1) rfl _).trans (only_set (R := fun y => y = w.heap.size + 1) rfl _)).trans (only_set (R := fun y => y = w.heap.size + 1) rfl _)
  refine ⟨⟨h.rs.to ho (fun y e => by have := h.lt; omega), h.rb.to ho (fun e => by omega), ?_, h.on.then ho (fun i hi e => by omega), h.lt⟩, ho⟩
  exact ((h.bk.set 0 x').set 1 y').set 2 z'
theorem Pb.cells {w v : World} {R : Nat} {a : Option Addr} {n c : Nat} {zs : List Int} {q : Int} {x y z : Value} (h : Pb w v R a n c zs q x y z) :
    (v.cell? ⟨w.heap.size + 1, 0, none⟩ = some x ∧ v.cell? ⟨w.heap.size + 1, 1, none⟩ = some y ∧ v.cell? ⟨w.heap.size + 1, 2, none⟩ = some z) ∧ (v.frozen? ⟨w.heap.size + 1, 0, none⟩ = false ∧ v.frozen? ⟨w.heap.size + 1, 1, none⟩ = false ∧ v.frozen? ⟨w.heap.size + 1, 2, none⟩ = false) :=
  ⟨⟨h.bk.cell (j := 0) rfl, h.bk.cell (j := 1) rfl, h.bk.cell (j := 2) rfl⟩, h.bk.free 0, h.bk.free 1, h.bk.free 2⟩
theorem Pb.rcells {w v : World} {R : Nat} {a : Option Addr} {n c : Nat} {zs : List Int} {q : Int} {x y z : Value} (h : Pb w v R a n c zs q x y z) :
    (v.cell? ⟨w.heap.size, 0, none⟩ = some (.slice none 0 0) ∧ v.cell? ⟨w.heap.size, 1, none⟩ = some (.slice none 0 0) ∧ v.cell? ⟨w.heap.size, 2, none⟩ = some (.slice none 0 0)) ∧ (v.frozen? ⟨w.heap.size, 0, none⟩ = false ∧ v.frozen? ⟨w.heap.size, 1, none⟩ = false ∧ v.frozen? ⟨w.heap.size, 2, none⟩ = false) ∧ v.cell? ⟨R, 0, none⟩ = some (.slice a n c) :=
  ⟨⟨h.rb.cell (j := 0) rfl, h.rb.cell (j := 1) rfl, h.rb.cell (j := 2) rfl⟩, ⟨h.rb.free 0, h.rb.free 1, h.rb.free 2⟩, h.rs.bk.cell (j := 0) rfl⟩
theorem Err.only {w w' : World} {g : Nat} {P : Nat → Prop} (h : Err w g) (ho : Only P w w') (hP : ¬ P g) : Err w' g := by
  obtain ⟨t, x, hc⟩ := h
  exact ⟨t, x, (World.cell?_of_block (w := w) (a := ⟨g, 0, none⟩) (ho.block g (block_lt hc) hP)).trans hc⟩
set_option maxHeartbeats 8000000 in
set_option maxRecDepth 20000 in
theorem rpage_any (R : Nat) (a : Option Addr) (n c : Nat) (zs : List Int) (w : World) (h : Rs w R a n c zs 0) (he : Err w 1) (he2 : Err w 0) (hg1 : 1 < R) (hg2 : 0 < R) :
    Calls Tryd.prog 48 #[.pointer (some ⟨R, 0, none⟩)] w fun e w' => RdP zs R w e w' := by
  have HE := hid he
  have HE2 := hid he2
  have H0 := hid h
  have HN : Hid (n = zs.length) := h.rd.1
  have hb1 := below_new (o := .cells #[.slice none 0 0, .slice none 0 0, .slice none 0 0] 30) (w := w) (Below.refl _ _)
  have R1 := hid (h.below hb1)
  have B1 := hid hb1
  have K1 := hid (Bk.new w 30 [.slice none 0 0, .slice none 0 0, .slice none 0 0])
  have c1 := R1.out.bk.cell (j := 0) rfl
  have HLT : Hid (R < w.heap.size) := h.bk.lt
  have HG1 := hid hg1
  have HG2 := hid hg2
  clear h he he2 hb1 hg1 hg2
  by_cases h512 : n = 512
  · subst h512
    have HZL : Hid (zs.length = 512) := HN.out.symm
    obtain ⟨b, off, ha, hbl, hcell⟩ := R1.out.rd.2.2.2.2.2 (by omega)
    subst ha
    have HBY := hid R1.out.rd.2.2.2.2.1
    have hcc := R1.out.rd.2.1
    have hcm := R1.out.rd.2.2.1
    clear hbl hcell
    have hb2 := below_new (o := .cells #[.slice none 0 0, .slice none 0 0, .slice none 0 0] 30) (w := w.alloc (.cells #[.slice none 0 0, .slice none 0 0, .slice none 0 0] 30)) (Below.refl _ _)
    have P2 : Hid (Pb w ((w.alloc (.cells #[.slice none 0 0, .slice none 0 0, .slice none 0 0] 30)).alloc (.cells #[.slice none 0 0, .slice none 0 0, .slice none 0 0] 30)) R (some ⟨b, off, none⟩) 512 c zs 0 (.slice none 0 0) (.slice none 0 0) (.slice none 0 0)) := by
      have k1 := Bk.new (w.alloc (.cells #[.slice none 0 0, .slice none 0 0, .slice none 0 0] 30)) 30 [.slice none 0 0, .slice none 0 0, .slice none 0 0]
      exact ⟨R1.out.below hb2, K1.out.below hb2, by simpa using k1, only_of_below (btw B1.out hb2) _, HLT.out⟩
    have HPRN : Hid (¬ (zAt zs 0 = 76 ∨ zAt zs 0 = 66) → prd zs = none) := by
      intro hn
      rw [prd, if_neg]
      rintro ⟨_, h, _⟩
      exact hn h
    have HC0 : Hid (∀ v q, Rs v R (some ⟨b, off, none⟩) 512 c zs q → v.cell? ⟨b, off, none⟩ = some (.int .u8 (zAt zs 0))) := by
      intro v q hr
      obtain ⟨b', off', e, -, hc⟩ := hr.rd.2.2.2.2.2 (by omega)
      cases e
      exact hc 0 (by omega)
    clear hb2 K1 B1 HN
    go_enter Tryd.func48, Tryd.ntmps48
    go_wp2_with fail
    refine (goTo_yes R 1 _ P2.out.rs.bk (by omega)).mono ?_
    generalize (w.alloc (.cells #[.slice none 0 0, .slice none 0 0, .slice none 0 0] 30)).alloc (.cells #[.slice none 0 0, .slice none 0 0, .slice none 0 0] 30) = U at *
    rintro e w1 ⟨rfl, hw1⟩
    have O1 : Hid (Only (fun y => y = R) U w1) := by rw [hw1]; exact only_set (R := fun y => y = R) rfl _
    have K3 : Bk w1 R 70 [.slice (some ⟨b, off, none⟩) 512 c, .int .i64 1] := by rw [hw1]; exact P2.out.rs.bk.set 1 _
    have P3 := hid (P2.out.to O1.out (P2.out.rs.went O1.out K3))
    clear hw1 K3 P2 c1 R1
    have m0 := HC0.out _ _ P3.out.rs
    obtain ⟨⟨p0, p1, p2⟩, pf0, pf1, pf2⟩ := P3.out.cells
    obtain ⟨⟨r0, r1, r2⟩, ⟨rf0, rf1, rf2⟩, x0⟩ := P3.out.rcells
    have hz0 : 0 ≤ zAt zs 0 ∧ zAt zs 0 ≤ 255 := HBY.out 0
    by_cases z76 : zAt zs 0 = 76
    · have HKD : Hid (∀ p0, pgBytes p0 = some zs → p0.kids.length = 0) := by
        intro p0 hp
        by_cases h0 : p0.kids.length = 0
        · exact h0
        · have := (branch_head hp h0).1
          omega
      rw [z76] at m0
      have HRD := hid (rleaf_any R (some ⟨b, off, none⟩) 512 c zs w1 P3.out.rs HZL.out)
      clear hz0 HPRN z76
      go_wp2_with fail
      refine HRD.out.mono ?_
      rintro e w2 ⟨ho2, hcase⟩
      rcases hcase with ⟨⟨t, x, rfl⟩, hno⟩ | ⟨ka, kn, kc, va, vn, vc, ia, jn, ic, p, rfl, hpo, hlo, ⟨q2, hrs⟩, heq⟩
      · have HON : Hid (Only (fun y => y = R) w w2) := P3.out.on.trans ho2
        have HNO : Hid (prd zs = none) := by
          show prd zs = none
          cases hp : prd zs with
          | none => rfl
          | some p0 => exact (hno p0 ((prd_iff zs p0).1 hp) (HKD.out p0 ((prd_iff zs p0).1 hp))).elim
        clear hno ho2 HRD
        go_wp2
        exact ⟨rfl, HON.out, .inl ⟨⟨t, x, rfl⟩, HNO.out⟩⟩
      · have P4 := hid (P3.out.to ho2 hrs)
        have HEQ : Hid (∀ p0, pgBytes p0 = some zs → p = p0) := fun p0 hp => heq p0 hp (HKD.out p0 hp)
        have HLO := hid hlo
        have HPO := hid hpo
        have HW1 : Hid (w.heap.size + 1 < w1.heap.size) := P3.out.bk.lt
        clear hpo hlo hrs heq ho2 HRD HKD m0 P3 p0 p1 p2 pf0 pf1 pf2 r0 r1 r2 rf0 rf1 rf2 x0
        obtain ⟨⟨p0, p1, p2⟩, pf0, pf1, pf2⟩ := P4.out.cells
        obtain ⟨P5', O5⟩ := P4.out.set (.slice ka kn kc) (.slice va vn vc) (.slice ia jn ic)
        have P5 := hid P5'
        have HPO5 : Hid (PO _ (.slice ka kn kc) (.slice va vn vc) (.slice ia jn ic) p) := HPO.out.to O5 (fun y hy e => by have := HLO.out y hy; have := HW1.out; omega)
        clear P5' O5
        go_wp2_with fail
        have ER5 := hid (HE.out.only P5.out.on (fun e => by have := HG1.out; omega))
        have ES5 := hid (HE2.out.only P5.out.on (fun e => by have := HG2.out; omega))
        have PG5 := hid (HPO5.out.pgr (S := fun _ => True) (fun _ _ => trivial))
        refine (implPageBytes_any (fun _ => True) ka kn kc va vn vc ia jn ic p _ PG5.out ER5.out ES5.out).mono ?_
        generalize ((w2.setCell ⟨w.heap.size + 1, 0, none⟩ (.slice ka kn kc)).setCell ⟨w.heap.size + 1, 1, none⟩ (.slice va vn vc)).setCell ⟨w.heap.size + 1, 2, none⟩ (.slice ia jn ic) = w5 at *
        clear p0 p1 p2 pf0 pf1 pf2 P4 HPO ER5 ES5 PG5
        intro e w6 hput
        have P6 := hid (P5.out.below hput.1)
        have HPO6 := hid (HPO5.out.below hput.1)
        have HON := hid P6.out.on
        obtain ⟨⟨p0, p1, p2⟩, pf0, pf1, pf2⟩ := P6.out.cells
        obtain ⟨⟨r0, r1, r2⟩, ⟨rf0, rf1, rf2⟩, x0⟩ := P6.out.rcells
        rcases hput.2 with ⟨hn, rfl⟩ | ⟨v, out, hs, rfl, ho⟩
        · have HNO : Hid (prd zs = none) := by
            show prd zs = none
            cases hp : prd zs with
            | none => rfl
            | some p0 =>
              have h1 := (prd_iff zs p0).1 hp
              rw [← HEQ.out p0 h1, hn] at h1
              cases h1
          clear hput hn P5 HPO5
          go_wp2_with fail
          refine (giveUp_any R _ P6.out.rs.er).mono ?_
          rintro e w7 ⟨⟨t, x, rfl⟩, rfl⟩
          go_wp2
          exact ⟨rfl, HON.out, .inl ⟨⟨t, x, rfl⟩, HNO.out⟩⟩
        · obtain ⟨hsb, hsl⟩ := pgBytes_some hs
          obtain ⟨a3, c3, rfl, hR3, -⟩ := ho.rd (byte_at hsb) (by omega)
          have R3 := hid hR3
          have HS := hid hs
          clear hput ho hR3 hs hsb hsl P5 HPO5
          generalize out.length = L at *
          go_wp2_with fail
          refine (bytesEqual_any _ _ _ _ _ _ _ _ _ R3.out P6.out.rs.rd).mono ?_
          rintro e w7 ⟨rfl, rfl⟩
          by_cases hq : out = zs
          · have HPR : Hid (prd zs = some p) := by show _ = _; rw [prd_iff, HS.out, hq]
            rw [decide_eq_true hq]
            have HQ : Hid (RdP zs R w (.returned (.agg #[.slice ka kn kc, .slice va vn vc, .slice ia jn ic])) (((w6.setCell ⟨w.heap.size, 0, none⟩ (.slice ka kn kc)).setCell ⟨w.heap.size, 1, none⟩ (.slice va vn vc)).setCell ⟨w.heap.size, 2, none⟩ (.slice ia jn ic))) := by
              have ho7 : Only (fun y => y = w.heap.size) w6 (((w6.setCell ⟨w.heap.size, 0, none⟩ (.slice ka kn kc)).setCell ⟨w.heap.size, 1, none⟩ (.slice va vn vc)).setCell ⟨w.heap.size, 2, none⟩ (.slice ia jn ic)) :=
                ((only_set (R := fun y => y = w.heap.size) rfl _).trans (only_set (R := fun y => y = w.heap.size) rfl _)).trans (only_set (R := fun y => y = w.heap.size) rfl _)
              refine ⟨HON.out.then ho7 (fun i hi e => by omega), .inr ⟨ka, kn, kc, va, vn, vc, ia, jn, ic, p, rfl, HPO6.out.to ho7 (fun y hy e => by have := HLO.out y hy; have := HW1.out; omega), fun y hy => by have := HLO.out y hy; have := HW1.out; omega, HPR.out⟩⟩
            clear hq HS R3 HEQ P6 HPO6
            go_wp2
            refine bodyPost_ret (results_pg (x := .slice ka kn kc) (y := .slice va vn vc) (z := .slice ia jn ic) rfl _ _ _ rfl (by go_simp) (by go_simp) (by go_simp)) rfl ?_
            exact HQ.out
          · have HNO : Hid (prd zs = none) := by
              show prd zs = none
              cases hp : prd zs with
              | none => rfl
              | some p0 =>
                have h1 := (prd_iff zs p0).1 hp
                rw [← HEQ.out p0 h1, HS.out] at h1
                exact (hq (Option.some.inj h1)).elim
            rw [decide_eq_false hq]
            clear hq HS R3 HEQ
            go_wp2_with fail
            refine (giveUp_any R _ P6.out.rs.er).mono ?_
            rintro e w7 ⟨⟨t, x, rfl⟩, rfl⟩
            go_wp2
            exact ⟨rfl, HON.out, .inl ⟨⟨t, x, rfl⟩, HNO.out⟩⟩
    · by_cases z66 : zAt zs 0 = 66
      · have HKD : Hid (∀ p0, pgBytes p0 = some zs → ¬ p0.kids.length = 0) := by
          intro p0 hp h0
          have := (leaf_head hp h0).1
          omega
        rw [z66] at m0
        have HRD := hid (rbranch_any R (some ⟨b, off, none⟩) 512 c zs w1 P3.out.rs HZL.out)
        clear hz0 HPRN z76 z66
        go_wp2_with fail
        refine HRD.out.mono ?_
        rintro e w2 ⟨ho2, hcase⟩
        rcases hcase with ⟨⟨t, x, rfl⟩, hno⟩ | ⟨ka, kn, kc, va, vn, vc, ia, jn, ic, p, rfl, hpo, hlo, ⟨q2, hrs⟩, heq⟩
        · have HON : Hid (Only (fun y => y = R) w w2) := P3.out.on.trans ho2
          have HNO : Hid (prd zs = none) := by
            show prd zs = none
            cases hp : prd zs with
            | none => rfl
            | some p0 => exact (hno p0 ((prd_iff zs p0).1 hp) (HKD.out p0 ((prd_iff zs p0).1 hp))).elim
          clear hno ho2 HRD
          go_wp2
          exact ⟨rfl, HON.out, .inl ⟨⟨t, x, rfl⟩, HNO.out⟩⟩
        · have P4 := hid (P3.out.to ho2 hrs)
          have HEQ : Hid (∀ p0, pgBytes p0 = some zs → p = p0) := fun p0 hp => heq p0 hp (HKD.out p0 hp)
          have HLO := hid hlo
          have HPO := hid hpo
          have HW1 : Hid (w.heap.size + 1 < w1.heap.size) := P3.out.bk.lt
          clear hpo hlo hrs heq ho2 HRD HKD m0 P3 p0 p1 p2 pf0 pf1 pf2 r0 r1 r2 rf0 rf1 rf2 x0
          obtain ⟨⟨p0, p1, p2⟩, pf0, pf1, pf2⟩ := P4.out.cells
          obtain ⟨P5', O5⟩ := P4.out.set (.slice ka kn kc) (.slice va vn vc) (.slice ia jn ic)
          have P5 := hid P5'
          have HPO5 : Hid (PO _ (.slice ka kn kc) (.slice va vn vc) (.slice ia jn ic) p) := HPO.out.to O5 (fun y hy e => by have := HLO.out y hy; have := HW1.out; omega)
          clear P5' O5
          go_wp2_with fail
          have ER5 := hid (HE.out.only P5.out.on (fun e => by have := HG1.out; omega))
          have ES5 := hid (HE2.out.only P5.out.on (fun e => by have := HG2.out; omega))
          have PG5 := hid (HPO5.out.pgr (S := fun _ => True) (fun _ _ => trivial))
          refine (implPageBytes_any (fun _ => True) ka kn kc va vn vc ia jn ic p _ PG5.out ER5.out ES5.out).mono ?_
          generalize ((w2.setCell ⟨w.heap.size + 1, 0, none⟩ (.slice ka kn kc)).setCell ⟨w.heap.size + 1, 1, none⟩ (.slice va vn vc)).setCell ⟨w.heap.size + 1, 2, none⟩ (.slice ia jn ic) = w5 at *
          clear p0 p1 p2 pf0 pf1 pf2 P4 HPO ER5 ES5 PG5
          intro e w6 hput
          have P6 := hid (P5.out.below hput.1)
          have HPO6 := hid (HPO5.out.below hput.1)
          have HON := hid P6.out.on
          obtain ⟨⟨p0, p1, p2⟩, pf0, pf1, pf2⟩ := P6.out.cells
          obtain ⟨⟨r0, r1, r2⟩, ⟨rf0, rf1, rf2⟩, x0⟩ := P6.out.rcells
          rcases hput.2 with ⟨hn, rfl⟩ | ⟨v, out, hs, rfl, ho⟩
          · have HNO : Hid (prd zs = none) := by
              show prd zs = none
              cases hp : prd zs with
              | none => rfl
              | some p0 =>
                have h1 := (prd_iff zs p0).1 hp
                rw [← HEQ.out p0 h1, hn] at h1
                cases h1
            clear hput hn P5 HPO5
            go_wp2_with fail
            refine (giveUp_any R _ P6.out.rs.er).mono ?_
            rintro e w7 ⟨⟨t, x, rfl⟩, rfl⟩
            go_wp2
            exact ⟨rfl, HON.out, .inl ⟨⟨t, x, rfl⟩, HNO.out⟩⟩
          · obtain ⟨hsb, hsl⟩ := pgBytes_some hs
            obtain ⟨a3, c3, rfl, hR3, -⟩ := ho.rd (byte_at hsb) (by omega)
            have R3 := hid hR3
            have HS := hid hs
            clear hput ho hR3 hs hsb hsl P5 HPO5
            generalize out.length = L at *
            go_wp2_with fail
            refine (bytesEqual_any _ _ _ _ _ _ _ _ _ R3.out P6.out.rs.rd).mono ?_
            rintro e w7 ⟨rfl, rfl⟩
            by_cases hq : out = zs
            · have HPR : Hid (prd zs = some p) := by show _ = _; rw [prd_iff, HS.out, hq]
              rw [decide_eq_true hq]
              have HQ : Hid (RdP zs R w (.returned (.agg #[.slice ka kn kc, .slice va vn vc, .slice ia jn ic])) (((w6.setCell ⟨w.heap.size, 0, none⟩ (.slice ka kn kc)).setCell ⟨w.heap.size, 1, none⟩ (.slice va vn vc)).setCell ⟨w.heap.size, 2, none⟩ (.slice ia jn ic))) := by
                have ho7 : Only (fun y => y = w.heap.size) w6 (((w6.setCell ⟨w.heap.size, 0, none⟩ (.slice ka kn kc)).setCell ⟨w.heap.size, 1, none⟩ (.slice va vn vc)).setCell ⟨w.heap.size, 2, none⟩ (.slice ia jn ic)) :=
                  ((only_set (R := fun y => y = w.heap.size) rfl _).trans (only_set (R := fun y => y = w.heap.size) rfl _)).trans (only_set (R := fun y => y = w.heap.size) rfl _)
                refine ⟨HON.out.then ho7 (fun i hi e => by omega), .inr ⟨ka, kn, kc, va, vn, vc, ia, jn, ic, p, rfl, HPO6.out.to ho7 (fun y hy e => by have := HLO.out y hy; have := HW1.out; omega), fun y hy => by have := HLO.out y hy; have := HW1.out; omega, HPR.out⟩⟩
              clear hq HS R3 HEQ P6 HPO6
              go_wp2
              refine bodyPost_ret (results_pg (x := .slice ka kn kc) (y := .slice va vn vc) (z := .slice ia jn ic) rfl _ _ _ rfl (by go_simp) (by go_simp) (by go_simp)) rfl ?_
              exact HQ.out
            · have HNO : Hid (prd zs = none) := by
                show prd zs = none
                cases hp : prd zs with
                | none => rfl
                | some p0 =>
                  have h1 := (prd_iff zs p0).1 hp
                  rw [← HEQ.out p0 h1, HS.out] at h1
                  exact (hq (Option.some.inj h1)).elim
              rw [decide_eq_false hq]
              clear hq HS R3 HEQ
              go_wp2_with fail
              refine (giveUp_any R _ P6.out.rs.er).mono ?_
              rintro e w7 ⟨⟨t, x, rfl⟩, rfl⟩
              go_wp2
              exact ⟨rfl, HON.out, .inl ⟨⟨t, x, rfl⟩, HNO.out⟩⟩
      · have HNO := hid (HPRN.out (by omega))
        have HON := hid P3.out.on
        generalize zAt zs 0 = z0 at *
        have z1 : (z0 == 76) = false := by simp [z76]
        have z2 : (z0 == 66) = false := by simp [z66]
        go_wp2_with fail
        refine (giveUp_any R _ P3.out.rs.er).mono ?_
        rintro e w2 ⟨⟨t, x, rfl⟩, rfl⟩
        go_wp2
        exact ⟨rfl, HON.out, .inl ⟨⟨t, x, rfl⟩, HNO.out⟩⟩
  · have h512' : ((n : Int) != 512) = true := by simp; omega
    have HPR : Hid (prd zs = none) := by
      show prd zs = none
      rw [prd, if_neg]
      rintro ⟨h, _⟩
      have := HN.out
      omega
    have HON : Hid (Only (fun y => y = R) w (w.alloc (.cells #[.slice none 0 0, .slice none 0 0, .slice none 0 0] 30))) := only_of_below B1.out _
    go_enter Tryd.func48, Tryd.ntmps48
    go_wp2_with fail
    refine (giveUp_any R _ R1.out.er).mono ?_
    rintro e w2 ⟨⟨t, x, rfl⟩, rfl⟩
    go_wp2
    exact ⟨rfl, HON.out, .inl ⟨⟨t, x, rfl⟩, HPR.out⟩⟩
end Go.Proofs.YtpgogpphobafoaaDoor
/-
  PageRead of the program: the reader gives up by a panic that is recovered at the face.
-/
namespace Go.Proofs.YtpgogpphobafoaaDoor
open Go.RowKit
set_option maxHeartbeats 2000000 in
theorem catch_gave (P O : Nat) {x y z b : Value} (t : TypeId) (pv : Value) (older : List PanicEntry) (w : World) (k : Bk w P 30 [x, y, z]) (ko : Bk w O 4 [b]) (hne : ¬ P = O) :
    CallsD Tryd.prog 47 #[.pointer (some ⟨P, 0, none⟩), .pointer (some ⟨O, 0, none⟩)] (.panicking ({ v := .iface t pv, recovered := false } :: older)) w fun e u' w' =>
      e = .returned (.tuple #[]) ∧ u' = .panicking ({ v := .iface t pv, recovered := true } :: older) ∧ w' = (((w.setCell ⟨P, 0, none⟩ (.slice none 0 0)).setCell ⟨P, 1, none⟩ (.slice none 0 0)).setCell ⟨P, 2, none⟩ (.slice none 0 0)).setCell ⟨O, 0, none⟩ (.bool false) := by
  have c0 := k.cell (j := 0) rfl
  have c1 := k.cell (j := 1) rfl
  have c2 := k.cell (j := 2) rfl
  have f0 := k.free 0
  have f1 := k.free 1
  have f2 := k.free 2
  have o0 := ko.cell (j := 0) rfl
  have g0 := ko.free 0
  refine callsD_of_wpS Tryd.func47 rfl fun c₀ cs hu => ?_
  apply wpS_seq
  apply wpS_region
  simp [wpOpsS, go_sem, recoverD, hu, Tryd.ntmps47, Exit.thenS]
  refine wpS_cond (t := true) (by simp [Act.eval, Array.replicate]) ?_
  simp only [if_true]
  apply wpS_region
  simp [wpOpsS, go_sem, c0, c1, c2, f0, f1, f2, o0, g0, bodyPostS, results, Tryd.results47]
set_option maxHeartbeats 2000000 in
theorem catch_none (P O : Nat) (w : World) :
    CallsD Tryd.prog 47 #[.pointer (some ⟨P, 0, none⟩), .pointer (some ⟨O, 0, none⟩)] .returning w fun e u' w' => e = .returned (.tuple #[]) ∧ u' = .returning ∧ w' = w := by
  refine callsD_of_wpS Tryd.func47 rfl fun c₀ cs hu => ?_
  apply wpS_seq
  apply wpS_region
  simp [wpOpsS, go_sem, recoverD, hu, Tryd.ntmps47, Exit.thenS]
  refine wpS_cond (t := false) (by simp [Act.eval, Array.replicate]) ?_
  simp only [Bool.false_eq_true, if_false]
  refine wpS_of_wp (wp_skip ?_)
  cases c₀
  simp_all [bodyPostS, results, Tryd.results47]
/-- What PageRead answers, its rows its own and apart. -/
def IrPost (o : Option PG) (w : World) (e : Ending) (w' : World) : Prop := Below w.heap.size w w' ∧ ((o = none ∧ e = .returned (.tuple #[.agg #[.slice none 0 0, .slice none 0 0, .slice none 0 0], .bool false])) ∨ ∃ (p : PG) (ka : Option Addr) (kn kc : Nat) (va : Option Addr) (vn vc : Nat) (ia : Option Addr) (jn ic : Nat), o = some p ∧ e = .returned (.tuple #[.agg #[.slice ka kn kc, .slice va vn vc, .slice ia jn ic], .bool true]) ∧ PO w' (.slice ka kn kc) (.slice va vn vc) (.slice ia jn ic) p ∧ ∀ y, pbl (.slice ka kn kc) (.slice va vn vc) (.slice ia jn ic) y → w.heap.size ≤ y)
theorem results_pgb {fn : Func} {p u : Tmp} (h : fn.results = #[.cell p 30, .cell u 4]) (tmps : Array Value) (w : World) (g o : Nat) {x y z b : Value} (hp : tmps.getD p undef = .pointer (some ⟨g, 0, none⟩)) (hb : tmps.getD u undef = .pointer (some ⟨o, 0, none⟩))
    (c0 : w.cell? ⟨g, 0, none⟩ = some x) (c1 : w.cell? ⟨g, 1, none⟩ = some y) (c2 : w.cell? ⟨g, 2, none⟩ = some z) (d0 : w.cell? ⟨o, 0, none⟩ = some b) : (results fn tmps).run Tryd.prog w = .ok (.tuple #[.agg #[x, y, z], b]) w := by
  have hp' : tmps[p]?.getD undef = .pointer (some ⟨g, 0, none⟩) := by simpa using hp
  have hb' : tmps[u]?.getD undef = .pointer (some ⟨o, 0, none⟩) := by simpa using hb
  have hl : (loadVar 30 ⟨g, 0, none⟩).run Tryd.prog w = .ok (.agg #[x, y, z]) w := by go_simp
  have hl2 : (loadVar 4 ⟨o, 0, none⟩).run Tryd.prog w = .ok b w := by go_simp
  simp [results, h, hp', hb', asAddr, hl, hl2, Result.andThen]
set_option maxHeartbeats 4000000 in
set_option maxRecDepth 20000 in
theorem implPageRead_any (a : Option Addr) (n c : Nat) (zs : List Int) (w : World) (h : Rd w a n c zs) (he : Err w 1) (he2 : Err w 0) (he3 : Err w 3) :
    Calls Tryd.prog 18 #[.slice a n c] w fun e w' => IrPost (prd zs) w e w' := by
  have hmf : ∀ (fn : Fn) (first cap : Array Value) (w : World), (Instr.makeFunc fn first cap).run Tryd.prog w = .ok (.func fn first cap) w := fun _ _ _ _ => rfl
  have hb1 := below_new (o := .cells #[.slice none 0 0, .slice none 0 0, .slice none 0 0] 30) (w := w) (Below.refl _ _)
  have hb2 := below_new (o := .cells #[.bool false] 4) (w := w.alloc (.cells #[.slice none 0 0, .slice none 0 0, .slice none 0 0] 30)) (Below.refl _ _)
  have hb3 := below_new (o := .cells #[.slice a n c, .int .i64 0] 70) (w := (w.alloc (.cells #[.slice none 0 0, .slice none 0 0, .slice none 0 0] 30)).alloc (.cells #[.bool false] 4)) (Below.refl _ _)
  have hb := btw (btw hb1 hb2) hb3
  have KP : Hid (Bk (((w.alloc (.cells #[.slice none 0 0, .slice none 0 0, .slice none 0 0] 30)).alloc (.cells #[.bool false] 4)).alloc (.cells #[.slice a n c, .int .i64 0] 70)) w.heap.size 30 [.slice none 0 0, .slice none 0 0, .slice none 0 0]) := ((Bk.new w 30 [.slice none 0 0, .slice none 0 0, .slice none 0 0]).below hb2).below hb3
  have KO : Hid (Bk (((w.alloc (.cells #[.slice none 0 0, .slice none 0 0, .slice none 0 0] 30)).alloc (.cells #[.bool false] 4)).alloc (.cells #[.slice a n c, .int .i64 0] 70)) (w.heap.size + 1) 4 [.bool false]) := by
    have k := Bk.new (w.alloc (.cells #[.slice none 0 0, .slice none 0 0, .slice none 0 0] 30)) 4 [.bool false]
    have k2 : Bk ((w.alloc (.cells #[.slice none 0 0, .slice none 0 0, .slice none 0 0] 30)).alloc (.cells #[.bool false] 4)) (w.heap.size + 1) 4 [.bool false] := by simpa using k
    exact k2.below hb3
  have KR : Bk (((w.alloc (.cells #[.slice none 0 0, .slice none 0 0, .slice none 0 0] 30)).alloc (.cells #[.bool false] 4)).alloc (.cells #[.slice a n c, .int .i64 0] 70)) (w.heap.size + 2) 70 [.slice a n c, .int .i64 0] := by
    have k := Bk.new ((w.alloc (.cells #[.slice none 0 0, .slice none 0 0, .slice none 0 0] 30)).alloc (.cells #[.bool false] 4)) 70 [.slice a n c, .int .i64 0]
    simpa [Nat.add_assoc] using k
  have RS : Hid (Rs (((w.alloc (.cells #[.slice none 0 0, .slice none 0 0, .slice none 0 0] 30)).alloc (.cells #[.bool false] 4)).alloc (.cells #[.slice a n c, .int .i64 0] 70)) (w.heap.size + 2) a n c zs 0) :=
    ⟨KR, h.kept hb, fun x hx hp => by have := h.lt x hx hp; omega, he3.below hb he3.lt, by have := he3.lt; omega⟩
  have E1 := hid (he.below hb he.lt)
  have E2 := hid (he2.below hb he2.lt)
  have L1 : Hid (1 < w.heap.size + 2) := by have := he.lt; show _ < _; omega
  have L2 : Hid (0 < w.heap.size + 2) := by have := he2.lt; show _ < _; omega
  have HB := hid hb
  have HPG := hid (rpage_any (w.heap.size + 2) a n c zs _ RS.out E1.out E2.out L1.out L2.out)
  clear h he he2 he3 hb1 hb2 hb3 hb KR
  go_enter_defers Tryd.func18, Tryd.ntmps18
  go_wp2_with fail
  refine HPG.out.mono ?_
  generalize ((w.alloc (.cells #[.slice none 0 0, .slice none 0 0, .slice none 0 0] 30)).alloc (.cells #[.bool false] 4)).alloc (.cells #[.slice a n c, .int .i64 0] 70) = U at *
  rintro e w1 ⟨ho, hcase⟩
  have KP1 := hid (KP.out.to ho (fun e => by omega))
  have KO1 := hid (KO.out.to ho (fun e => by omega))
  have B1 : Hid (Below w.heap.size w w1) := HB.out.trans (ho.below HB.out.size (fun b hb e => by omega))
  have HU : Hid (w.heap.size ≤ U.heap.size) := HB.out.size
  have HUU : Hid (w.heap.size + 1 < U.heap.size) := KO.out.lt
  clear ho KP KO RS E1 E2 HB HPG
  rcases hcase with ⟨⟨t, x, rfl⟩, hno⟩ | ⟨ka, kn, kc, va, vn, vc, ia, jn, ic, p, rfl, hpo, hlo, hpr⟩
  · have HNO := hid hno
    clear hno
    go_wp2
    refine leaves_cons (f := 47) (args := #[.pointer (some ⟨w.heap.size, 0, none⟩), .pointer (some ⟨w.heap.size + 1, 0, none⟩)]) (by simp) (by simp [go_sem]) ?_
    refine (catch_gave w.heap.size (w.heap.size + 1) t x [] _ KP1.out KO1.out (by omega)).mono ?_
    rintro e u' w2 ⟨rfl, rfl, hw2⟩
    have KP2 : Bk w2 w.heap.size 30 [.slice none 0 0, .slice none 0 0, .slice none 0 0] := by rw [hw2]; exact (((KP1.out.set 0 _).set 1 _).set 2 _).setOther (by omega) _ _
    have KO2 : Bk w2 (w.heap.size + 1) 4 [.bool false] := by rw [hw2]; exact (((KO1.out.setOther (by omega) _ _).setOther (by omega) _ _).setOther (by omega) _ _).set 0 _
    have B2 : Below w.heap.size w w2 := by rw [hw2]; exact (((B1.out.setCell (p := ⟨w.heap.size, 0, none⟩) (Nat.le_refl _) _).setCell (p := ⟨w.heap.size, 1, none⟩) (Nat.le_refl _) _).setCell (p := ⟨w.heap.size, 2, none⟩) (Nat.le_refl _) _).setCell (p := ⟨w.heap.size + 1, 0, none⟩) (Nat.le_succ _) _
    clear hw2
    simp only [settle]
    refine ⟨_, results_pgb (p := 2) (u := 3) Tryd.results18 _ w2 w.heap.size (w.heap.size + 1) rfl rfl (KP2.cell (j := 0) rfl) (KP2.cell (j := 1) rfl) (KP2.cell (j := 2) rfl) (KO2.cell (j := 0) rfl), ?_⟩
    exact ⟨B2, .inl ⟨HNO.out, rfl⟩⟩
  · have HPO := hid hpo
    have HLO := hid hlo
    have HPR := hid hpr
    clear hpo hlo hpr
    have c0 := KP1.out.cell (j := 0) rfl
    have c1 := KP1.out.cell (j := 1) rfl
    have c2 := KP1.out.cell (j := 2) rfl
    have f0 := KP1.out.free 0
    have f1 := KP1.out.free 1
    have f2 := KP1.out.free 2
    have o0 := KO1.out.cell (j := 0) rfl
    have g0 := KO1.out.free 0
    go_wp2
    refine leaves_cons (f := 47) (args := #[.pointer (some ⟨w.heap.size, 0, none⟩), .pointer (some ⟨w.heap.size + 1, 0, none⟩)]) (by simp) (by simp [go_sem]) ?_
    refine (catch_none w.heap.size (w.heap.size + 1) _).mono ?_
    rintro e u' w2 ⟨rfl, rfl, hw2⟩
    have KP2 : Bk w2 w.heap.size 30 [.slice ka kn kc, .slice va vn vc, .slice ia jn ic] := by rw [hw2]; exact (((KP1.out.set 0 _).set 1 _).set 2 _).setOther (by omega) _ _
    have KO2 : Bk w2 (w.heap.size + 1) 4 [.bool true] := by rw [hw2]; exact (((KO1.out.setOther (by omega) _ _).setOther (by omega) _ _).setOther (by omega) _ _).set 0 _
    have B2 : Below w.heap.size w w2 := by rw [hw2]; exact (((B1.out.setCell (p := ⟨w.heap.size, 0, none⟩) (Nat.le_refl _) _).setCell (p := ⟨w.heap.size, 1, none⟩) (Nat.le_refl _) _).setCell (p := ⟨w.heap.size, 2, none⟩) (Nat.le_refl _) _).setCell (p := ⟨w.heap.size + 1, 0, none⟩) (Nat.le_succ _) _
    have O2 : Only (fun y => y = w.heap.size ∨ y = w.heap.size + 1) w1 w2 := by
      rw [hw2]
      exact (((only_set (R := fun y => y = w.heap.size ∨ y = w.heap.size + 1) (.inl rfl) _).trans (only_set (R := fun y => y = w.heap.size ∨ y = w.heap.size + 1) (.inl rfl) _)).trans (only_set (R := fun y => y = w.heap.size ∨ y = w.heap.size + 1) (.inl rfl) _)).trans (only_set (R := fun y => y = w.heap.size ∨ y = w.heap.size + 1) (.inr rfl) _)
    clear hw2
    simp only [Leaves, settle]
    refine ⟨_, results_pgb (p := 2) (u := 3) Tryd.results18 _ w2 w.heap.size (w.heap.size + 1) rfl rfl (KP2.cell (j := 0) rfl) (KP2.cell (j := 1) rfl) (KP2.cell (j := 2) rfl) (KO2.cell (j := 0) rfl), ?_⟩
    refine ⟨B2, .inr ⟨p, ka, kn, kc, va, vn, vc, ia, jn, ic, HPR.out, rfl, HPO.out.to O2 (fun y hy e => by have := HLO.out y hy; have := HUU.out; omega), fun y hy => by have := HLO.out y hy; have := HU.out; omega⟩⟩
end Go.Proofs.YtpgogpphobafoaaDoor
/-
  The law FnExactPageOk answers true at every page; what the laws over pages keep at hand.
-/
namespace Go.Proofs.YtpgogpphobafoaaDoor
open Go.RowKit
/-- The law's own page, in its box and with its rows below. -/
structure PX (w v : World) (ka : Option Addr) (kn kc : Nat) (va : Option Addr) (vn vc : Nat) (ia : Option Addr) (jn ic : Nat) (p : PG) : Prop where
  bel : Below w.heap.size w v
  kA : Bk v w.heap.size 25 [.slice ka kn kc, .slice va vn vc, .slice ia jn ic]
  hA : Pgr v (fun b => b < w.heap.size) ka kn kc va vn vc ia jn ic p
theorem PX.below {w v v' : World} {ka : Option Addr} {kn kc : Nat} {va : Option Addr} {vn vc : Nat} {ia : Option Addr} {jn ic : Nat} {p : PG} (h : PX w v ka kn kc va vn vc ia jn ic p) (hb : Below v.heap.size v v') : PX w v' ka kn kc va vn vc ia jn ic p := ⟨btw h.bel hb, h.kA.below hb, h.hA.below hb⟩
theorem PX.only {w v v' : World} {ka : Option Addr} {kn kc : Nat} {va : Option Addr} {vn vc : Nat} {ia : Option Addr} {jn ic : Nat} {p : PG} (h : PX w v ka kn kc va vn vc ia jn ic p) {R : Nat → Prop} (ho : Only R v v') (hR : ∀ b, R b → w.heap.size < b) : PX w v' ka kn kc va vn vc ia jn ic p :=
  ⟨h.bel.trans (ho.below h.bel.size (fun b hb hr => by have := hR b hr; omega)), h.kA.to ho (fun hr => by have := hR _ hr; omega), h.hA.to ho (fun b hb _ hr => by have := hR b hr; omega)⟩
theorem PX.start {w : World} {ka : Option Addr} {kn kc : Nat} {va : Option Addr} {vn vc : Nat} {ia : Option Addr} {jn ic : Nat} {p : PG} (h : Pgr w (fun _ => True) ka kn kc va vn vc ia jn ic p) : PX w (w.alloc (.cells #[.slice ka kn kc, .slice va vn vc, .slice ia jn ic] 25)) ka kn kc va vn vc ia jn ic p := by
  have hb := below_new (o := .cells #[.slice ka kn kc, .slice va vn vc, .slice ia jn ic] 25) (w := w) (Below.refl _ _)
  have hm : Pgr w (fun b => b < w.heap.size) ka kn kc va vn vc ia jn ic p := ⟨Rw.mono h.hk (fun b _ hb => hb), Rw.mono h.hv (fun b _ hb => hb), Rw.mono h.hi (fun b _ hb => hb)⟩
  exact ⟨hb, Bk.new w _ [_, _, _], hm.below hb⟩
theorem PX.cells {w v : World} {ka : Option Addr} {kn kc : Nat} {va : Option Addr} {vn vc : Nat} {ia : Option Addr} {jn ic : Nat} {p : PG} (h : PX w v ka kn kc va vn vc ia jn ic p) : v.cell? ⟨w.heap.size, 0, none⟩ = some (.slice ka kn kc) ∧ v.cell? ⟨w.heap.size, 1, none⟩ = some (.slice va vn vc) ∧ v.cell? ⟨w.heap.size, 2, none⟩ = some (.slice ia jn ic) := ⟨h.kA.cell (j := 0) rfl, h.kA.cell (j := 1) rfl, h.kA.cell (j := 2) rfl⟩
/-- A copy of the page, its rows in blocks of their own. -/
structure PC (v : World) (g0 g1 g2 : Nat) (p : PG) : Prop where
  k0 : Bk v g0 9 (p.keys.map Value.string)
  k1 : Bk v g1 9 (p.vals.map Value.string)
  k2 : Bk v g2 3 (p.kids.map (Value.int .i64))
theorem PC.below {v v' : World} {g0 g1 g2 : Nat} {p : PG} (h : PC v g0 g1 g2 p) (hb : Below v.heap.size v v') : PC v' g0 g1 g2 p := ⟨h.k0.below hb, h.k1.below hb, h.k2.below hb⟩
theorem PC.to {v v' : World} {g0 g1 g2 : Nat} {p : PG} {R : Nat → Prop} (h : PC v g0 g1 g2 p) (ho : Only R v v') (h0 : ¬ R g0) (h1 : ¬ R g1) (h2 : ¬ R g2) : PC v' g0 g1 g2 p := ⟨h.k0.to ho h0, h.k1.to ho h1, h.k2.to ho h2⟩
theorem PC.pgr {v : World} {g0 g1 g2 kn vn jn : Nat} {p : PG} (h : PC v g0 g1 g2 p) (nk : kn = p.keys.length) (nv : vn = p.vals.length) (ni : jn = p.kids.length) (b0 : kn ≤ 1048576) (b1 : vn ≤ 1048576) (b2 : jn ≤ 1048576) {S : Nat → Prop} (s0 : S g0) (s1 : S g1) (s2 : S g2) :
    Pgr v S (some ⟨g0, 0, none⟩) kn kn (some ⟨g1, 0, none⟩) vn vn (some ⟨g2, 0, none⟩) jn jn p := by
  subst nk nv ni
  exact ⟨h.k0.rw (Nat.le_refl _) (by omega) (fun e => by rw [List.eq_nil_of_length_eq_zero e]; rfl) S s0, h.k1.rw (Nat.le_refl _) (by omega) (fun e => by rw [List.eq_nil_of_length_eq_zero e]; rfl) S s1, h.k2.rw (Nat.le_refl _) (by omega) (fun e => by rw [List.eq_nil_of_length_eq_zero e]; rfl) S s2⟩
end Go.Proofs.YtpgogpphobafoaaDoor
/-
  MetaRead of the program.
-/
namespace Go.Proofs.YtpgogpphobafoaaDoor
open Go.RowKit
set_option maxHeartbeats 4000000 in
set_option maxRecDepth 20000 in
theorem implMetaRead_any (a : Option Addr) (n c : Nat) (zs : List Int) (w : World) (h : Rd w a n c zs) (he : Err w 1) (he2 : Err w 0) :
    Calls Tryd.prog 24 #[.slice a n c] w fun e w' => MrPost (mrd zs) w e w' := by
  have hzl : n = zs.length := h.1
  have HR := hid h
  have HE := hid he
  have HE2 := hid he2
  have K0 := hid (Bk.new w 44 [.int .i64 0, .int .i64 0])
  have B0 := hid (below_new (o := .cells #[.int .i64 0, .int .i64 0] 44) (w := w) (Below.refl _ _))
  clear he he2
  by_cases h512 : n = 512
  · subst h512
    have HZL : Hid (zs.length = 512) := hzl.symm
    obtain ⟨b, off, rfl, hbl, -⟩ := h.2.2.2.2.2 (by omega)
    have hcc := h.2.1
    have hcm := h.2.2.1
    have hc1 : ¬ c = 1 := by omega
    have hc6 : ¬ c = 6 := by omega
    have F1 : Hid (∀ v, Below w.heap.size w v → Calls Tryd.prog 57 #[.slice (some ⟨b, off + 1, none⟩) 5 (c - 1)] v fun e w' => e = .returned (.int .i64 (mcd zs).1) ∧ v = w') := by
      intro v hb
      have := fromHighFirst_any _ 5 (c - 1) _ v ((HR.out.kept hb).cut 1 5 (by omega)) (by omega)
      rw [hiF_acc zs HZL.out 5 (by omega)] at this
      exact this
    have F2 : Hid (∀ v, Below w.heap.size w v → Calls Tryd.prog 57 #[.slice (some ⟨b, off + 6, none⟩) 2 (c - 6)] v fun e w' => e = .returned (.int .i64 (mcd zs).2) ∧ v = w') := by
      intro v hb
      have := fromHighFirst_any _ 2 (c - 6) _ v ((HR.out.kept hb).cut 6 2 (by omega)) (by omega)
      rw [hiF_root zs HZL.out] at this
      exact this
    have HM : Hid (mrd zs = if mtBytes (mcd zs).1 (mcd zs).2 = some zs then some (mcd zs) else none) := by
      show _ = _
      rw [mrd]
      by_cases q : mtBytes (mcd zs).1 (mcd zs).2 = some zs
      · rw [if_pos ⟨HZL.out, q⟩, if_pos q]
      · rw [if_neg (fun h => q h.2), if_neg q]
    have HMP : Hid (mcd zs = ((mcd zs).1, (mcd zs).2)) := rfl
    generalize (mcd zs).1 = mg at *
    generalize (mcd zs).2 = mr at *
    clear hbl hzl h
    go_enter Tryd.func24, Tryd.ntmps24
    go_wp2_with fail
    generalize w.alloc (.cells #[.int .i64 0, .int .i64 0] 44) = U at *
    have FD : Hid (Below w.heap.size w U.drew) := btw B0.out (below_drew _)
    have FA : Hid (∀ o, Below w.heap.size w (U.alloc o).drew) := fun o => btw B0.out ((below_new (Below.refl _ _)).trans ((below_drew _).mono (by simp)))
    have H1 := hid (F1.out _ FD.out)
    have H2 := hid (F2.out _ FD.out)
    have H3 := hid (F1.out _ (FA.out (.cells #[.int .i64 0, .int .i64 0] 44)))
    have H4 := hid (F2.out _ (FA.out (.cells #[.int .i64 0, .int .i64 0] 44)))
    have hw8 : IntKind.i64.wrap 8 = 8 := by simp [IntKind.wrap, IntKind.signed, IntKind.bits]
    go_cut [5] (fun x v => x = .pointer (some ⟨U.heap.size, 0, none⟩) ∧ v = (U.alloc (.cells #[.int .i64 mg, .int .i64 mr] 44)).drew)
    case first =>
      go_region_with (first
        | (go_at_call 57; with_reducible refine H1.out.mono ?_; rintro e w1 ⟨rfl, rfl⟩)
        | (go_at_call 57; with_reducible refine H3.out.mono ?_; rintro e w1 ⟨rfl, rfl⟩)
        | (go_at_call 57; with_reducible refine H4.out.mono ?_; rintro e w1 ⟨rfl, rfl⟩)
        | (go_at_call 57; with_reducible refine H2.out.mono ?_; rintro e w1 ⟨rfl, rfl⟩))
      all_goals (go_wp2_with fail; go_meet)
      all_goals exact ⟨rfl, rfl⟩
    case rest =>
      obtain ⟨rfl, rfl⟩ := hcut
      have BV : Hid (Below w.heap.size w (U.alloc (.cells #[.int .i64 mg, .int .i64 mr] 44)).drew) := FA.out _
      have KV : Hid (Bk (U.alloc (.cells #[.int .i64 mg, .int .i64 mr] 44)).drew U.heap.size 44 [.int .i64 mg, .int .i64 mr]) := (Bk.new U 44 [.int .i64 mg, .int .i64 mr]).below (below_drew _)
      have RV : Hid (Bk (U.alloc (.cells #[.int .i64 mg, .int .i64 mr] 44)).drew w.heap.size 44 [.int .i64 0, .int .i64 0]) := (K0.out.alloc _).below (below_drew _)
      have hne : ¬ w.heap.size = U.heap.size := by have := K0.out.lt; omega
      have hne' : ¬ U.heap.size = w.heap.size := fun e => hne e.symm
      generalize (U.alloc (.cells #[.int .i64 mg, .int .i64 mr] 44)).drew = V at *
      generalize U.heap.size = x at *
      generalize hy : w.heap.size = y at hne hne' RV ⊢
      have HY := hid hy
      clear hy F1 F2 K0 B0 FD FA H1 H2 H3 H4
      have c0 := KV.out.cell (j := 0) rfl
      have c1 := KV.out.cell (j := 1) rfl
      go_wp2_with fail
      refine (implMetaBytes_any mg mr V (HE.out.below BV.out HE.out.lt) (HE2.out.below BV.out HE2.out.lt)).mono ?_
      intro e w2 hput
      have B2 := hid (btw BV.out hput.1)
      have K2 := hid (KV.out.below hput.1)
      have R2 := hid (RV.out.below hput.1)
      have d0 := K2.out.cell (j := 0) rfl
      have d1 := K2.out.cell (j := 1) rfl
      have r0 := R2.out.cell (j := 0) rfl
      have r1 := R2.out.cell (j := 1) rfl
      have rf0 := R2.out.free 0
      have rf1 := R2.out.free 1
      have BF : Hid (∀ p q, Below w.heap.size w ((w2.setCell ⟨y, 0, none⟩ p).setCell ⟨y, 1, none⟩ q)) := by
        intro p q
        exact (B2.out.setCell (p := ⟨y, 0, none⟩) (Nat.le_of_eq HY.out) _).setCell (p := ⟨y, 1, none⟩) (Nat.le_of_eq HY.out) _
      rcases hput.2 with ⟨hn, rfl⟩ | ⟨v, out, hs, rfl, ho⟩
      · have HPR : Hid (mrd zs = none) := by show _ = _; rw [HM.out, if_neg]; rw [hn]; intro h; cases h
        clear hput c0 c1 KV RV BV HM hn
        go_wp2
        refine bodyPost_ret (results_mt2 (x := .int .i64 0) (y := .int .i64 0) rfl _ _ _ rfl rfl (by go_simp) (by go_simp)) rfl ?_
        exact ⟨by first | exact BF.out _ _ | exact B2.out, .inl ⟨HPR.out, rfl⟩⟩
      · have hout : out = mtFull mg mr ∧ mtOk mg mr = true := by
          unfold mtBytes at hs
          split at hs
          · rename_i hk; cases hs; exact ⟨rfl, hk⟩
          · cases hs
        obtain ⟨g0, g1, r0', r1'⟩ := mtOk_facts hout.2
        obtain ⟨a3, c3, rfl, hR3, -⟩ := ho.rd (byte_at (by rw [hout.1]; exact mtFull_byte r0' r1')) (by rw [hout.1, mtFull_len]; omega)
        have R3 := hid hR3
        have HS := hid hs
        clear hput c0 c1 KV RV BV ho hout hR3 hs g0 g1 r0' r1'
        generalize out.length = L at *
        go_wp2_with fail
        refine (bytesEqual_any _ _ _ _ _ _ _ _ _ R3.out (HR.out.kept B2.out)).mono ?_
        rintro e w3 ⟨rfl, rfl⟩
        by_cases hq : out = zs
        · have HPR : Hid (mrd zs = some (mg, mr)) := by show _ = _; rw [HM.out, if_pos (by rw [HS.out, hq]), HMP.out]
          rw [decide_eq_true hq]
          clear hq HM HMP HS R3
          go_wp2
          refine bodyPost_ret (results_mt2 (x := .int .i64 mg) (y := .int .i64 mr) rfl _ _ _ rfl rfl (by go_simp) (by go_simp)) rfl ?_
          exact ⟨BF.out _ _, .inr ⟨_, _, HPR.out, rfl⟩⟩
        · have HPR : Hid (mrd zs = none) := by show _ = _; rw [HM.out, if_neg]; rw [HS.out]; intro h; exact hq (Option.some.inj h)
          rw [decide_eq_false hq]
          clear hq HM HMP HS R3
          go_wp2
          refine bodyPost_ret (results_mt2 (x := .int .i64 0) (y := .int .i64 0) rfl _ _ _ rfl rfl (by go_simp) (by go_simp)) rfl ?_
          exact ⟨by first | exact BF.out _ _ | exact B2.out, .inl ⟨HPR.out, rfl⟩⟩
  · have h512' : ((n : Int) != 512) = true := by simp; omega
    have HPR : Hid (mrd zs = none) := by
      show mrd zs = none
      rw [mrd, if_neg]
      rintro ⟨h, _⟩
      omega
    clear HR K0 HE HE2 h hzl
    go_enter Tryd.func24, Tryd.ntmps24
    go_wp2
    refine bodyPost_ret (results_mt2 (x := .int .i64 0) (y := .int .i64 0) rfl _ _ _ rfl rfl (by go_simp) (by go_simp)) rfl ?_
    refine ⟨?_, .inl ⟨HPR.out, rfl⟩⟩
    exact B0.out
end Go.Proofs.YtpgogpphobafoaaDoor
/-
  What the law's helpers markByteS and heldByteS do: the one writes marks into every byte of a slice and nowhere else; the other finds them all.
-/
namespace Go.Proofs.YtpgogpphobafoaaDoor
open Go.RowKit

/-- The marks that are written from k on. -/
def marks (k : Int) (n : Nat) : List Int := (List.range n).map fun i : Nat => (k + (i : Int)) % 256
theorem marks_len (k : Int) (n : Nat) : (marks k n).length = n := by simp [marks]
theorem marks_at (k : Int) (n i : Nat) (h : i < n) : (marks k n)[i]?.getD 0 = (k + (i : Int)) % 256 := by simp [marks, h]
theorem marks_byte (k : Int) (n : Nat) : ∀ i : Nat, 0 ≤ (marks k n)[i]?.getD 0 ∧ (marks k n)[i]?.getD 0 ≤ 255 := by
  intro i
  by_cases h : i < n
  · rw [marks_at k n i h]; omega
  · rw [List.getElem?_eq_none (by rw [marks_len]; omega)]; simp

/-- The slice's cells may be written. -/
def Wb (w : World) (a : Option Addr) (n : Nat) : Prop := ∀ x, a = some x → ∀ i, i < n → w.frozen? ⟨x.block, x.off + i, none⟩ = false
theorem wb_new (w : World) (cs : Array Value) (t : TypeId) (n : Nat) : Wb (w.alloc (.cells cs t)) (some ⟨w.heap.size, 0, none⟩) n := by
  intro x hx i _
  cases hx
  exact World.frozen?_alloc_at (hn := rfl) ..
theorem Ob.wb {w : World} {B : Nat} {v : Value} {zs : List Int} (h : Ob w B v zs) {a : Option Addr} {n c : Nat} (hv : v = .slice a n c) (m : Nat) : Wb w a m := by
  intro x hx i _
  rcases h.2 with ⟨rfl, h0⟩ | ⟨g, cap, cur, rfl, hbg, hg, hnc, hcm, hcs, htake⟩
  · cases hv; cases hx
  · cases hv; cases hx
    simp [World.frozen?, hg]
theorem Wb.grown {w w' : World} {a : Option Addr} {n : Nat} {row : Option Nat} (h : Wb w a n) (hg : w.grownBy w' row) (hlt : ∀ x, a = some x → 0 < n → x.block < w.heap.size ∧ some x.block ≠ row) : Wb w' a n := by
  intro x hx i hi
  obtain ⟨h1, h2⟩ := hlt x hx (by omega)
  rw [World.frozen?_of_block (w := w) (a := ⟨x.block, x.off + i, none⟩) (hg.block x.block h1 h2)]
  exact h x hx i hi
theorem Wb.below {w w' : World} {B : Nat} {a : Option Addr} {n : Nat} (h : Wb w a n) (hB : Below B w w') (hlt : ∀ x, a = some x → 0 < n → x.block < B) : Wb w' a n := by
  intro x hx i hi
  rw [hB.frozen (p := ⟨x.block, x.off + i, none⟩) (hlt x hx (by omega))]
  exact h x hx i hi
theorem Rd.grown {w w' : World} {a : Option Addr} {n c : Nat} {zs : List Int} {row : Option Nat} (h : Rd w a n c zs) (hg : w.grownBy w' row) (hne : ∀ x, a = some x → some x.block ≠ row) : Rd w' a n c zs := by
  obtain ⟨h1, h2, h3, h30, h4, h5⟩ := h
  refine ⟨h1, h2, h3, h30, h4, fun hp => ?_⟩
  obtain ⟨b, off, rfl, hb, hc⟩ := h5 hp
  refine ⟨b, off, rfl, Nat.lt_of_lt_of_le hb hg.size, fun i hi => ?_⟩
  rw [World.cell?_of_block (w := w) (a := ⟨b, off + i, none⟩) (hg.block b hb (hne _ rfl))]
  exact hc i hi
theorem grownBy_refl (w : World) (row : Option Nat) : w.grownBy w row := ⟨rfl, rfl, rfl, Nat.le_refl _, fun _ _ _ => rfl⟩
theorem grownBy_setCell {w w' : World} {b : Nat} (h : w.grownBy w' (some b)) (o : Nat) (v : Value) : w.grownBy (w'.setCell ⟨b, o, none⟩ v) (some b) :=
  ⟨h.os, h.tape, h.output, by simp [World.setCell]; exact h.size, fun k hk hne => by rw [Below.heap_setCell _ _ _ _ (fun e => hne (by rw [e]))]; exact h.block k hk hne⟩

set_option maxHeartbeats 800000 in
theorem mark_any (a : Option Addr) (n c : Nat) (zs : List Int) (k : Int) (w : World) (h : Rd w a n c zs) (hw : Wb w a n) (hk0 : 0 ≤ k) (hk1 : k ≤ 1099511627776) :
    Calls Tryd.prog 14 #[.slice a n c, .int .i64 k] w fun e w' => e = .returned (.int .i64 (k + n)) ∧ Rd w' a n c (marks k n) ∧ w.grownBy w' (a.map (·.block)) := by
  obtain ⟨hn0, hc, hm, hnm, hb, hcell⟩ := h
  have HN : Hid (n = zs.length) := hn0
  have HW := hid hw
  clear hn0 hw hb
  rcases Nat.eq_zero_or_pos n with hz | hp
  · subst hz
    clear hcell
    go_enter Tryd.func14, Tryd.ntmps14
    go_wp2
    go_loop [1, 5] (fun s i => s = .int .i64 k ∧ i = .int .i64 0) (fun _ _ => 0)
    case atStart => exact ⟨rfl, rfl⟩
    case round =>
      obtain ⟨rfl, rfl⟩ := hrel
      go_wp2
      go_ret
      exact ⟨by simp, ⟨rfl, hc, hm, hnm, marks_byte k 0, fun h => by omega⟩, grownBy_refl _ _⟩
  · obtain ⟨b, off, rfl, hbw, hcell⟩ := hcell hp
    go_enter Tryd.func14, Tryd.ntmps14
    go_wp2
    go_loopw [1, 5] (fun s i wr => ∃ j : Nat, j ≤ n ∧ i = .int .i64 j ∧ s = .int .i64 (k + j) ∧ w.grownBy wr (some b) ∧ (∀ i, i < n → wr.frozen? ⟨b, off + i, none⟩ = false) ∧
      (∀ i, i < n → wr.cell? ⟨b, off + i, none⟩ = some (.int .u8 (if i < j then (k + (i : Int)) % 256 else zs[i]?.getD 0)))) (fun _ i _ => n - (intOf i).toNat)
    case atStart => exact ⟨0, Nat.zero_le _, rfl, by simp, grownBy_refl _ _, fun i hi => HW.out _ rfl i hi, fun i hi => by rw [hcell i hi]; simp⟩
    case round =>
      obtain ⟨j, hj, rfl, rfl, hgr, hfr, hcl⟩ := hrel
      clear hcell
      by_cases hlt : j < n
      · have hlt' : (j : Int) < (n : Int) := by omega
        have hcj := hcl j hlt
        have hfj := hfr j hlt
        have HC := hid hcl
        have HF := hid hfr
        have HG := hid hgr
        clear hcl hfr hgr
        rw [if_neg (Nat.lt_irrefl j)] at hcj
        have hwrap : IntKind.u8.wrap (k + (j : Int)) = (k + (j : Int)) % 256 := by simp [IntKind.wrap, IntKind.signed, IntKind.bits]
        go_wp2
        go_roundw
        case rel =>
          refine ⟨j + 1, by omega, by go_num, by go_num, grownBy_setCell HG.out _ _, fun i hi => by simpa using HF.out i hi, fun i hi => ?_⟩
          by_cases e : i = j
          · subst e
            rw [World.cell?_setCell_same _ _ _ hcj]
            simp
          · rw [World.cell?_setCell_other (h := by simp only [ne_eq, Addr.mk.injEq, not_and]; intro _ h; omega), HC.out i hi]
            by_cases e2 : i < j
            · rw [if_pos e2, if_pos (by omega)]
            · rw [if_neg e2, if_neg (by omega)]
        case measure => simp [intOf]; omega
      · have hlt' : ¬ (j : Int) < (n : Int) := by omega
        have hjn : j = n := by omega
        have HC := hid hcl
        have HG := hid hgr
        clear hcl hfr hgr
        subst hjn
        go_wp2
        go_ret
        refine ⟨rfl, ⟨(marks_len k j).symm, hc, hm, hnm, marks_byte k j, fun _ => ⟨b, off, rfl, Nat.lt_of_lt_of_le hbw HG.out.size, fun i hi => ?_⟩⟩, HG.out⟩
        rw [HC.out i hi, if_pos hi, marks_at k j i hi]

set_option maxHeartbeats 800000 in
theorem held_any (a : Option Addr) (n c : Nat) (k : Int) (w : World) (h : Rd w a n c (marks k n)) (hk0 : 0 ≤ k) (hk1 : k ≤ 1099511627776) :
    Calls Tryd.prog 15 #[.slice a n c, .int .i64 k] w fun e w' => e = .returned (.int .i64 (k + n)) ∧ w = w' := by
  obtain ⟨h1, hc, hm, hnm, hb, hcell⟩ := h
  clear hb h1
  go_enter Tryd.func15, Tryd.ntmps15
  go_wp2
  go_loop [1, 5] (fun s i => ∃ j : Nat, j ≤ n ∧ i = .int .i64 j ∧ s = .int .i64 (k + j)) (fun _ i => n - (intOf i).toNat)
  case atStart => exact ⟨0, Nat.zero_le _, rfl, by simp⟩
  case round =>
    obtain ⟨j, hj, rfl, rfl⟩ := hrel
    by_cases hlt : j < n
    · have hlt' : (j : Int) < (n : Int) := by omega
      obtain ⟨b, off, ha, hbw, hcell⟩ := hcell (by omega)
      have hcj := hcell j hlt
      rw [marks_at k n j hlt] at hcj
      clear hcell
      have hwrap : IntKind.u8.wrap (k + (j : Int)) = (k + (j : Int)) % 256 := by simp [IntKind.wrap, IntKind.signed, IntKind.bits]
      have hne : ((k + (j : Int)) % 256 != (k + (j : Int)) % 256) = false := by simp
      rw [ha]
      go_wp2
      go_round
      case rel => exact ⟨j + 1, by omega, by go_num, by go_num⟩
      case measure => simp [intOf]; omega
    · have hlt' : ¬ (j : Int) < (n : Int) := by omega
      have hjn : j = n := by omega
      subst hjn
      go_wp2
      go_ret
      exact ⟨rfl, rfl⟩
end Go.Proofs.YtpgogpphobafoaaDoor
/-
  The laws FnExactMetaOk, FnExactMetaBytes and FnExactMetaRead answer true at every argument.
-/
namespace Go.Proofs.YtpgogpphobafoaaDoor
open Go.RowKit
theorem results_mt1 {fn : Func} {p : Tmp} (h : fn.results = #[.cell p 44]) (tmps : Array Value) (w : World) (g : Nat) {x y : Value} (hp : tmps.getD p undef = .pointer (some ⟨g, 0, none⟩))
    (c0 : w.cell? ⟨g, 0, none⟩ = some x) (c1 : w.cell? ⟨g, 1, none⟩ = some y) : (results fn tmps).run Tryd.prog w = .ok (.agg #[x, y]) w := by
  have hp' : tmps[p]?.getD undef = .pointer (some ⟨g, 0, none⟩) := by simpa using hp
  have hl : (loadVar 44 ⟨g, 0, none⟩).run Tryd.prog w = .ok (.agg #[x, y]) w := by go_simp
  simp [results, h, hp', asAddr, hl]
set_option maxHeartbeats 800000 in
theorem toMeta_any (g r : Int) (w : World) : Calls Tryd.prog 21 #[.agg #[.int .i64 g, .int .i64 r]] w fun e w' => e = .returned (.agg #[.int .i64 g, .int .i64 r]) ∧ Below w.heap.size w w' := by
  go_enter Tryd.func21, Tryd.ntmps21
  go_wp2
  refine bodyPost_ret (results_mt1 (x := .int .i64 g) (y := .int .i64 r) rfl _ _ _ rfl (by go_simp) (by go_simp)) rfl ?_
  exact ⟨rfl, below_new (below_new (below_new (Below.refl _ _)))⟩
set_option maxHeartbeats 800000 in
theorem eqMeta_same (g r : Int) (w : World) : Calls Tryd.prog 25 #[.agg #[.int .i64 g, .int .i64 r], .agg #[.int .i64 g, .int .i64 r]] w fun e w' => e = .returned (.bool true) ∧ Below w.heap.size w w' := by
  have h1 : (g != g) = false := by simp
  have h2 : (r != r) = false := by simp
  go_enter Tryd.func25, Tryd.ntmps25
  go_wp2
  go_ret
  exact ⟨rfl, below_new (below_new (Below.refl _ _))⟩
theorem mt_facts (g r : Int) : (∀ i : Nat, 0 ≤ ((mtBytes g r).getD [])[i]?.getD 0 ∧ ((mtBytes g r).getD [])[i]?.getD 0 ≤ 255) ∧ ((mtBytes g r).getD []).length ≤ 4096 := by
  unfold mtBytes
  split
  · rename_i h
    obtain ⟨g0, g1, r0, r1⟩ := mtOk_facts h
    exact ⟨byte_at (mtFull_byte r0 r1), by rw [Option.getD_some, mtFull_len]; omega⟩
  · simp
/-- What a put leaves, in one form. -/
theorem Put.see {w w' : World} {r : Option (List Int)} {e : Ending} (h : Put w r e w') (hb : ∀ i : Nat, 0 ≤ (r.getD [])[i]?.getD 0 ∧ (r.getD [])[i]?.getD 0 ≤ 255) (hl : (r.getD []).length ≤ 4096) :
    ∃ a c, e = .returned (.tuple #[.slice a (r.getD []).length c, .bool r.isSome]) ∧ Rd w' a (r.getD []).length c (r.getD []) ∧ (∀ x, a = some x → w.heap.size ≤ x.block) ∧ Wb w' a (r.getD []).length ∧ Below w.heap.size w w' := by
  obtain ⟨hbel, ⟨rfl, rfl⟩ | ⟨v, zs, rfl, rfl, ho⟩⟩ := h
  · exact ⟨none, 0, rfl, ⟨rfl, by simp, by omega, by simp, by simp, fun h => by simp at h⟩, (fun x hx => by cases hx), (fun x hx => by cases hx), hbel⟩
  · simp only [Option.getD_some] at hb hl ⊢
    obtain ⟨a, c, rfl, hrd, hB⟩ := ho.rd hb (by omega)
    exact ⟨a, c, rfl, hrd, hB, ho.wb rfl _, hbel⟩
set_option maxHeartbeats 4000000 in
set_option maxRecDepth 20000 in
theorem lawMetaBytes_walk (g r : Int) (w : World) (_hg : (Lit.int .i64 g).wf = true ∧ (Lit.int .i64 r).wf = true) (he : Err w 1) (he2 : Err w 0) (_l1 : 1 < w.heap.size) (_l2 : 0 < w.heap.size) :
    Calls Tryd.prog 5 #[.agg #[.int .i64 g, .int .i64 r]] w fun e w' => e = .returned (.bool true) ∧ Below w.heap.size w w' := by
  have B0 := hid (below_new (o := .cells #[.int .i64 g, .int .i64 r] 42) (w := w) (Below.refl _ _))
  have K0 := hid (Bk.new w 42 [.int .i64 g, .int .i64 r])
  have HE := hid he
  have HE2 := hid he2
  clear he he2 _hg _l1 _l2
  have HS := hid (specMetaBytes_any g r)
  have HI := hid (implMetaBytes_any g r)
  have HF := hid (mt_facts g r)
  generalize mtBytes g r = o at HS HI HF
  have hbb : (o.isSome != o.isSome) = false := by simp
  have HL : Hid ((o.getD []).length ≤ 4096) := HF.out.2
  have HV : Hid (∀ (w w' : World) (e : Ending), Put w o e w' → ∃ a c, e = .returned (.tuple #[.slice a (o.getD []).length c, .bool o.isSome]) ∧ Rd w' a (o.getD []).length c (o.getD []) ∧ (∀ x, a = some x → w.heap.size ≤ x.block) ∧ Wb w' a (o.getD []).length ∧ Below w.heap.size w w') := fun w w' e h => h.see HF.out.1 HF.out.2
  generalize o.getD [] = out at *
  generalize o.isSome = bo at *
  generalize out.length = L at *
  clear HF
  go_enter Tryd.func5, Tryd.ntmps5
  go_wp2_with fail
  refine (toMeta_any g r _).mono ?_
  generalize w.alloc (.cells #[.int .i64 g, .int .i64 r] 42) = U at *
  rintro e w1 ⟨rfl, hb1⟩
  have B1 := hid (btw B0.out hb1)
  have K1 := hid (K0.out.below hb1)
  clear hb1 B0 K0
  go_wp2_with fail
  refine (HS.out w1).mono ?_
  intro e w2 hp
  obtain ⟨a0, c0, rfl, hr0, -, -, hb2⟩ := HV.out _ _ _ hp
  have RW := hid hr0
  have B2 := hid (btw B1.out hb2)
  have K2 := hid (K1.out.below hb2)
  clear hp hr0 hb2 B1 K1 HS
  have k0 := K2.out.cell (j := 0) rfl
  have k1 := K2.out.cell (j := 1) rfl
  go_wp2_with fail
  refine (toMeta_any g r _).mono ?_
  rintro e w3 ⟨rfl, hb3⟩
  have B3 := hid (btw B2.out hb3)
  have C3 := hid hb3
  have K3 := hid (K2.out.below hb3)
  have KL := hid K3.out.lt
  clear hb3 K2 k0 k1
  go_wp2_with fail
  refine (HI.out w3 (HE.out.below B3.out HE.out.lt) (HE2.out.below B3.out HE2.out.lt)).mono ?_
  intro e w4 hp
  obtain ⟨a1, c1, rfl, hr1, hB1, hwb1, hb4⟩ := HV.out _ _ _ hp
  have C4 := hid (btw C3.out hb4)
  have B4 := hid (btw B3.out hb4)
  have K4 := hid (K3.out.below hb4)
  have G4 := hid hr1
  have GB := hid hB1
  have GW := hid hwb1
  clear hp hr1 hB1 hwb1 hb4 K3
  go_wp2_with fail
  refine (eqByteS_same a1 a0 L L c1 c0 out _ G4.out (RW.out.kept C4.out)).mono ?_
  rintro e w5 ⟨rfl, q5, hw5⟩
  have E5 := hid (show Below w4.heap.size w4 w5 by rw [hw5]; exact Below.drewN' (Below.refl _ _) q5)
  clear hw5
  have C5 := hid (btw C4.out E5.out)
  have B5 := hid (btw B4.out E5.out)
  have K5 := hid (K4.out.below E5.out)
  have R5 := hid (G4.out.kept E5.out)
  have W5 := hid (GW.out.below E5.out G4.out.lt)
  clear C4 B4 K4 G4 GW E5
  -- marks in the answer
  have hl := HL.out
  go_wp2_with fail
  refine (mark_any a1 L c1 out 1 _ R5.out W5.out (by omega) (by omega)).mono ?_
  rintro e w6 ⟨rfl, hm6, hg6⟩
  have M6 := hid hm6
  have hrow : ∀ k, a1.map (·.block) = some k → w3.heap.size ≤ k := by
    intro k hk
    cases a1 with
    | none => cases hk
    | some x => simp at hk; rw [← hk]; exact GB.out x rfl
  have C6 := hid (C5.out.grown hg6 C5.out.size (fun k hk => by have := hrow k hk; have := C3.out.size; omega))
  have B6 := hid (B5.out.grown hg6 B5.out.size (fun k hk => by have := hrow k hk; have := B3.out.size; omega))
  have K6 : Hid (Bk w6 w.heap.size 42 [.int .i64 g, .int .i64 r]) := K5.out.to (only_of_grown hg6 (R := fun y => a1.map (·.block) = some y) (fun k e => e)) (fun e => by have := hrow _ e; have := B3.out.size; have := C3.out.size; have := B2.out.size; have := K5.out.lt; have := KL.out; omega)
  clear hm6 hg6 hrow C5 B5 K5 R5 W5
  go_wp2_with fail
  refine (held_any a1 L c1 1 _ M6.out (by omega) (by omega)).mono ?_
  rintro e w6' ⟨rfl, rfl⟩
  have hk2 : ¬ (1 + (L : Int)) < 0 := by omega
  have hk3 : ((1 + (L : Int)) != (1 + (L : Int))) = false := by simp
  -- once more
  have k0 := K6.out.cell (j := 0) rfl
  have k1 := K6.out.cell (j := 1) rfl
  go_wp2_with fail
  refine (toMeta_any g r _).mono ?_
  rintro e w7 ⟨rfl, hb7⟩
  have F7 := hid hb7
  have C7 := hid (btw C6.out hb7)
  have B7 := hid (btw B6.out hb7)
  clear hb7 k0 k1 K6
  go_wp2_with fail
  refine (HI.out w7 (HE.out.below B7.out HE.out.lt) (HE2.out.below B7.out HE2.out.lt)).mono ?_
  intro e w8 hp
  obtain ⟨a2, c2, rfl, hr2, -, -, hb8⟩ := HV.out _ _ _ hp
  have R8 := hid hr2
  have F8 := hid (btw F7.out hb8)
  have C8 := hid (btw C7.out hb8)
  have B8 := hid (btw B7.out hb8)
  clear hp hr2 hb8 F7 C7 B7
  go_wp2_with fail
  refine (eqByteS_same a2 a0 L L c2 c0 out _ R8.out (RW.out.kept C8.out)).mono ?_
  rintro e w9 ⟨rfl, q9, hw9⟩
  have F9 := hid (show Below w8.heap.size w8 w9 by rw [hw9]; exact Below.drewN' (Below.refl _ _) q9)
  clear hw9
  have K9 := hid (btw F8.out F9.out)
  have B9 := hid (btw B8.out F9.out)
  go_wp2_with fail
  refine (held_any a1 L c1 1 _ (M6.out.kept K9.out) (by omega) (by omega)).mono ?_
  rintro e w9' ⟨rfl, rfl⟩
  go_wp2
  go_ret
  exact ⟨rfl, B9.out⟩
theorem MrPost.see {zs : List Int} {w w' : World} {e : Ending} (h : MrPost (mrd zs) w e w') : ∃ g r : Int, ∃ b : Bool, (g = ((mrd zs).getD (0, 0)).1 ∧ r = ((mrd zs).getD (0, 0)).2 ∧ b = (mrd zs).isSome) ∧ e = .returned (.tuple #[.agg #[.int .i64 g, .int .i64 r], .bool b]) ∧ Below w.heap.size w w' := by
  obtain ⟨hb, ⟨h1, h2⟩ | ⟨g, r, h1, h2⟩⟩ := h
  · exact ⟨0, 0, false, by rw [h1]; exact ⟨rfl, rfl, rfl⟩, h2, hb⟩
  · exact ⟨g, r, true, by rw [h1]; exact ⟨rfl, rfl, rfl⟩, h2, hb⟩
set_option maxHeartbeats 4000000 in
set_option maxRecDepth 20000 in
theorem lawMetaRead_road (a : Option Addr) (n c : Nat) (zs : List Int) (w : World) (h : Rd w a n c zs) (hn : n ≤ 1048576) (he : Err w 1) (he2 : Err w 0) :
    Calls Tryd.prog 6 #[.slice a n c] w fun e w' => e = .returned (.bool true) ∧ Below w.heap.size w w' := by
  have HR := hid h
  have HE := hid he
  have HE2 := hid he2
  have HN : Hid (n = zs.length) := h.1
  have HB : Hid (∀ i : Nat, 0 ≤ zs[i]?.getD 0 ∧ zs[i]?.getD 0 ≤ 255) := h.2.2.2.2.1
  clear h he he2
  have NEW : Hid (∀ w : World, Rd (w.alloc (.cells (byteVals zs) 5)) (some ⟨w.heap.size, 0, none⟩) n n zs) := by
    intro w
    have := rd_new w zs (by rw [← HN.out]; omega) HB.out
    rw [← HN.out] at this; exact this
  have HO : Hid (∃ (g r : Int) (b : Bool), g = ((mrd zs).getD (0, 0)).1 ∧ r = ((mrd zs).getD (0, 0)).2 ∧ b = (mrd zs).isSome) := ⟨_, _, _, rfl, rfl, rfl⟩
  obtain ⟨g, r, b, eg, er, eb⟩ := HO.out
  have HV : Hid (∀ (w w' : World) (e : Ending), MrPost (mrd zs) w e w' → e = .returned (.tuple #[.agg #[.int .i64 g, .int .i64 r], .bool b]) ∧ Below w.heap.size w w') := by
    intro w w' e h
    obtain ⟨g', r', b', ⟨h1, h2, h3⟩, h4, h5⟩ := h.see
    rw [← eg] at h1
    rw [← er] at h2
    rw [← eb] at h3
    rw [← h1, ← h2, ← h3]
    exact ⟨h4, h5⟩
  clear HO eg er eb
  have hns : ¬ (1048576 : Int) < (n : Int) := by omega
  have hbb : (b != b) = false := by simp
  go_enter Tryd.func6, Tryd.ntmps6
  go_wp2_with fail
  refine (toByteS_any a n c zs _ HR.out).mono ?_
  rintro e w1 ⟨rfl, hw1⟩
  have B1 := hid (show Below w.heap.size w w1 by rw [hw1]; exact (Below.refl _ _).alloc (Nat.le_refl _) _)
  have R1 := hid (show Rd w1 (some ⟨w.heap.size, 0, none⟩) n n zs by rw [hw1]; exact NEW.out w)
  clear hw1
  go_wp2_with fail
  refine (specMetaRead_any _ n n zs w1 R1.out).mono ?_
  intro e w2 hp
  obtain ⟨rfl, hb2⟩ := HV.out _ _ _ hp
  have B2 := hid (btw B1.out hb2)
  clear hp hb2 B1 R1
  have hb3 := below_new (o := .cells #[.int .i64 g, .int .i64 r] 44) (w := w2) (Below.refl _ _)
  have K3 := hid (Bk.new w2 44 [.int .i64 g, .int .i64 r])
  have B3 := hid (btw B2.out hb3)
  clear hb3 B2
  go_wp2_with fail
  refine (toByteS_any a n c zs _ (HR.out.kept B3.out)).mono ?_
  generalize w2.alloc (.cells #[.int .i64 g, .int .i64 r] 44) = w3 at *
  generalize w2.heap.size = x2 at *
  rintro e w4 ⟨rfl, hw4⟩
  have hb4 : Below w3.heap.size w3 w4 := by rw [hw4]; exact (Below.refl _ _).alloc (Nat.le_refl _) _
  have X4 := hid (show Rd w4 (some ⟨w3.heap.size, 0, none⟩) n n zs by rw [hw4]; exact NEW.out w3)
  have K4 := hid (K3.out.below hb4)
  have B4 := hid (btw B3.out hb4)
  clear hw4 hb4 K3 B3
  generalize w3.heap.size = x3 at *
  go_wp2_with fail
  refine (implMetaRead_any _ n n zs w4 X4.out (HE.out.below B4.out HE.out.lt) (HE2.out.below B4.out HE2.out.lt)).mono ?_
  intro e w5 hp
  obtain ⟨rfl, hb5⟩ := HV.out _ _ _ hp
  have X5 := hid (X4.out.kept hb5)
  have K5 := hid (K4.out.below hb5)
  have B5 := hid (btw B4.out hb5)
  clear hp hb5 B4 K4 X4
  have hb6 := below_new (o := .cells #[.int .i64 g, .int .i64 r] 44) (w := w5) (Below.refl _ _)
  have G6 := hid (Bk.new w5 44 [.int .i64 g, .int .i64 r])
  have X6 := hid (X5.out.kept hb6)
  have K6 := hid (K5.out.below hb6)
  have B6 := hid (btw B5.out hb6)
  clear hb6 B5 K5 X5
  have k0 := K6.out.cell (j := 0) rfl
  have k1 := K6.out.cell (j := 1) rfl
  have g0 := G6.out.cell (j := 0) rfl
  have g1 := G6.out.cell (j := 1) rfl
  go_wp2_with fail
  refine (eqMeta_same g r _).mono ?_
  generalize w5.alloc (.cells #[.int .i64 g, .int .i64 r] 44) = w6 at *
  generalize w5.heap.size = x5 at *
  rintro e w7 ⟨rfl, hb7⟩
  have X7 := hid (X6.out.kept hb7)
  have B7 := hid (btw B6.out hb7)
  clear hb7 X6 B6 K6 G6 k0 k1 g0 g1
  go_wp2_with fail
  refine (toByteS_any a n c zs _ (HR.out.kept B7.out)).mono ?_
  rintro e w8 ⟨rfl, hw8⟩
  have hb8 : Below w7.heap.size w7 w8 := by rw [hw8]; exact (Below.refl _ _).alloc (Nat.le_refl _) _
  have Y8 := hid (show Rd w8 (some ⟨w7.heap.size, 0, none⟩) n n zs by rw [hw8]; exact NEW.out w7)
  have X8 := hid (X7.out.kept hb8)
  have B8 := hid (btw B7.out hb8)
  clear hw8 hb8 X7 B7
  go_wp2_with fail
  refine (eqByteS_same _ _ n n n n zs _ X8.out Y8.out).mono ?_
  rintro e w9 ⟨rfl, q9, hw9⟩
  have B9 := hid (show Below w.heap.size w w9 by rw [hw9]; exact Below.drewN' B8.out q9)
  clear hw9
  go_wp2
  go_ret
  exact ⟨rfl, B9.out⟩
theorem lawMetaRead_walk (a : Option Addr) (n c : Nat) (z0 : List Int) (w : World) (w0 : IsRow .u8 w a n c z0) (he : Err w 1) (he2 : Err w 0) (_l1 : 1 < w.heap.size) (_l2 : 0 < w.heap.size) :
    Calls Tryd.prog 6 #[.slice a n c] w fun e w' => e = .returned (.bool true) ∧ Below w.heap.size w w' := by
  by_cases hbig : 1048576 < n
  · have hb' : (1048576 : Int) < (n : Int) := by omega
    clear w0 he he2 _l1 _l2
    go_enter Tryd.func6, Tryd.ntmps6
    go_wp2
    go_ret
    exact ⟨rfl, Below.refl _ _⟩
  · exact lawMetaRead_road a n c _ w (rd_of_row w0 (by omega)) (by omega) he he2
end Go.Proofs.YtpgogpphobafoaaDoor
/-
  The law FnExactPageBytes answers true at every page.
-/
namespace Go.Proofs.YtpgogpphobafoaaDoor
open Go.RowKit
theorem Rd.to {w w' : World} {R : Nat → Prop} {a : Option Addr} {n c : Nat} {zs : List Int} (h : Rd w a n c zs) (ho : Only R w w') (hR : ∀ x, a = some x → ¬ R x.block) : Rd w' a n c zs := by
  obtain ⟨h1, h2, h3, h30, h4, h5⟩ := h
  refine ⟨h1, h2, h3, h30, h4, fun hp => ?_⟩
  obtain ⟨b, off, rfl, hb, hc⟩ := h5 hp
  refine ⟨b, off, rfl, Nat.lt_of_lt_of_le hb ho.size, fun i hi => ?_⟩
  rw [World.cell?_of_block (w := w) (a := ⟨b, off + i, none⟩) (ho.block b hb (hR _ rfl))]
  exact hc i hi
theorem Wb.to {w w' : World} {R : Nat → Prop} {a : Option Addr} {n : Nat} (h : Wb w a n) (ho : Only R w w') (hR : ∀ x, a = some x → 0 < n → x.block < w.heap.size ∧ ¬ R x.block) : Wb w' a n := by
  intro x hx i hi
  obtain ⟨h1, h2⟩ := hR x hx (by omega)
  rw [World.frozen?_of_block (w := w) (a := ⟨x.block, x.off + i, none⟩) (ho.block x.block h1 h2)]
  exact h x hx i hi
theorem kw_bk {w : World} {S : Nat → Prop} {g n : Nat} {T : TypeId} {xs : List Value} {K : Value → Prop} (h : Bk w g T xs) (hn : n = xs.length) (hb : n ≤ 1048576) (hx : ∀ u ∈ xs, K u) (hS : S g) : Kw w S (.slice (some ⟨g, 0, none⟩) n n) n n K := by
  have := kw_of (S := fun y => y = g) (S' := S) (h.rw (n := n) (c := n) (Nat.le_refl _) (by omega) (fun e => List.eq_nil_of_length_eq_zero (by omega)) (fun y => y = g) rfl) hx (fun b e _ => by subst e; exact ⟨hS, h.uf⟩)
  rwa [← hn] at this
theorem pg_facts (p : PG) : (∀ i : Nat, 0 ≤ ((pgBytes p).getD [])[i]?.getD 0 ∧ ((pgBytes p).getD [])[i]?.getD 0 ≤ 255) ∧ ((pgBytes p).getD []).length ≤ 4096 := by
  unfold pgBytes
  split
  · rename_i h
    have hF := pgOk_facts h
    have hl := pgRaw_len hF
    refine ⟨byte_at ?_, ?_⟩
    · rw [Option.getD_some, pgFull]
      exact byte_append (pgBody_byte hF _ (Nat.le_refl _)) (fun z hz => by have := List.eq_of_mem_replicate hz; omega)
    · rw [Option.getD_some, pgFull, List.length_append, List.length_replicate]
      omega
  · simp
set_option maxHeartbeats 8000000 in
set_option maxRecDepth 20000 in
theorem lawPageBytes_walk (ka : Option Addr) (kn kc : Nat) (va : Option Addr) (vn vc : Nat) (ia : Option Addr) (jn ic : Nat) (p : PG) (w : World) (h : Pgr w (fun _ => True) ka kn kc va vn vc ia jn ic p ∧ szOkS p.keys ∧ szOkS p.vals)
    (he : Err w 1) (_hn : Err w 2) (he2 : Err w 0) (_l1 : 1 < w.heap.size) (_l2 : 2 < w.heap.size) (_l3 : 0 < w.heap.size) :
    Calls Tryd.prog 3 #[.agg #[.slice ka kn kc, .slice va vn vc, .slice ia jn ic]] w fun e w' => e = .returned (.bool true) ∧ Below w.heap.size w w' := by
  have X0 := hid (PX.start h.1)
  have NK := hid (Rw.len h.1.hk).1
  have NV := hid (Rw.len h.1.hv).1
  have NI := hid (Rw.len h.1.hi).1
  have HZ := hid h.2
  have HE := hid he
  have HE2 := hid he2
  clear h he he2 _hn _l1 _l2 _l3
  go_enter Tryd.func3, Tryd.ntmps3
  go_wp2_with fail
  refine (szPage_any _ ka va ia kn kc vn vc jn ic p _ _ X0.out.hA.hk X0.out.hA.hv X0.out.hA.hi HZ.out.1 HZ.out.2 (by omega) (by omega)).mono ?_
  generalize w.alloc (.cells #[.slice ka kn kc, .slice va vn vc, .slice ia jn ic] 25) = U at *
  rintro e w1 ⟨⟨x, rfl, hx1, hx2, hx3⟩, hb⟩
  have X1 := hid (X0.out.below hb)
  have HX := hid hx3
  clear hb hx3 X0 HZ
  by_cases hneg : x < 0
  · go_wp2
    go_ret
    exact ⟨rfl, X1.out.bel⟩
  · have m0 := (HX.out (by omega)).1
    have m1 := (HX.out (by omega)).2.1
    have m2 := (HX.out (by omega)).2.2
    clear HX
    have HS : Hid (∀ (g0 g1 g2 : Nat) (u : World), PC u g0 g1 g2 p → Calls Tryd.prog 8 #[.agg #[.slice (some ⟨g0, 0, none⟩) kn kn, .slice (some ⟨g1, 0, none⟩) vn vn, .slice (some ⟨g2, 0, none⟩) jn jn]] u fun e w' => Put u (pgBytes p) e w') := fun g0 g1 g2 u hc => specPageBytes_any (fun _ => True) _ _ _ _ _ _ _ _ _ p u (hc.pgr NK.out NV.out NI.out m0 m1 m2 trivial trivial trivial)
    have HI : Hid (∀ (g0 g1 g2 : Nat) (u : World), PC u g0 g1 g2 p → Err u 1 → Err u 0 → Calls Tryd.prog 10 #[.agg #[.slice (some ⟨g0, 0, none⟩) kn kn, .slice (some ⟨g1, 0, none⟩) vn vn, .slice (some ⟨g2, 0, none⟩) jn jn]] u fun e w' => Put u (pgBytes p) e w') := fun g0 g1 g2 u hc h1 h2 => implPageBytes_any (fun _ => True) _ _ _ _ _ _ _ _ _ p u (hc.pgr NK.out NV.out NI.out m0 m1 m2 trivial trivial trivial) h1 h2
    have HF := hid (pg_facts p)
    generalize pgBytes p = o at HS HI HF
    have hbb : (o.isSome != o.isSome) = false := by simp
    have HL : Hid ((o.getD []).length ≤ 4096) := HF.out.2
    have HV : Hid (∀ (w w' : World) (e : Ending), Put w o e w' → ∃ a c, e = .returned (.tuple #[.slice a (o.getD []).length c, .bool o.isSome]) ∧ Rd w' a (o.getD []).length c (o.getD []) ∧ (∀ x, a = some x → w.heap.size ≤ x.block) ∧ Wb w' a (o.getD []).length ∧ Below w.heap.size w w') := fun w w' e h => h.see HF.out.1 HF.out.2
    generalize o.getD [] = out at *
    generalize o.isSome = bo at *
    generalize out.length = L at *
    clear HF
    have hl := HL.out
    obtain ⟨x0, x1, x2⟩ := X1.out.cells
    go_wp2_with fail
    refine (toPage_any _ ka va ia kn kc vn vc jn ic p _ X1.out.hA.hk X1.out.hA.hv X1.out.hA.hi m0 m1 m2).mono ?_
    rintro e w2 ⟨g0, g1, g2, rfl, -, -, -, k0, k1, k2, hb⟩
    have X2 := hid (X1.out.below hb)
    have C2 : Hid (PC w2 g0 g1 g2 p) := ⟨k0, k1, k2⟩
    clear hb X1 k0 k1 k2 x0 x1 x2
    go_wp2_with fail
    refine (HS.out g0 g1 g2 w2 C2.out).mono ?_
    intro e w3 hp
    obtain ⟨a0, c0, rfl, hr0, -, -, hb3⟩ := HV.out _ _ _ hp
    have RW := hid hr0
    have X3 := hid (X2.out.below hb3)
    clear hp hr0 hb3 X2 C2 HS
    obtain ⟨x0, x1, x2⟩ := X3.out.cells
    go_wp2_with fail
    refine (toPage_any _ ka va ia kn kc vn vc jn ic p _ X3.out.hA.hk X3.out.hA.hv X3.out.hA.hi m0 m1 m2).mono ?_
    rintro e w4 ⟨h0, h1, h2, rfl, z0, z1, z2, k0, k1, k2, hb4⟩
    have X4 := hid (X3.out.below hb4)
    have D4 := hid hb4
    have C4 : Hid (PC w4 h0 h1 h2 p) := ⟨k0, k1, k2⟩
    have HLO : Hid (∀ y, (y = h0 ∨ y = h1 ∨ y = h2) → w3.heap.size ≤ y ∧ y < w4.heap.size) := by
      rintro y (rfl | rfl | rfl)
      · exact ⟨z0, k0.lt⟩
      · exact ⟨z1, k1.lt⟩
      · exact ⟨z2, k2.lt⟩
    have HX3 : Hid (w.heap.size < w3.heap.size) := X3.out.kA.lt
    clear hb4 X3 k0 k1 k2 x0 x1 x2 z0 z1 z2
    have hb5 := below_new (o := .cells #[.slice (some ⟨h0, 0, none⟩) kn kn, .slice (some ⟨h1, 0, none⟩) vn vn, .slice (some ⟨h2, 0, none⟩) jn jn] 30) (w := w4) (Below.refl _ _)
    have X5 := hid (X4.out.below hb5)
    have D5 := hid (btw D4.out hb5)
    have C5 := hid (C4.out.below hb5)
    have K5 := hid (Bk.new w4 30 [.slice (some ⟨h0, 0, none⟩) kn kn, .slice (some ⟨h1, 0, none⟩) vn vn, .slice (some ⟨h2, 0, none⟩) jn jn])
    have S45 : Hid (w4.heap.size ≤ (w4.alloc (.cells #[.slice (some ⟨h0, 0, none⟩) kn kn, .slice (some ⟨h1, 0, none⟩) vn vn, .slice (some ⟨h2, 0, none⟩) jn jn] 30)).heap.size) := hb5.size
    clear hb5 X4 C4
    go_wp2_with fail
    refine (HI.out h0 h1 h2 _ C5.out (HE.out.below X5.out.bel HE.out.lt) (HE2.out.below X5.out.bel HE2.out.lt)).mono ?_
    generalize w4.alloc (.cells #[.slice (some ⟨h0, 0, none⟩) kn kn, .slice (some ⟨h1, 0, none⟩) vn vn, .slice (some ⟨h2, 0, none⟩) jn jn] 30) = w5 at *
    intro e w6 hp
    obtain ⟨a1, c1, rfl, hr1, hB1, hwb1, hb6⟩ := HV.out _ _ _ hp
    have X6 := hid (X5.out.below hb6)
    have D6 := hid (btw D5.out hb6)
    have C6 := hid (C5.out.below hb6)
    have K6 := hid (K5.out.below hb6)
    have G6 := hid hr1
    have GB := hid hB1
    have GW := hid hwb1
    clear hp hr1 hB1 hwb1 hb6 X5 C5 K5 D4 D5
    go_wp2_with fail
    refine (eqByteS_same a1 a0 L L c1 c0 out _ G6.out (RW.out.kept D6.out)).mono ?_
    rintro e w7 ⟨rfl, q7, hw7⟩
    have b7 := hid (show Below w6.heap.size w6 w7 by rw [hw7]; exact Below.drewN' (Below.refl _ _) q7)
    have X7 := hid (X6.out.below b7.out)
    have D7 := hid (btw D6.out b7.out)
    have C7 := hid (C6.out.below b7.out)
    have K7 := hid (K6.out.below b7.out)
    have G7 := hid (G6.out.kept b7.out)
    have GW7 := hid (GW.out.below b7.out G6.out.lt)
    clear hw7 b7 X6 D6 C6 K6 G6 GW
    obtain ⟨x0, x1, x2⟩ := X7.out.cells
    have y0 := K7.out.cell (j := 0) rfl
    have y1 := K7.out.cell (j := 1) rfl
    have y2 := K7.out.cell (j := 2) rfl
    have X8 := hid (X7.out.below (below_drew _))
    have C8 := hid (C7.out.below (below_drew _))
    have K8 := hid (K7.out.below (below_drew _))
    go_wp2_with fail
    go_cut [45] (fun x v => x = .bool false ∧ Hid (Below w7.heap.size w7 v))
    case first =>
      go_region_with (first
        | (go_at_call 9; refine (toPage_any _ ka va ia kn kc vn vc jn ic p _ X8.out.hA.hk X8.out.hA.hv X8.out.hA.hi m0 m1 m2).mono ?_; rintro e w8 ⟨f0, f1, f2, rfl, -, -, -, k0, k1, k2, hb8⟩; have z0 := (K8.out.below hb8).cell (j := 0) rfl; have z1 := (K8.out.below hb8).cell (j := 1) rfl; have z2 := (K8.out.below hb8).cell (j := 2) rfl)
        | (go_at_call 12; refine (eqPage_any (fun _ => True) (fun _ => True) _ _ _ _ _ _ _ _ _ _ _ _ _ _ _ _ _ _ p p _ ((C8.out.below hb8).pgr NK.out NV.out NI.out m0 m1 m2 trivial trivial trivial).hk ((C8.out.below hb8).pgr NK.out NV.out NI.out m0 m1 m2 trivial trivial trivial).hv ((C8.out.below hb8).pgr NK.out NV.out NI.out m0 m1 m2 trivial trivial trivial).hi ((PC.mk k0 k1 k2).pgr NK.out NV.out NI.out m0 m1 m2 trivial trivial trivial).hk ((PC.mk k0 k1 k2).pgr NK.out NV.out NI.out m0 m1 m2 trivial trivial trivial).hv ((PC.mk k0 k1 k2).pgr NK.out NV.out NI.out m0 m1 m2 trivial trivial trivial).hi).mono ?_; rintro e w9 ⟨rfl, hb9⟩))
      all_goals (go_wp2_with fail; go_meet)
      all_goals exact ⟨by simp, btw (btw (below_drew _) hb8) hb9⟩
    case rest =>
      obtain ⟨rfl, HBF⟩ := hcut
      rename_i w9
      have X9 := hid (X7.out.below HBF.out)
      have D9 := hid (btw D7.out HBF.out)
      have C9 := hid (C7.out.below HBF.out)
      have K9 := hid (K7.out.below HBF.out)
      have G9 := hid (G7.out.kept HBF.out)
      have GW9 := hid (GW7.out.below HBF.out G7.out.lt)
      clear HBF X7 X8 C7 C8 K7 K8 D7 G7 GW7 x0 x1 x2 y0 y1 y2
      have y0 := K9.out.cell (j := 0) rfl
      have y1 := K9.out.cell (j := 1) rfl
      have y2 := K9.out.cell (j := 2) rfl
      go_wp2_with fail
      refine (markPage_any (fun y => y = h0 ∨ y = h1 ∨ y = h2) _ kn kn _ vn vn _ jn jn 1 _ (kw_bk C9.out.k0 (by simpa using NK.out) m0 (fun u hu => by simp at hu; obtain ⟨s, _, rfl⟩ := hu; exact ⟨s, rfl⟩) (.inl rfl)) (kw_bk C9.out.k1 (by simpa using NV.out) m1 (fun u hu => by simp at hu; obtain ⟨s, _, rfl⟩ := hu; exact ⟨s, rfl⟩) (.inr (.inl rfl))) (kw_bk C9.out.k2 (by simpa using NI.out) m2 (fun u hu => by simp at hu; obtain ⟨s, _, rfl⟩ := hu; exact ⟨s, rfl⟩) (.inr (.inr rfl))) m0 m1 m2 (by omega) (by omega)).mono ?_
      rintro e w10 ⟨rfl, hmk⟩
      have ho := hmk.only
      have X10 := hid (X9.out.only ho (fun b hb => by have := HLO.out b hb; have := HX3.out; omega))
      have D10 : Hid (Below w3.heap.size w3 w10) := D9.out.trans (ho.below D9.out.size (fun b hb hr => by have := HLO.out b hr; omega))
      have hng : ∀ x, a1 = some x → ¬ (x.block = h0 ∨ x.block = h1 ∨ x.block = h2) := by
        intro x hx hr
        have h5 := GB.out x hx
        have h6 := HLO.out _ hr
        have h7 := S45.out
        omega
      have G10 := hid (G9.out.to ho hng)
      have GW10 := hid (GW9.out.to ho (fun x hx hp => ⟨G9.out.lt x hx hp, hng x hx⟩))
      clear hmk ho hng X9 D9 C9 K9 G9 GW9 y0 y1 y2
      have hk1 : ¬ ((1 + kn + vn + jn : Nat) : Int) < 0 := by omega
      generalize 1 + kn + vn + jn = kk at *
      go_wp2_with fail
      refine (eqByteS_same a1 a0 L L c1 c0 out _ G10.out (RW.out.kept D10.out)).mono ?_
      rintro e w11 ⟨rfl, q11, hw11⟩
      have b11 := hid (show Below w10.heap.size w10 w11 by rw [hw11]; exact Below.drewN' (Below.refl _ _) q11)
      have X11 := hid (X10.out.below b11.out)
      have D11 := hid (btw D10.out b11.out)
      have G11 := hid (G10.out.kept b11.out)
      have GW11 := hid (GW10.out.below b11.out G10.out.lt)
      clear hw11 b11 X10 D10 G10 GW10
      go_wp2_with fail
      refine (mark_any a1 L c1 out 1 _ G11.out GW11.out (by omega) (by omega)).mono ?_
      rintro e w12 ⟨rfl, hm12, hg12⟩
      have M12 := hid hm12
      have ho : Only (fun y => a1.map (·.block) = some y) w11 w12 := only_of_grown hg12 (fun k e => e)
      have hrow : ∀ k, a1.map (·.block) = some k → w3.heap.size ≤ k := by
        intro k hk
        cases a1 with
        | none => cases hk
        | some x =>
          simp at hk
          rw [← hk]
          have h5 := GB.out x rfl
          have h6 := HLO.out h0 (.inl rfl)
          have h7 := S45.out
          omega
      have X12 := hid (X11.out.only ho (fun b hb => by have := hrow b hb; have := HX3.out; omega))
      have D12 : Hid (Below w3.heap.size w3 w12) := D11.out.trans (ho.below D11.out.size (fun b hb hr => by have := hrow b hr; omega))
      clear hm12 hg12 ho hrow X11 D11 G11 GW11
      go_wp2_with fail
      refine (held_any a1 L c1 1 _ M12.out (by omega) (by omega)).mono ?_
      rintro e w12' ⟨rfl, rfl⟩
      have hk2 : ¬ (1 + (L : Int)) < 0 := by omega
      have hk3 : ((1 + (L : Int)) != (1 + (L : Int))) = false := by simp
      obtain ⟨x0, x1, x2⟩ := X12.out.cells
      go_wp2_with fail
      refine (toPage_any _ ka va ia kn kc vn vc jn ic p _ X12.out.hA.hk X12.out.hA.hv X12.out.hA.hi m0 m1 m2).mono ?_
      rintro e w13 ⟨f0, f1, f2, rfl, -, -, -, k0, k1, k2, hb13⟩
      have X13 := hid (X12.out.below hb13)
      have F13 := hid hb13
      have C13 : Hid (PC w13 f0 f1 f2 p) := ⟨k0, k1, k2⟩
      clear hb13 k0 k1 k2 x0 x1 x2
      go_wp2_with fail
      refine (HI.out f0 f1 f2 _ C13.out (HE.out.below X13.out.bel HE.out.lt) (HE2.out.below X13.out.bel HE2.out.lt)).mono ?_
      intro e w14 hp
      obtain ⟨a2, c2, rfl, hr2, -, -, hb14⟩ := HV.out _ _ _ hp
      have R14 := hid hr2
      have F14 := hid (btw F13.out hb14)
      have D14 := hid (btw D12.out F14.out)
      clear hp hr2 hb14 F13 X13 C13
      go_wp2_with fail
      refine (eqByteS_same a2 a0 L L c2 c0 out _ R14.out (RW.out.kept D14.out)).mono ?_
      rintro e w15 ⟨rfl, q15, hw15⟩
      have b15 := hid (show Below w14.heap.size w14 w15 by rw [hw15]; exact Below.drewN' (Below.refl _ _) q15)
      have F15 := hid (btw F14.out b15.out)
      have B15 := hid (btw X12.out.bel F15.out)
      clear hw15 b15
      go_wp2_with fail
      refine (held_any a1 L c1 1 _ (M12.out.kept F15.out) (by omega) (by omega)).mono ?_
      rintro e w15' ⟨rfl, rfl⟩
      go_wp2
      go_ret
      exact ⟨rfl, B15.out⟩
end Go.Proofs.YtpgogpphobafoaaDoor
/-
  The law FnExactPageRead answers true at every slice of bytes.
-/
namespace Go.Proofs.YtpgogpphobafoaaDoor
open Go.RowKit
def pgOf (o : Option PG) : PG := o.getD ⟨[], [], []⟩
theorem pg_small {p : PG} (h : pgOk p = true) : p.keys.length ≤ 4 ∧ p.vals.length ≤ 4 ∧ p.kids.length ≤ 5 := by
  have hF := pgOk_facts h
  have hn := hF.nk
  by_cases h0 : p.kids.length = 0
  · have := (hF.lf h0).1
    omega
  · have h1 := (hF.br h0).1
    rw [pgOk_br h0, bchOk] at h
    simp only [Bool.and_eq_true, decide_eq_true_eq] at h
    omega
theorem prd_small (zs : List Int) : (pgOf (prd zs)).keys.length ≤ 4 ∧ (pgOf (prd zs)).vals.length ≤ 4 ∧ (pgOf (prd zs)).kids.length ≤ 5 := by
  cases h : prd zs with
  | none => simp [pgOf]
  | some p => exact pg_small (pg_of ((prd_iff zs p).1 h)).1
theorem PrPost.see {o : Option PG} {w w' : World} {e : Ending} (h : PrPost o w e w') : ∃ (ka : Option Addr) (kn kc : Nat) (va : Option Addr) (vn vc : Nat) (ia : Option Addr) (jn ic : Nat), e = .returned (.tuple #[.agg #[.slice ka kn kc, .slice va vn vc, .slice ia jn ic], .bool o.isSome]) ∧ Pgr w' (fun y => y < w'.heap.size) ka kn kc va vn vc ia jn ic (pgOf o) ∧ Below w.heap.size w w' := by
  obtain ⟨hb, ⟨rfl, rfl⟩ | ⟨p, ka, kn, kc, va, vn, vc, ia, jn, ic, rfl, rfl, hp⟩⟩ := h
  · exact ⟨none, 0, 0, none, 0, 0, none, 0, 0, rfl, ⟨rw_nil _ _, rw_nil _ _, rw_nil _ _⟩, hb⟩
  · exact ⟨ka, kn, kc, va, vn, vc, ia, jn, ic, rfl, ⟨Rw.mono hp.hk (fun b _ hb => hb), Rw.mono hp.hv (fun b _ hb => hb), Rw.mono hp.hi (fun b _ hb => hb)⟩, hb⟩
theorem IrPost.see {o : Option PG} {w w' : World} {e : Ending} (h : IrPost o w e w') : ∃ (ka : Option Addr) (kn kc : Nat) (va : Option Addr) (vn vc : Nat) (ia : Option Addr) (jn ic : Nat), e = .returned (.tuple #[.agg #[.slice ka kn kc, .slice va vn vc, .slice ia jn ic], .bool o.isSome]) ∧ PO w' (.slice ka kn kc) (.slice va vn vc) (.slice ia jn ic) (pgOf o) ∧ (∀ y, pbl (.slice ka kn kc) (.slice va vn vc) (.slice ia jn ic) y → w.heap.size ≤ y) ∧ Below w.heap.size w w' := by
  obtain ⟨hb, ⟨rfl, rfl⟩ | ⟨p, ka, kn, kc, va, vn, vc, ia, jn, ic, rfl, rfl, hp, hl⟩⟩ := h
  · exact ⟨none, 0, 0, none, 0, 0, none, 0, 0, rfl, ⟨World.ownsRow_nil _ _ _ _, World.ownsRow_nil _ _ _ _, World.ownsRow_nil _ _ _ _, fun y => ⟨fun e => (by cases e), fun e => (by cases e)⟩⟩, fun y hy => (by rcases hy with e | e | e <;> cases e), hb⟩
  · exact ⟨ka, kn, kc, va, vn, vc, ia, jn, ic, rfl, hp, hl, hb⟩
/-- The specification's answer, in its box. -/
structure QX (w v : World) (x2 : Nat) (ka : Option Addr) (kn kc : Nat) (va : Option Addr) (vn vc : Nat) (ia : Option Addr) (jn ic : Nat) (p : PG) : Prop where
  bel : Below w.heap.size w v
  kw : Bk v x2 30 [.slice ka kn kc, .slice va vn vc, .slice ia jn ic]
  pw : Pgr v (fun y => y < x2) ka kn kc va vn vc ia jn ic p
  lt : w.heap.size ≤ x2
theorem QX.below {w v v' : World} {x2 : Nat} {ka : Option Addr} {kn kc : Nat} {va : Option Addr} {vn vc : Nat} {ia : Option Addr} {jn ic : Nat} {p : PG} (h : QX w v x2 ka kn kc va vn vc ia jn ic p) (hb : Below v.heap.size v v') : QX w v' x2 ka kn kc va vn vc ia jn ic p := ⟨btw h.bel hb, h.kw.below hb, h.pw.below hb, h.lt⟩
theorem QX.only {w v v' : World} {x2 : Nat} {ka : Option Addr} {kn kc : Nat} {va : Option Addr} {vn vc : Nat} {ia : Option Addr} {jn ic : Nat} {p : PG} (h : QX w v x2 ka kn kc va vn vc ia jn ic p) {R : Nat → Prop} (ho : Only R v v') (hR : ∀ b, R b → x2 < b) : QX w v' x2 ka kn kc va vn vc ia jn ic p :=
  ⟨h.bel.trans (ho.below h.bel.size (fun b hb hr => by have := hR b hr; have := h.lt; omega)), h.kw.to ho (fun hr => by have := hR _ hr; omega), h.pw.to ho (fun b hb _ hr => by have := hR b hr; omega), h.lt⟩
theorem QX.cells {w v : World} {x2 : Nat} {ka : Option Addr} {kn kc : Nat} {va : Option Addr} {vn vc : Nat} {ia : Option Addr} {jn ic : Nat} {p : PG} (h : QX w v x2 ka kn kc va vn vc ia jn ic p) : v.cell? ⟨x2, 0, none⟩ = some (.slice ka kn kc) ∧ v.cell? ⟨x2, 1, none⟩ = some (.slice va vn vc) ∧ v.cell? ⟨x2, 2, none⟩ = some (.slice ia jn ic) := ⟨h.kw.cell (j := 0) rfl, h.kw.cell (j := 1) rfl, h.kw.cell (j := 2) rfl⟩
theorem Bk.three {v : World} {x : Nat} {T : TypeId} {p q r : Value} (h : Bk v x T [p, q, r]) : v.cell? ⟨x, 0, none⟩ = some p ∧ v.cell? ⟨x, 1, none⟩ = some q ∧ v.cell? ⟨x, 2, none⟩ = some r := ⟨h.cell (j := 0) rfl, h.cell (j := 1) rfl, h.cell (j := 2) rfl⟩
set_option maxHeartbeats 8000000 in
set_option maxRecDepth 20000 in
theorem lawPageRead_road (a : Option Addr) (n c : Nat) (zs : List Int) (w : World) (h : Rd w a n c zs) (hn : n ≤ 1048576) (he : Err w 1) (he2 : Err w 0) (he3 : Err w 3) :
    Calls Tryd.prog 4 #[.slice a n c] w fun e w' => e = .returned (.bool true) ∧ Below w.heap.size w w' := by
  have HR := hid h
  have HE := hid he
  have HE2 := hid he2
  have HE3 := hid he3
  have NEW : Hid (∀ w : World, Rd (w.alloc (.cells (byteVals zs) 5)) (some ⟨w.heap.size, 0, none⟩) n n zs) := by
    intro w
    have := rd_new w zs (by rw [← h.1]; omega) h.2.2.2.2.1
    rw [← h.1] at this; exact this
  clear h he he2 he3
  have HS : Hid (∀ (a : Option Addr) (u : World), Rd u a n n zs → Calls Tryd.prog 16 #[.slice a n n] u fun e w' => PrPost (prd zs) u e w') := fun a u h => specPageRead_any a n n zs u h
  have HI : Hid (∀ (a : Option Addr) (u : World), Rd u a n n zs → Below w.heap.size w u → Calls Tryd.prog 18 #[.slice a n n] u fun e w' => IrPost (prd zs) u e w') := fun a u h hb => implPageRead_any a n n zs u h (HE.out.below hb HE.out.lt) (HE2.out.below hb HE2.out.lt) (HE3.out.below hb HE3.out.lt)
  have HSM := hid (prd_small zs)
  clear HE HE2 HE3
  generalize prd zs = o at *
  have hbb : (o.isSome != o.isSome) = false := by simp
  have HSV : Hid (∀ (w w' : World) (e : Ending), PrPost o w e w' → ∃ (ka : Option Addr) (kn kc : Nat) (va : Option Addr) (vn vc : Nat) (ia : Option Addr) (jn ic : Nat), e = .returned (.tuple #[.agg #[.slice ka kn kc, .slice va vn vc, .slice ia jn ic], .bool o.isSome]) ∧ Pgr w' (fun y => y < w'.heap.size) ka kn kc va vn vc ia jn ic (pgOf o) ∧ Below w.heap.size w w') := fun w w' e h => h.see
  have HIV : Hid (∀ (w w' : World) (e : Ending), IrPost o w e w' → ∃ (ka : Option Addr) (kn kc : Nat) (va : Option Addr) (vn vc : Nat) (ia : Option Addr) (jn ic : Nat), e = .returned (.tuple #[.agg #[.slice ka kn kc, .slice va vn vc, .slice ia jn ic], .bool o.isSome]) ∧ PO w' (.slice ka kn kc) (.slice va vn vc) (.slice ia jn ic) (pgOf o) ∧ (∀ y, pbl (.slice ka kn kc) (.slice va vn vc) (.slice ia jn ic) y → w.heap.size ≤ y) ∧ Below w.heap.size w w') := fun w w' e h => h.see
  generalize pgOf o = p at *
  generalize o.isSome = bo at *
  have hns : ¬ (1048576 : Int) < (n : Int) := by omega
  go_enter Tryd.func4, Tryd.ntmps4
  go_wp2_with fail
  refine (toByteS_any a n c zs _ HR.out).mono ?_
  rintro e w1 ⟨rfl, hw1⟩
  have B1 := hid (show Below w.heap.size w w1 by rw [hw1]; exact (Below.refl _ _).alloc (Nat.le_refl _) _)
  have R1 := hid (show Rd w1 (some ⟨w.heap.size, 0, none⟩) n n zs by rw [hw1]; exact NEW.out w)
  clear hw1
  go_wp2_with fail
  refine (HS.out _ w1 R1.out).mono ?_
  intro e w2 hp
  obtain ⟨ka, kn, kc, va, vn, vc, ia, jn, ic, rfl, hpg, hb2⟩ := HSV.out _ _ _ hp
  have B2 := hid (btw B1.out hb2)
  have hb3 := below_new (o := .cells #[.slice ka kn kc, .slice va vn vc, .slice ia jn ic] 30) (w := w2) (Below.refl _ _)
  have Q3 : Hid (QX w (w2.alloc (.cells #[.slice ka kn kc, .slice va vn vc, .slice ia jn ic] 30)) w2.heap.size ka kn kc va vn vc ia jn ic p) := ⟨btw B2.out hb3, Bk.new w2 _ [_, _, _], hpg.below hb3, B2.out.size⟩
  clear hp hpg hb2 hb3 B1 B2 R1 HS HSV
  go_wp2_with fail
  refine (toByteS_any a n c zs _ (HR.out.kept Q3.out.bel)).mono ?_
  generalize w2.alloc (.cells #[.slice ka kn kc, .slice va vn vc, .slice ia jn ic] 30) = w3 at *
  generalize w2.heap.size = x2 at *
  rintro e w4 ⟨rfl, hw4⟩
  have hb4 : Below w3.heap.size w3 w4 := by rw [hw4]; exact (Below.refl _ _).alloc (Nat.le_refl _) _
  have X4 := hid (show Rd w4 (some ⟨w3.heap.size, 0, none⟩) n n zs by rw [hw4]; exact NEW.out w3)
  have WX4 := hid (show Wb w4 (some ⟨w3.heap.size, 0, none⟩) n by rw [hw4]; exact wb_new _ _ _ _)
  have S4 := hid (show w4.heap.size = w3.heap.size + 1 by rw [hw4]; simp)
  have Q4 := hid (Q3.out.below hb4)
  have HX3 : Hid (x2 < w3.heap.size) := Q3.out.kw.lt
  clear hw4 hb4 Q3
  go_wp2_with fail
  refine (HI.out _ w4 X4.out Q4.out.bel).mono ?_
  intro e w5 hp
  obtain ⟨la, ln, lc, ma, mn, mc, na, nn, nc, rfl, hpo, hlo, hb5⟩ := HIV.out _ _ _ hp
  have Q5 := hid (Q4.out.below hb5)
  have X5 := hid (X4.out.kept hb5)
  have WX5 := hid (WX4.out.below hb5 X4.out.lt)
  have P5 := hid hpo
  have HLO := hid hlo
  have m0 : ln ≤ 1048576 := by have := (Rw.len (hpo.pgr (S := fun _ => True) (fun _ _ => trivial)).hk).1; have := HSM.out; omega
  have m1 : mn ≤ 1048576 := by have := (Rw.len (hpo.pgr (S := fun _ => True) (fun _ _ => trivial)).hv).1; have := HSM.out; omega
  have m2 : nn ≤ 1048576 := by have := (Rw.len (hpo.pgr (S := fun _ => True) (fun _ _ => trivial)).hi).1; have := HSM.out; omega
  have hb6 := below_new (o := .cells #[.slice la ln lc, .slice ma mn mc, .slice na nn nc] 30) (w := w5) (Below.refl _ _)
  have Q6 := hid (Q5.out.below hb6)
  have X6 := hid (X5.out.kept hb6)
  have WX6 := hid (WX5.out.below hb6 X5.out.lt)
  have P6 := hid (P5.out.below hb6)
  have G6 := hid (Bk.new w5 30 [.slice la ln lc, .slice ma mn mc, .slice na nn nc])
  have HPB : Hid (∀ y, pbl (.slice la ln lc) (.slice ma mn mc) (.slice na nn nc) y → w3.heap.size < y ∧ y ≠ w5.heap.size) := by
    intro y hy
    refine ⟨by have := HLO.out y hy; have := S4.out; omega, ?_⟩
    rcases hy with e | e | e
    · have := (World.ownsRow.lt P5.out.hk y e).2; omega
    · have := (World.ownsRow.lt P5.out.hv y e).2; omega
    · have := (World.ownsRow.lt P5.out.hi y e).2; omega
  have HX5 : Hid (w3.heap.size < w5.heap.size) := by have := hb5.size; have := S4.out; show _ < _; omega
  clear hp hpo hlo hb5 hb6 Q4 Q5 X4 X5 WX4 WX5 P5 HLO
  obtain ⟨k0, k1, k2⟩ := Q6.out.cells
  obtain ⟨g0, g1, g2⟩ := G6.out.three
  have PP6 := hid (P6.out.pgr (S := fun _ => True) (fun _ _ => trivial))
  go_wp2_with fail
  refine (eqPage_any (fun _ => True) (fun y => y < x2) la ma na ka va ia ln lc mn mc nn nc kn kc vn vc jn ic p p _ PP6.out.hk PP6.out.hv PP6.out.hi Q6.out.pw.hk Q6.out.pw.hv Q6.out.pw.hi).mono ?_
  generalize w5.alloc (.cells #[.slice la ln lc, .slice ma mn mc, .slice na nn nc] 30) = w6 at *
  generalize w5.heap.size = x5 at *
  rintro e w7 ⟨rfl, hb7⟩
  rw [show decide (p = p) = true from decide_eq_true rfl]
  have Q7 := hid (Q6.out.below hb7)
  have X7 := hid (X6.out.kept hb7)
  have WX7 := hid (WX6.out.below hb7 X6.out.lt)
  have P7 := hid (P6.out.below hb7)
  have G7 := hid (G6.out.below hb7)
  clear hb7 Q6 X6 WX6 P6 G6 PP6 k0 k1 k2 g0 g1 g2
  go_wp2_with fail
  refine (toByteS_any a n c zs _ (HR.out.kept Q7.out.bel)).mono ?_
  rintro e w8 ⟨rfl, hw8⟩
  have hb8 : Below w7.heap.size w7 w8 := by rw [hw8]; exact (Below.refl _ _).alloc (Nat.le_refl _) _
  have Z8 := hid (show Rd w8 (some ⟨w7.heap.size, 0, none⟩) n n zs by rw [hw8]; exact NEW.out w7)
  have HB8 := hid hb8
  clear hw8 hb8
  go_wp2_with fail
  refine (eqByteS_same _ _ n n n n zs _ (X7.out.kept HB8.out) Z8.out).mono ?_
  rintro e w9 ⟨rfl, q9, hw9⟩
  have hb9 : Below w7.heap.size w7 w9 := by rw [hw9]; exact Below.drewN' HB8.out q9
  have Q9 := hid (Q7.out.below hb9)
  have X9 := hid (X7.out.kept hb9)
  have WX9 := hid (WX7.out.below hb9 X7.out.lt)
  have P9 := hid (P7.out.below hb9)
  have G9 := hid (G7.out.below hb9)
  clear hw9 hb9 HB8 Z8 Q7 X7 WX7 P7 G7
  go_wp2_with fail
  refine (mark_any _ n n zs 1 _ X9.out WX9.out (by omega) (by omega)).mono ?_
  rintro e w10 ⟨rfl, -, hg10⟩
  have ho : Only (fun y => y = w3.heap.size) w9 w10 := only_of_grown hg10 (fun k e => by cases e; rfl)
  have Q10 := hid (Q9.out.only ho (fun b e => by have := HX3.out; omega))
  have P10 := hid (P9.out.to ho (fun y hy e => by have := (HPB.out y hy).1; omega))
  have G10 := hid (G9.out.to ho (fun e => by have := HX5.out; omega))
  clear ho hg10 Q9 X9 WX9 P9 G9
  have hk1 : ¬ (1 + (n : Int)) < 0 := by omega
  obtain ⟨k0, k1, k2⟩ := Q10.out.cells
  obtain ⟨g0, g1, g2⟩ := G10.out.three
  have PP10 := hid (P10.out.pgr (S := fun _ => True) (fun _ _ => trivial))
  go_wp2_with fail
  refine (eqPage_any (fun _ => True) (fun y => y < x2) la ma na ka va ia ln lc mn mc nn nc kn kc vn vc jn ic p p _ PP10.out.hk PP10.out.hv PP10.out.hi Q10.out.pw.hk Q10.out.pw.hv Q10.out.pw.hi).mono ?_
  rintro e w11 ⟨rfl, hb11⟩
  rw [show decide (p = p) = true from decide_eq_true rfl]
  have Q11 := hid (Q10.out.below hb11)
  have P11 := hid (P10.out.below hb11)
  have G11 := hid (G10.out.below hb11)
  clear hb11 Q10 P10 G10 PP10 k0 k1 k2 g0 g1 g2
  obtain ⟨g0, g1, g2⟩ := G11.out.three
  go_wp2_with fail
  refine (markPage_ex la ln lc ma mn mc na nn nc 1 p _ P11.out m0 m1 m2 (by omega) (by omega)).mono ?_
  rintro e w12 ⟨rfl, hpl, ho⟩
  have L12 := hid hpl
  have Q12 := hid (Q11.out.only ho (fun b hb => by have := (HPB.out b hb).1; have := HX3.out; omega))
  have G12 := hid (G11.out.to ho (fun hb => (HPB.out _ hb).2 rfl))
  clear hpl ho Q11 P11 G11 g0 g1 g2
  obtain ⟨g0, g1, g2⟩ := G12.out.three
  have hk2 : ¬ ((1 + ln + mn + nn : Nat) : Int) < 0 := by omega
  have hk3 : (((1 + ln + mn + nn : Nat) : Int) != ((1 + ln + mn + nn : Nat) : Int)) = false := by simp
  have HHD := hid (fun (u : World) (hu : PLie u la ln lc ma mn mc na nn nc 1) => heldPage_any la ln lc ma mn mc na nn nc 1 u hu m0 m1 m2 (by omega) (by omega))
  generalize 1 + ln + mn + nn = kk at *
  go_wp2_with fail
  refine (HHD.out _ L12.out).mono ?_
  rintro e w13 ⟨rfl, hb13⟩
  have Q13 := hid (Q12.out.below hb13)
  have L13 := hid (L12.out.below hb13)
  have G13 := hid (G12.out.below hb13)
  clear hb13 Q12 L12 G12 g0 g1 g2
  go_wp2_with fail
  refine (toByteS_any a n c zs _ (HR.out.kept Q13.out.bel)).mono ?_
  rintro e w14 ⟨rfl, hw14⟩
  have hb14 : Below w13.heap.size w13 w14 := by rw [hw14]; exact (Below.refl _ _).alloc (Nat.le_refl _) _
  have X14 := hid (show Rd w14 (some ⟨w13.heap.size, 0, none⟩) n n zs by rw [hw14]; exact NEW.out w13)
  have Q14 := hid (Q13.out.below hb14)
  have L14 := hid (L13.out.below hb14)
  have G14 := hid (G13.out.below hb14)
  clear hw14 hb14 Q13 L13 G13
  go_wp2_with fail
  refine (HI.out _ w14 X14.out Q14.out.bel).mono ?_
  intro e w15 hp
  obtain ⟨ra, rn, rc, sa, sn, sc, ta, tn, tc, rfl, hpo, -, hb15⟩ := HIV.out _ _ _ hp
  have hb16 := below_new (o := .cells #[.slice ra rn rc, .slice sa sn sc, .slice ta tn tc] 30) (w := w15) (Below.refl _ _)
  have hb1516 := btw hb15 hb16
  have Q16 := hid (Q14.out.below hb1516)
  have L16 := hid (L14.out.below hb1516)
  have G16 := hid (G14.out.below hb1516)
  have P16 := hid (hpo.below hb16)
  have H16 := hid (Bk.new w15 30 [.slice ra rn rc, .slice sa sn sc, .slice ta tn tc])
  clear hp hpo hb15 hb16 hb1516 Q14 L14 G14 X14
  obtain ⟨k0, k1, k2⟩ := Q16.out.cells
  obtain ⟨g0, g1, g2⟩ := H16.out.three
  have PP16 := hid (P16.out.pgr (S := fun _ => True) (fun _ _ => trivial))
  go_wp2_with fail
  refine (eqPage_any (fun _ => True) (fun y => y < x2) ra sa ta ka va ia rn rc sn sc tn tc kn kc vn vc jn ic p p _ PP16.out.hk PP16.out.hv PP16.out.hi Q16.out.pw.hk Q16.out.pw.hv Q16.out.pw.hi).mono ?_
  generalize w15.alloc (.cells #[.slice ra rn rc, .slice sa sn sc, .slice ta tn tc] 30) = w16 at *
  generalize w15.heap.size = x15 at *
  rintro e w17 ⟨rfl, hb17⟩
  rw [show decide (p = p) = true from decide_eq_true rfl]
  have Q17 := hid (Q16.out.below hb17)
  have L17 := hid (L16.out.below hb17)
  have G17 := hid (G16.out.below hb17)
  clear hb17 Q16 L16 G16 P16 H16 PP16 k0 k1 k2 g0 g1 g2
  obtain ⟨g0, g1, g2⟩ := G17.out.three
  go_wp2_with fail
  refine (HHD.out _ L17.out).mono ?_
  rintro e w18 ⟨rfl, hb18⟩
  have B18 := hid (btw Q17.out.bel hb18)
  clear hb18
  go_wp2
  go_ret
  exact ⟨rfl, B18.out⟩
theorem lawPageRead_walk (a : Option Addr) (n c : Nat) (z0 : List Int) (w : World) (w0 : IsRow .u8 w a n c z0) (he3 : Err w 3) (he : Err w 1) (_hn : Err w 2) (he2 : Err w 0)
    (_l0 : 3 < w.heap.size) (_l1 : 1 < w.heap.size) (_l2 : 2 < w.heap.size) (_l3 : 0 < w.heap.size) :
    Calls Tryd.prog 4 #[.slice a n c] w fun e w' => e = .returned (.bool true) ∧ Below w.heap.size w w' := by
  by_cases hbig : 1048576 < n
  · have hb' : (1048576 : Int) < (n : Int) := by omega
    clear w0 he he2 he3 _hn _l0 _l1 _l2 _l3
    go_enter Tryd.func4, Tryd.ntmps4
    go_wp2
    go_ret
    exact ⟨rfl, Below.refl _ _⟩
  · exact lawPageRead_road a n c _ w (rd_of_row w0 (by omega)) (by omega) he he2 he3
end Go.Proofs.YtpgogpphobafoaaDoor
/-
  A row's list of variables, opened and shut one by one.
-/
namespace Go.Proofs.YtpgogpphobafoaaDoor
open Go.ChangeShapes Go.WideShapes Go.ChangeAt Go.RowKit
theorem trodVars_first {H : Type} {enc : TypeId × Value → H} {P : Program} {w : World} {spare : Nat → Bool} {n : String} {ns : List String} {gs : List (DataW H)} {ps : List MemPlace} (h : DataW.TrodVars enc P w spare (n :: ns) gs ps) :
    ∃ g t cs f d p ds q, gs = d :: ds ∧ P.globalNamed n = some g ∧ (P.globals[g]?).map (·.type) = some t ∧ w.var? P n = some cs ∧ DataW.trod enc P w 0 spare true f t cs.toList = some (d, p) ∧ DataW.TrodVars enc P w spare ns ds q ∧ ps = MemPlace.row ⟨g, 0, none⟩ cs.size ++ p ++ q := by
  cases gs with
  | nil => simp [DataW.TrodVars] at h
  | cons d ds =>
    obtain ⟨g, t, cs, f, p, q, h1, h2, h3, h4, hs, e⟩ := h
    exact ⟨g, t, cs, f, d, p, ds, q, rfl, h1, h2, h3, h4, hs, e⟩
theorem vars_first {H : Type} (enc : TypeId × Value → H) {P : Program} {W : World} {n : String} {ns : List String} {g : Nat} {ti : TypeId} {ms : Array (String × TypeId)} {x : Value} {ds : List (DataW H)} {q : List MemPlace} {sp : Nat → Bool}
    (hg : P.globalNamed n = some g) (ht : (P.globals[g]?).map (·.type) = some ti) (hi : P.underlying ti = some (.interface ms)) (h : W.var? P n = some #[x]) (ix : IsIface x) (hr : DataW.TrodVars enc P W sp ns ds q) :
    DataW.TrodVars enc P W sp (n :: ns) (tok enc x :: ds) (.cell g 0 :: q) :=
  ⟨g, ti, #[x], 1, [], q, hg, ht, h, trod_held hi ix 0, hr, rfl⟩
end Go.Proofs.YtpgogpphobafoaaDoor
