/-
  PageBytes of the program.
-/
import Derived.Test.YtpgogpphobafoaaDoorWrK
import Derived.Test.YtpgogpphobafoaaDoorPgI
import Derived.Test.YtpgogpphobafoaaDoorPgB
namespace Go.Proofs.YtpgogpphobafoaaDoor
open Go.RowKit
/-- What is kept while a page is written: the writer's bytes, the page in its box, its rows below the writer. -/
structure Wl (w v : World) (G b0 : Nat) (ka : Option Addr) (kn kc : Nat) (va : Option Addr) (vn vc : Nat) (ia : Option Addr) (jn ic : Nat) (p : PG) (zs : List Int) : Prop where
  be : Below G w v
  wr : Wr v G 512 (some zs)
  bk : Bk v b0 30 [.slice ka kn kc, .slice va vn vc, .slice ia jn ic]
  off : Off v G b0
  pg : Pgr v (fun b => b < G) ka kn kc va vn vc ia jn ic p
theorem Wl.step {w v v' : World} {G b0 : Nat} {ka : Option Addr} {kn kc : Nat} {va : Option Addr} {vn vc : Nat} {ia : Option Addr} {jn ic : Nat} {p : PG} {zs zs' : List Int} (h : Wl w v G b0 ka kn kc va vn vc ia jn ic p zs) (hb : Below G v v') (hw : Wr v' G 512 (some zs')) (hk : Kp G v v') : Wl w v' G b0 ka kn kc va vn vc ia jn ic p zs' :=
  ⟨h.be.trans hb, hw, hk.bk h.off h.bk, (hk b0 h.off).2, h.pg.to (only_under hb) (fun b h1 _ h2 => by omega)⟩
theorem Wl.cells {w v : World} {G b0 : Nat} {ka : Option Addr} {kn kc : Nat} {va : Option Addr} {vn vc : Nat} {ia : Option Addr} {jn ic : Nat} {p : PG} {zs : List Int} (h : Wl w v G b0 ka kn kc va vn vc ia jn ic p zs) : v.cell? ⟨b0, 0, none⟩ = some (.slice ka kn kc) ∧ v.cell? ⟨b0, 1, none⟩ = some (.slice va vn vc) ∧ v.cell? ⟨b0, 2, none⟩ = some (.slice ia jn ic) := ⟨h.bk.cell (j := 0) rfl, h.bk.cell (j := 1) rfl, h.bk.cell (j := 2) rfl⟩
theorem Wl.start {w : World} {G : Nat} {ka : Option Addr} {kn kc : Nat} {va : Option Addr} {vn vc : Nat} {ia : Option Addr} {jn ic : Nat} {p : PG} (hw : Wr w G 512 (some [])) (h : Pgr w (fun b => b < G) ka kn kc va vn vc ia jn ic p) : Wl w (w.alloc (.cells #[.slice ka kn kc, .slice va vn vc, .slice ia jn ic] 30)) G w.heap.size ka kn kc va vn vc ia jn ic p [] :=
  ⟨(Below.refl _ _).alloc (Nat.le_of_lt hw.lt) _, hw.alloc _, Bk.new w _ [_, _, _], hw.off _, h.below (below_new (Below.refl _ _))⟩
theorem pgBody_room {p : PG} (hF : PgF p) {j : Nat} (hj : j < p.keys.length) : (pgBody p j).length + (pgPart p j).length ≤ 500 := by
  have h1 := pgBody_len hF j (by omega)
  have h2 := pgPart_len hF hj
  have h3 := hF.nk
  omega
set_option maxHeartbeats 4000000 in
set_option maxRecDepth 20000 in
theorem writeLeaf_any (G : Nat) (ka : Option Addr) (kn kc : Nat) (va : Option Addr) (vn vc : Nat) (ia : Option Addr) (jn ic : Nat) (p : PG) (w : World) (hw : Wr w G 512 (some [])) (h : Pgr w (fun b => b < G) ka kn kc va vn vc ia jn ic p) (hF : PgF p) (h0 : p.kids.length = 0) :
    Calls Tryd.prog 36 #[.pointer (some ⟨G, 0, none⟩), .agg #[.slice ka kn kc, .slice va vn vc, .slice ia jn ic]] w fun e w' => e = .returned (.tuple #[]) ∧ Below G w w' ∧ Wr w' G 512 (some (pgRaw p)) := by
  have L0 := hid (Wl.start hw h)
  have NK := hid (Rw.len h.hk).1
  have NV := hid (Rw.len h.hv).1
  have bk := (Rw.len h.hk).2
  have bv := (Rw.len h.hv).2
  have HF := hid hF
  have HVK : Hid (vn = kn) := by show _ = _; rw [NV.out, NK.out]; exact (hF.lf h0).1
  have HVS := hid (hF.lf h0).2
  have hk4 : kn ≤ 4 := by rw [NK.out]; exact hF.nk
  have HEH : Hid (pgHead p = [76] ++ enc (kn : Int)) := by show _ = _; rw [pgHead, if_pos h0, if_pos h0, ← NK.out]; simp
  have HPA : Hid (∀ i, pgPart p i = (enc (sAt p.keys i).size ++ bytesOf (sAt p.keys i)) ++ (enc (sAt p.vals i).size ++ bytesOf (sAt p.vals i))) := fun i => by rw [pgPart, if_pos h0]
  clear h hF h0 hw
  go_enter Tryd.func36, Tryd.ntmps36
  go_wp2_with fail
  refine (addByteK_any G 512 [] 76 _ L0.out.wr (by omega) (by omega) (by simp) (by omega)).mono ?_
  generalize w.alloc (.cells #[.slice ka kn kc, .slice va vn vc, .slice ia jn ic] 30) = U at *
  generalize w.heap.size = b0 at *
  rintro e w1 ⟨rfl, hb1, hw1, hk1⟩
  have L1 := hid (L0.out.step hb1 hw1 hk1)
  clear hb1 hw1 hk1 L0
  obtain ⟨c0, c1, c2⟩ := L1.out.cells
  have hen := enc_len (kn : Int)
  go_wp2_with fail
  refine (numberK_any G 512 _ (kn : Int) _ L1.out.wr (by omega) (by omega) (by simp; omega) (by omega)).mono ?_
  rintro e w2 ⟨rfl, hb2, hw2, hk2⟩
  have L2 := hid (L1.out.step hb2 hw2 hk2)
  have L2' : Hid (Wl w w2 G b0 ka kn kc va vn vc ia jn ic p (pgBody p 0)) := by rw [pgBody, HEH.out]; exact L2.out
  clear hb2 hw2 hk2 L1 L2 c0 c1 c2 hen
  obtain ⟨c0, c1, c2⟩ := L2'.out.cells
  go_wp2_with fail
  clear c0 c1 c2
  go_loopw [16] (fun i wr => ∃ j : Nat, j ≤ kn ∧ i = .int .i64 j ∧ Hid (Wl w wr G b0 ka kn kc va vn vc ia jn ic p (pgBody p j))) (fun i _ => kn - (intOf i).toNat)
  case atStart => exact ⟨0, Nat.zero_le _, rfl, L2'⟩
  case round =>
    obtain ⟨j, hj, rfl, L3⟩ := hrel
    clear L2'
    by_cases hlt : j < kn
    · have hlt' : (j : Int) < (kn : Int) := by omega
      have hltv : (j : Int) < (vn : Int) := by have := HVK.out; omega
      have hjl : j < p.keys.length := by rw [← NK.out]; exact hlt
      have hjv : j < p.vals.length := by rw [← NV.out]; omega
      obtain ⟨kb, ko, hka, -, -, hck⟩ := L3.out.pg.hk.at (by omega)
      obtain ⟨vb, vo, hva, -, -, -⟩ := L3.out.pg.hv.at (by omega)
      subst hka hva
      have m0 := hck j hlt
      have HKS := hid (HF.out.ks j hjl)
      have HVZ := hid (HVS.out j hjv)
      have HST : Hid (pgBody p (j + 1) = pgBody p j ++ ((enc (sAt p.keys j).size ++ bytesOf (sAt p.keys j)) ++ (enc (sAt p.vals j).size ++ bytesOf (sAt p.vals j)))) := by show _ = _; rw [pgBody, HPA.out]
      have HRM : Hid ((pgBody p j).length + (((enc (sAt p.keys j).size).length + (sAt p.keys j).size) + ((enc (sAt p.vals j).size).length + (sAt p.vals j).size)) ≤ 500) := by
        have := pgBody_room HF.out hjl
        rw [HPA.out] at this
        simp only [List.length_append, bytesOf_len] at this
        exact this
      have HCV : Hid (∀ u zs, Wl w u G b0 (some ⟨kb, ko, none⟩) kn kc (some ⟨vb, vo, none⟩) vn vc ia jn ic p zs → u.cell? ⟨vb, vo + j, none⟩ = some (.string (sAt p.vals j))) := by
        intro u zs hu
        obtain ⟨vb', vo', e, -, -, hc⟩ := hu.pg.hv.at (by omega)
        cases e
        exact hc j (by omega)
      clear hck
      generalize sAt p.keys j = kk at *
      generalize sAt p.vals j = vv at *
      go_wp2_with fail
      refine (textK_any G 512 _ kk _ L3.out.wr (by have := HKS.out; omega) (by have := HRM.out; omega) (by omega)).mono ?_
      rintro e w4 ⟨rfl, hb4, hw4, hk4'⟩
      have L4 := hid (L3.out.step hb4 hw4 hk4')
      have m4 := HCV.out _ _ L4.out
      clear hb4 hw4 hk4' L3 m0
      obtain ⟨c0, c1, c2⟩ := L4.out.cells
      go_wp2_with fail
      refine (textK_any G 512 _ vv _ L4.out.wr (by have := HVZ.out; omega) (by have := HRM.out; rw [List.length_append, List.length_append, bytesOf_len]; omega) (by omega)).mono ?_
      rintro e w5 ⟨rfl, hb5, hw5, hk5⟩
      have L5 := hid (L4.out.step hb5 hw5 hk5)
      have L6 : Hid (Wl w w5 G b0 (some ⟨kb, ko, none⟩) kn kc (some ⟨vb, vo, none⟩) vn vc ia jn ic p (pgBody p (j + 1))) := by rw [HST.out, ← List.append_assoc]; exact L5.out
      clear hb5 hw5 hk5 L4 L5 m4 c0 c1 c2 HCV HST HRM HKS HVZ
      go_wp2
      go_roundw
      case rel => exact ⟨j + 1, by omega, by go_num, L6⟩
      case measure => simp [intOf]; omega
    · have hjk : j = kn := by omega
      have HW : Hid (Wr wr G 512 (some (pgRaw p))) := by
        have := L3.out.wr
        rw [hjk, NK.out] at this
        exact this
      clear hjk
      go_wp2
      go_end0
      exact ⟨rfl, L3.out.be, HW.out⟩
set_option maxHeartbeats 4000000 in
set_option maxRecDepth 20000 in
theorem writeBranch_any (G : Nat) (ka : Option Addr) (kn kc : Nat) (va : Option Addr) (vn vc : Nat) (ia : Option Addr) (jn ic : Nat) (p : PG) (w : World) (hw : Wr w G 512 (some [])) (h : Pgr w (fun b => b < G) ka kn kc va vn vc ia jn ic p) (hF : PgF p) (h0 : ¬ p.kids.length = 0) :
    Calls Tryd.prog 37 #[.pointer (some ⟨G, 0, none⟩), .agg #[.slice ka kn kc, .slice va vn vc, .slice ia jn ic]] w fun e w' => e = .returned (.tuple #[]) ∧ Below G w w' ∧ Wr w' G 512 (some (pgRaw p)) := by
  have L0 := hid (Wl.start hw h)
  have NK := hid (Rw.len h.hk).1
  have NI := hid (Rw.len h.hi).1
  have bk := (Rw.len h.hk).2
  have bi := (Rw.len h.hi).2
  have HF := hid hF
  have HJN : Hid (jn = kn + 1) := by show _ = _; rw [NI.out, NK.out]; exact (hF.br h0).1
  have HIS := hid (hF.br h0).2
  have hk4 : kn ≤ 4 := by rw [NK.out]; exact hF.nk
  have hjp : 0 < jn := by have := HJN.out; omega
  have hjp' : (0 : Int) < (jn : Int) := by omega
  have HEH : Hid (pgHead p = [66] ++ enc (kn : Int) ++ enc (iAt p.kids 0)) := by show _ = _; rw [pgHead, if_neg h0, if_neg h0, ← NK.out]
  have HPA : Hid (∀ i, pgPart p i = (enc (sAt p.keys i).size ++ bytesOf (sAt p.keys i)) ++ enc (iAt p.kids (i + 1))) := fun i => by rw [pgPart, if_neg h0]
  have HK0 := hid (HIS.out 0 (by rw [← NI.out]; exact hjp))
  clear h hF h0 hw
  obtain ⟨ib, io, hia, -, -, -⟩ := L0.out.pg.hi.at hjp
  subst hia
  have HCI : Hid (∀ j, j < jn → ∀ u zs, Wl w u G w.heap.size ka kn kc va vn vc (some ⟨ib, io, none⟩) jn ic p zs → u.cell? ⟨ib, io + j, none⟩ = some (.int .i64 (iAt p.kids j))) := by
    intro j hj u zs hu
    obtain ⟨ib', io', e, -, -, hc⟩ := hu.pg.hi.at hjp
    cases e
    exact hc j hj
  go_enter Tryd.func37, Tryd.ntmps37
  go_wp2_with fail
  refine (addByteK_any G 512 [] 66 _ L0.out.wr (by omega) (by omega) (by simp) (by omega)).mono ?_
  generalize w.alloc (.cells #[.slice ka kn kc, .slice va vn vc, .slice (some ⟨ib, io, none⟩) jn ic] 30) = U at *
  generalize w.heap.size = b0 at *
  rintro e w1 ⟨rfl, hb1, hw1, hk1⟩
  have L1 := hid (L0.out.step hb1 hw1 hk1)
  clear hb1 hw1 hk1 L0
  obtain ⟨c0, c1, c2⟩ := L1.out.cells
  have hen := enc_len (kn : Int)
  have hen2 := enc_len (iAt p.kids 0)
  have HEN := hid hen
  have HEN2 := hid hen2
  clear hen hen2
  go_wp2_with fail
  refine (numberK_any G 512 _ (kn : Int) _ L1.out.wr (by omega) (by omega) (by have := HEN.out; simp; omega) (by omega)).mono ?_
  rintro e w2 ⟨rfl, hb2, hw2, hk2⟩
  have L2 := hid (L1.out.step hb2 hw2 hk2)
  have m2 := HCI.out 0 hjp _ _ L2.out
  rw [Nat.add_zero] at m2
  clear hb2 hw2 hk2 L1 c0 c1 c2
  obtain ⟨c0, c1, c2⟩ := L2.out.cells
  generalize hkid : iAt p.kids 0 = kid0 at *
  have HKID := hid hkid
  clear hkid
  have hkr := HK0.out
  go_wp2_with fail
  refine (numberK_any G 512 _ kid0 _ L2.out.wr (by omega) (by omega) (by have := HEN.out; have := HEN2.out; simp; omega) (by omega)).mono ?_
  rintro e w3 ⟨rfl, hb3, hw3, hk3⟩
  have L3' := hid (L2.out.step hb3 hw3 hk3)
  have L3 : Hid (Wl w w3 G b0 ka kn kc va vn vc (some ⟨ib, io, none⟩) jn ic p (pgBody p 0)) := by rw [pgBody, HEH.out]; exact L3'.out
  clear hb3 hw3 hk3 L2 L3' m2 c0 c1 c2 HEH
  obtain ⟨c0, c1, c2⟩ := L3.out.cells
  go_wp2_with fail
  clear c0 c1 c2
  go_loopw [22] (fun i wr => ∃ j : Nat, j ≤ kn ∧ i = .int .i64 j ∧ Hid (Wl w wr G b0 ka kn kc va vn vc (some ⟨ib, io, none⟩) jn ic p (pgBody p j))) (fun i _ => kn - (intOf i).toNat)
  case atStart => exact ⟨0, Nat.zero_le _, rfl, L3⟩
  case round =>
    obtain ⟨j, hj, rfl, L4⟩ := hrel
    clear L3
    by_cases hlt : j < kn
    · have hlt' : (j : Int) < (kn : Int) := by omega
      have hlt2 : (j : Int) + 1 < (jn : Int) := by have := HJN.out; omega
      have hjl : j < p.keys.length := by rw [← NK.out]; exact hlt
      obtain ⟨kb, ko, hka, -, -, hck⟩ := L4.out.pg.hk.at (by omega)
      subst hka
      have m0 := hck j hlt
      have HKS := hid (HF.out.ks j hjl)
      have HVZ := hid (HIS.out (j + 1) (by rw [← NI.out]; omega))
      have HST : Hid (pgBody p (j + 1) = pgBody p j ++ ((enc (sAt p.keys j).size ++ bytesOf (sAt p.keys j)) ++ enc (iAt p.kids (j + 1)))) := by show _ = _; rw [pgBody, HPA.out]
      have HRM : Hid ((pgBody p j).length + (((enc (sAt p.keys j).size).length + (sAt p.keys j).size) + (enc (iAt p.kids (j + 1))).length) ≤ 500) := by
        have := pgBody_room HF.out hjl
        rw [HPA.out] at this
        simp only [List.length_append, bytesOf_len] at this
        exact this
      have HCV := hid (HCI.out (j + 1) (by omega))
      clear hck
      generalize sAt p.keys j = kk at *
      generalize iAt p.kids (j + 1) = vv at *
      go_wp2_with fail
      refine (textK_any G 512 _ kk _ L4.out.wr (by have := HKS.out; omega) (by have := HRM.out; omega) (by omega)).mono ?_
      rintro e w4 ⟨rfl, hb4, hw4, hk4'⟩
      have L5 := hid (L4.out.step hb4 hw4 hk4')
      have m4 := HCV.out _ _ L5.out
      clear hb4 hw4 hk4' L4 m0
      obtain ⟨c0, c1, c2⟩ := L5.out.cells
      have hvz := HVZ.out
      go_wp2_with fail
      refine (numberK_any G 512 _ vv _ L5.out.wr (by omega) (by omega) (by have := HRM.out; rw [List.length_append, List.length_append, bytesOf_len]; omega) (by omega)).mono ?_
      rintro e w5 ⟨rfl, hb5, hw5, hk5⟩
      have L6 := hid (L5.out.step hb5 hw5 hk5)
      have L7 : Hid (Wl w w5 G b0 (some ⟨kb, ko, none⟩) kn kc va vn vc (some ⟨ib, io, none⟩) jn ic p (pgBody p (j + 1))) := by rw [HST.out, ← List.append_assoc]; exact L6.out
      clear hb5 hw5 hk5 L5 L6 m4 c0 c1 c2 HCV HST HRM HKS HVZ hvz
      go_wp2
      go_roundw
      case rel => exact ⟨j + 1, by omega, by go_num, L7⟩
      case measure => simp [intOf]; omega
    · have hjk : j = kn := by omega
      have HW : Hid (Wr wr G 512 (some (pgRaw p))) := by
        have := L4.out.wr
        rw [hjk, NK.out] at this
        exact this
      clear hjk
      go_wp2
      go_end0
      exact ⟨rfl, L4.out.be, HW.out⟩
theorem pgRaw_len {p : PG} (hF : PgF p) : (pgRaw p).length ≤ 512 := by
  have h1 := pgBody_len hF p.keys.length (Nat.le_refl _)
  have h2 := hF.nk
  show (pgBody p p.keys.length).length ≤ 512
  omega
set_option maxHeartbeats 4000000 in
set_option maxRecDepth 20000 in
theorem implPageBytes_any (S : Nat → Prop) (ka : Option Addr) (kn kc : Nat) (va : Option Addr) (vn vc : Nat) (ia : Option Addr) (jn ic : Nat) (p : PG) (w : World) (h : Pgr w S ka kn kc va vn vc ia jn ic p) (he : Err w 1) (he2 : Err w 0) :
    Calls Tryd.prog 10 #[.agg #[.slice ka kn kc, .slice va vn vc, .slice ia jn ic]] w fun e w' => Put w (pgBytes p) e w' := by
  have hb0 := below_new (o := .cells #[.slice ka kn kc, .slice va vn vc, .slice ia jn ic] 30) (w := w) (Below.refl _ _)
  have P0 := hid (h.below hb0)
  have B0 := hid hb0
  have K0 := hid (Bk.new w 30 [.slice ka kn kc, .slice va vn vc, .slice ia jn ic])
  have NI := hid (Rw.len h.hi).1
  have bi := (Rw.len h.hi).2
  have HE := hid he
  have HE2 := hid he2
  have HP : Hid (pgBytes p = if pgOk p = true then some (pgFull p) else none) := rfl
  clear h hb0 he he2
  go_enter Tryd.func10, Tryd.ntmps10
  go_wp2_with fail
  refine (implPageOk_any S ka kn kc va vn vc ia jn ic p _ P0.out).mono ?_
  generalize w.alloc (.cells #[.slice ka kn kc, .slice va vn vc, .slice ia jn ic] 30) = U at *
  rintro e w1 ⟨rfl, hb1⟩
  have B1 := hid (btw B0.out hb1)
  have K1 := hid (K0.out.below hb1)
  have P1 := hid (P0.out.below hb1)
  clear hb1 B0 K0 P0
  cases hok : pgOk p with
  | false =>
    have HN : Hid (pgBytes p = none) := by show _ = _; rw [HP.out, hok]; rfl
    go_wp2
    go_ret2
    exact ⟨B1.out, .inl ⟨HN.out, rfl⟩⟩
  | true =>
    have HN : Hid (pgBytes p = some (pgFull p)) := by show _ = _; rw [HP.out, hok]; rfl
    have HF := hid (pgOk_facts hok)
    have E1 := hid (HE.out.below B1.out HE.out.lt)
    have F1 := hid (HE2.out.below B1.out HE2.out.lt)
    clear hok HP HE HE2
    go_wp2_with fail
    refine (newWriter_any 512 none 0 0 [] w1 E1.out E1.out.lt (rd_nilM _) (by omega) (by omega)).mono ?_
    rintro e w2 ⟨rfl, hb2, hw2⟩
    have W2 : Hid (Wr w2 w1.heap.size 512 (some [])) := hw2
    have C2 := hid hb2
    have K2 := hid (K1.out.below hb2)
    have P2 : Hid (Pgr w2 (fun b => b < w1.heap.size) ka kn kc va vn vc ia jn ic p) := by
      have hm : Pgr w1 (fun b => b < w1.heap.size) ka kn kc va vn vc ia jn ic p := ⟨Rw.mono P1.out.hk (fun b _ hb => hb), Rw.mono P1.out.hv (fun b _ hb => hb), Rw.mono P1.out.hi (fun b _ hb => hb)⟩
      exact hm.below hb2
    clear hw2 hb2 K1 P1
    have c0 := K2.out.cell (j := 0) rfl
    have c1 := K2.out.cell (j := 1) rfl
    have c2 := K2.out.cell (j := 2) rfl
    have HFL : Hid (fillSt 512 (some (pgRaw p)) 512 = some (pgFull p)) := by
      show _ = _
      have hl := pgRaw_len HF.out
      have := fillSt_ok (most := 512) (zs := pgRaw p) (k := 512 - (pgRaw p).length) (by omega)
      rw [show (pgRaw p).length + (512 - (pgRaw p).length) = 512 by omega] at this
      exact this
    by_cases hi0 : jn = 0
    · have h00 : p.kids.length = 0 := by rw [← NI.out]; exact hi0
      have HWL := hid (writeLeaf_any w1.heap.size ka kn kc va vn vc ia jn ic p w2 W2.out P2.out HF.out h00)
      subst hi0
      clear h00
      go_wp2_with fail
      refine HWL.out.mono ?_
      rintro e w3 ⟨rfl, hb3, hw3⟩
      have W3 := hid hw3
      have C3 := hid (C2.out.trans hb3)
      clear hw3 hb3 HWL W2 C2 c0 c1 c2
      go_wp2_with fail
      refine (fill_any w1.heap.size 512 _ 512 w3 W3.out (by omega) (E1.out.below C3.out E1.out.lt) (F1.out.below C3.out F1.out.lt) E1.out.lt).mono ?_
      rintro e w4 ⟨rfl, hb4, hw4⟩
      rw [HFL.out] at hw4
      have W4 := hid hw4
      have C4 := hid (C3.out.trans hb4)
      clear hw4 hb4 W3 C3
      go_wp2_with fail
      refine (told_put w1 w4 512 _ W4.out C4.out).mono ?_
      rintro e w5 ⟨v, b, rfl, ⟨a3, n3, c3, rfl⟩, hput⟩
      rw [← HN.out] at hput
      have HQ := hid (hput.lift B1.out)
      clear hput
      go_wp2
      go_ret2
      exact HQ.out
    · have h00 : ¬ p.kids.length = 0 := by rw [← NI.out]; exact hi0
      have HWL := hid (writeBranch_any w1.heap.size ka kn kc va vn vc ia jn ic p w2 W2.out P2.out HF.out h00)
      have hi0' : ((jn : Int) == 0) = false := by simp; omega
      have hi0'' : ¬ (jn : Int) = 0 := by omega
      clear h00
      go_wp2_with fail
      refine HWL.out.mono ?_
      rintro e w3 ⟨rfl, hb3, hw3⟩
      have W3 := hid hw3
      have C3 := hid (C2.out.trans hb3)
      clear hw3 hb3 HWL W2 C2 c0 c1 c2
      go_wp2_with fail
      refine (fill_any w1.heap.size 512 _ 512 w3 W3.out (by omega) (E1.out.below C3.out E1.out.lt) (F1.out.below C3.out F1.out.lt) E1.out.lt).mono ?_
      rintro e w4 ⟨rfl, hb4, hw4⟩
      rw [HFL.out] at hw4
      have W4 := hid hw4
      have C4 := hid (C3.out.trans hb4)
      clear hw4 hb4 W3 C3
      go_wp2_with fail
      refine (told_put w1 w4 512 _ W4.out C4.out).mono ?_
      rintro e w5 ⟨v, b, rfl, ⟨a3, n3, c3, rfl⟩, hput⟩
      rw [← HN.out] at hput
      have HQ := hid (hput.lift B1.out)
      clear hput
      go_wp2
      go_ret2
      exact HQ.out
end Go.Proofs.YtpgogpphobafoaaDoor

