/-
  The messages that the laws draw, changed once more: what is kept.
-/
import Derived.Test.YtbaggkfgnjenoacDoorMg16
import Derived.Test.YtbaggkfgnjenoacDoorMg17
import Derived.Test.YtbaggkfgnjenoacDoorMg1
namespace Go.Proofs.YtbaggkfgnjenoacDoor
open Go.RowKit
set_option linter.unusedVariables false
theorem run_append_pq {w : World} (ty : TypeId) (B : Nat) (v : Value) (l : List PB) (hown : oqW w B v l) (g : Nat) (x : PB) (hB : Bk w g 54 (pcs [x])) (hb : l.length ≤ 1048576) (hbase : B ≤ w.heap.size) :
    ∃ a' n' c' w', (Builtin.append_ #[29, 29] ty #[v, .slice (some ⟨g, 0, none⟩) 1 1]).run Tryd.prog w = .ok (.slice a' n' c') w' ∧ oqW w' B (.slice a' n' c') (l ++ [x]) ∧ w.grownBy w' v.ownBlock ∧ ((Value.slice a' n' c').ownBlock = v.ownBlock ∨ (Value.slice a' n' c').ownBlock = some w.heap.size) := by
  obtain ⟨i, hi, hz, hsz, hby⟩ := info_of infoPairI
  obtain ⟨v', w', hr, h2, h3, h4⟩ := run_append_row_at (P := Tryd.prog) (w := w) B 29 ty 54 i _ 2 32 Tryd.underlying29 hi hz hsz hby rfl (by decide) v l.length (pcs l) hown (fun _ => True) _ 1 (pcs [x]) (hB.rw (Nat.le_refl _) (by omega) (fun h => by omega) _ trivial) rfl (pcs_one [x]) (by unfold maxLen; omega) (by omega) hbase
  obtain ⟨a', c', rfl⟩ := own_shape h2
  refine ⟨a', _, c', w', hr, ?_, h3, h4⟩
  unfold oqW
  rw [List.length_append, pcs_append]
  exact h2
/-- A draw of a message so far; its row lies apart from its box. -/
structure DN (w v : World) (g b : Nat) (zs cs : List Value) (sl : Value) (l : List PB) : Prop where
  dw : DW w v g b 31 zs cs
  ow : oqW v (w.heap.size + 1) sl l
  nb : ∀ y, sl.ownBlock = some y → y ≠ b
theorem DN.step {w v v' : World} {g b : Nat} {zs cs : List Value} {sl : Value} {l : List PB} (h : DN w v g b zs cs sl l) (hg : v.grownBy v' (some g)) (hc : Cu v' g) : DN w v' g b zs cs sl l :=
  ⟨h.dw.step hg hc, h.ow.to (only_of_grown hg (R := fun y => y = g) (fun k e => (Option.some.inj e).symm)) (fun y hy e => by have := h.ow.lt hy; have := h.dw.dg.ng; omega), h.nb⟩
theorem DN.setE {w v : World} {g b : Nat} {zs cs : List Value} {sl : Value} {l : List PB} (h : DN w v g b zs cs sl l) (j : Nat) (x : Value) {ys : List Value} (e : cs.set j x = ys) : DN w (v.setCell ⟨b, j, none⟩ x) g b zs ys sl l :=
  ⟨h.dw.setE j x e, h.ow.to (only_set (R := fun y => y = b) (p := ⟨b, j, none⟩) rfl _) (fun y hy e => h.nb y hy e), h.nb⟩
theorem DN.alloc {w v : World} {g b : Nat} {zs cs : List Value} {sl : Value} {l : List PB} (h : DN w v g b zs cs sl l) (o : Obj) : DN w (v.alloc o) g b zs cs sl l := ⟨h.dw.alloc o, h.ow.below (below_alloc _ _), h.nb⟩
theorem DN.drew {w v : World} {g b : Nat} {zs cs : List Value} {sl : Value} {l : List PB} (h : DN w v g b zs cs sl l) : DN w v.drew g b zs cs sl l :=
  ⟨⟨h.dw.dg.call (below_drew _), h.dw.k1.below (below_drew _), h.dw.kb.below (below_drew _), h.dw.lt⟩, h.ow.below (below_drew _), h.nb⟩
theorem DN.grow {w v v' : World} {g b : Nat} {zs cs : List Value} {sl sl' : Value} {l l' : List PB} (h : DN w v g b zs cs sl l) (hO : oqW v' (w.heap.size + 1) sl' l') (hg : v.grownBy v' sl.ownBlock) (ha : sl'.ownBlock = sl.ownBlock ∨ sl'.ownBlock = some v.heap.size) : DN w v' g b zs cs sl' l' := by
  have ho : Only (fun y => sl.ownBlock = some y) v v' := only_of_grown hg (fun k e => e)
  have hown : ∀ y, sl.ownBlock = some y → w.heap.size + 1 ≤ y := fun y hy => (h.ow.lt hy).1
  have hng := h.dw.dg.ng
  have hlt := h.dw.lt
  have hbl := h.dw.kb.lt
  refine ⟨⟨⟨⟨hg.os.trans h.dw.dg.gr.os, hg.tape.trans h.dw.dg.gr.tape, hg.output.trans h.dw.dg.gr.output, Nat.le_trans h.dw.dg.gr.size hg.size, fun k hk hne => (hg.block k (Nat.lt_of_lt_of_le hk h.dw.dg.gr.size) (fun e => by have := hown k e.symm; omega)).trans (h.dw.dg.gr.block k hk hne)⟩, h.dw.dg.cu.kept hg (fun k e => by have := hown k e; omega), hng⟩, h.dw.k1.to ho (fun e => by have := hown _ e; omega), h.dw.kb.to ho (fun e => h.nb _ e rfl), hlt⟩, hO, fun y hy => ?_⟩
  rcases ha with e | e
  · rw [e] at hy; exact h.nb y hy
  · rw [e] at hy
    have := Option.some.inj hy
    omega
end Go.Proofs.YtbaggkfgnjenoacDoor
/-
  The program's reader of messages: pairs.
-/
namespace Go.Proofs.YtbaggkfgnjenoacDoor
open Go.RowKit
set_option linter.unusedVariables false
set_option maxHeartbeats 8000000 in
set_option maxRecDepth 20000 in
theorem mpairs_any (R : Nat) (a : Option Addr) (n c : Nat) (zs : List Int) (q : Int) (w : World) (h : Rm w R a n c zs q) :
    Calls Tryd.prog 47 #[.pointer (some ⟨R, 0, none⟩)] w fun r w' => ∃ (va : Option Addr) (vn vc : Nat) (ps : List PB) (t q1 q' : Int), r = .returned (.slice va vn vc) ∧ NRd zs q [t] q1 ∧ PRd zs q1 ps q' ∧ (ps.length : Int) = max 0 (min t 8) ∧ oqW w' w.heap.size (.slice va vn vc) ps ∧ Rm w' R a n c zs q' ∧ Only (fun y => y = R ∨ w.heap.size ≤ y) w w' := by
  have hRlt := h.bk.lt
  obtain ⟨t, Q1, ht⟩ : ∃ x y, gv zs q = (x, y) := ⟨_, _, rfl⟩
  have HT : Hid (NRd zs q [t] Q1) := ⟨Q1, ht, rfl⟩
  have HG := hid ht
  have hrg : 0 ≤ t ∧ t ≤ 1099511627775 := by
    rcases gv_range zs h.rd.2.2.2.2.1 q with e | ⟨j, _, _, _, h3, h4⟩
    · rw [ht] at e
      have : t = 0 := (Prod.mk.inj e).1
      omega
    · rw [ht] at h3 h4
      exact ⟨h3, h4⟩
  obtain ⟨ht0, ht1⟩ := hrg
  have H0 := hid h
  clear h ht
  by_cases ht8 : t ≤ 8
  · skip
    obtain ⟨M, hM⟩ : ∃ M : Nat, (M : Int) = t := ⟨(t).toNat, by omega⟩
    have HM : Hid ((M : Int) = max 0 (min t 8)) := by show _ = _; omega
    have hM8 : M ≤ 8 := by omega
    go_enter Tryd.func47, Tryd.ntmps47
    go_wp2_with fail
    refine (mnum_any R a n c zs q t Q1 HG.out _ H0.out).mono ?_
    rintro r w1 ⟨rfl, hr, ho, hz⟩
    have RM1 := hid hr
    have B1 : Hid (Only (fun y => y = R ∨ w.heap.size ≤ y) w w1) := ho.mono (fun y _ hy => .inl hy)
    have Z1 := hid hz
    clear hr ho hz H0 HG
    go_wp2_with fail
    rw [← hM]
    clear hM
    go_loopw [3, 8] (fun x i wr => ∃ (j : Nat) (va : Option Addr) (vn vc : Nat) (l : List PB) (qj : Int), j ≤ M ∧ i = .int .i64 j ∧ x = .slice va vn vc ∧ Hid (l.length = j) ∧ Hid (oqW wr w.heap.size (.slice va vn vc) l) ∧ Hid (PRd zs Q1 l qj) ∧ Hid (Rm wr R a n c zs qj) ∧ Hid (Only (fun y => y = R ∨ w.heap.size ≤ y) w wr)) (fun _ i _ => M - (intOf i).toNat)
    case atStart => exact ⟨0, none, 0, 0, [], Q1, Nat.zero_le _, rfl, rfl, rfl, oqw_nil _ _, rfl, RM1.out, B1.out⟩
    case round =>
      obtain ⟨j, va, vn, vc, l, qj, hj, rfl, rfl, HL, HO, HP, HR, HB⟩ := hrel
      clear RM1 B1 Z1
      by_cases hlt : j < M
      · have hlt' : (j : Int) < (M : Int) := by omega
        obtain ⟨s1, q1, hs1⟩ : ∃ x y, (strOf (gt zs qj).1, (gt zs qj).2) = (x, y) := ⟨_, _, rfl⟩
        obtain ⟨s2, q2, hs2⟩ : ∃ x y, (strOf (gt zs q1).1, (gt zs q1).2) = (x, y) := ⟨_, _, rfl⟩
        have HPN : Hid (PRd zs Q1 (l ++ [(s1, s2)]) q2) := HP.out.snoc ⟨q1, hs1, q2, hs2, rfl⟩
        have hsz := HB.out.size
        have hbN := below_new (o := .cells #[.string ⟨#[]⟩, .string ⟨#[]⟩] 54) (w := wr) (Below.refl _ _)
        have RA := hid (HR.out.below hbN)
        have OA := hid (HO.out.below hbN)
        have KA := hid (Bk.new wr 54 [.string ⟨#[]⟩, .string ⟨#[]⟩])
        have BA : Hid (Only (fun y => y = R ∨ w.heap.size ≤ y) w (wr.alloc (.cells #[.string ⟨#[]⟩, .string ⟨#[]⟩] 54))) := HB.out.trans (only_of_below hbN _)
        have HLB : Hid (∀ y, (Value.slice va vn vc).ownBlock = some y → w.heap.size ≤ y ∧ y < wr.heap.size) := fun y hy => HO.out.lt hy
        clear HR HO HB HP hbN
        go_wp2_with fail
        refine (mtext_any R a n c zs qj s1 q1 hs1 _ RA.out).mono ?_
        generalize wr.alloc (.cells #[.string ⟨#[]⟩, .string ⟨#[]⟩] 54) = U at *
        generalize wr.heap.size = bp at *
        rintro r w2 ⟨rfl, hr, ho, hz⟩
        have R2 := hid hr
        have O2 := hid (OA.out.to ho (fun y hy e => by have := HLB.out y hy; omega))
        have K2 := hid (KA.out.to ho (fun e => by omega))
        have B2 : Hid (Only (fun y => y = R ∨ w.heap.size ≤ y) w w2) := BA.out.trans (ho.mono (fun y _ hy => .inl hy))
        clear hr ho hz RA OA KA BA
        have R2s : Hid (Rm (w2.setCell ⟨bp, 0, none⟩ (.string s1)) R a n c zs q1) := R2.out.to (only_set (R := fun y => y = bp) (p := ⟨bp, 0, none⟩) rfl _) (fun y hy => by omega)
        have O2s : Hid (oqW (w2.setCell ⟨bp, 0, none⟩ (.string s1)) w.heap.size (.slice va vn vc) l) := O2.out.to (only_set (R := fun y => y = bp) (p := ⟨bp, 0, none⟩) rfl _) (fun y hy e => by have := HLB.out y hy; omega)
        have K2s : Hid (Bk (w2.setCell ⟨bp, 0, none⟩ (.string s1)) bp 54 [.string s1, .string ⟨#[]⟩]) := K2.out.set 0 _
        have B2s : Hid (Only (fun y => y = R ∨ w.heap.size ≤ y) w (w2.setCell ⟨bp, 0, none⟩ (.string s1))) := only_step B2.out (.inr hsz) 0 _
        have y0 := K2.out.cell (j := 0) rfl
        have f0 := K2.out.free 0
        go_wp2_with fail
        refine (mtext_any R a n c zs q1 s2 q2 hs2 _ R2s.out).mono ?_
        generalize w2.setCell ⟨bp, 0, none⟩ (.string s1) = V2 at *
        clear y0 f0 R2 O2 K2 B2
        rintro r w3 ⟨rfl, hr, ho, hz⟩
        have R3 := hid hr
        have O3 := hid (O2s.out.to ho (fun y hy e => by have := HLB.out y hy; omega))
        have K3 := hid (K2s.out.to ho (fun e => by omega))
        have B3 : Hid (Only (fun y => y = R ∨ w.heap.size ≤ y) w w3) := B2s.out.trans (ho.mono (fun y _ hy => .inl hy))
        clear hr ho hz R2s O2s K2s B2s
        have R3s : Hid (Rm (w3.setCell ⟨bp, 1, none⟩ (.string s2)) R a n c zs q2) := R3.out.to (only_set (R := fun y => y = bp) (p := ⟨bp, 1, none⟩) rfl _) (fun y hy => by omega)
        have O3s : Hid (oqW (w3.setCell ⟨bp, 1, none⟩ (.string s2)) w.heap.size (.slice va vn vc) l) := O3.out.to (only_set (R := fun y => y = bp) (p := ⟨bp, 1, none⟩) rfl _) (fun y hy e => by have := HLB.out y hy; omega)
        have K3s : Hid (Bk (w3.setCell ⟨bp, 1, none⟩ (.string s2)) bp 54 [.string s1, .string s2]) := K3.out.set 1 _
        have B3s : Hid (Only (fun y => y = R ∨ w.heap.size ≤ y) w (w3.setCell ⟨bp, 1, none⟩ (.string s2))) := only_step B3.out (.inr hsz) 1 _
        have y1 := K3.out.cell (j := 1) rfl
        have f1 := K3.out.free 1
        go_upto_region 7 with (fail)
        generalize w3.setCell ⟨bp, 1, none⟩ (.string s2) = V3 at *
        clear y1 f1 R3 O3 K3 B3
        have y0 := K3s.out.cell (j := 0) rfl
        have y1 := K3s.out.cell (j := 1) rfl
        have hbM := below_new (o := .cells #[.string s1, .string s2] 54) (w := V3) (Below.refl _ _)
        have R4 := hid (R3s.out.below hbM)
        have O4 := hid (O3s.out.below hbM)
        have B4 : Hid (Only (fun y => y = R ∨ w.heap.size ≤ y) w (V3.alloc (.cells #[.string s1, .string s2] 54))) := B3s.out.trans (only_of_below hbM _)
        have K4 := hid (Bk.new V3 54 (pcs [(s1, s2)]))
        have S4 : Hid (w.heap.size ≤ (V3.alloc (.cells #[.string s1, .string s2] 54)).heap.size) := B4.out.size
        have hl2 : l.length ≤ 8 := by rw [HL.out]; omega
        have HLN : Hid ((l ++ [(s1, s2)]).length = j + 1) := by show _ = _; rw [List.length_append, HL.out]; rfl
        clear hbM
        go_wp2_with (at_builtin; refine wpList_append_pairs rfl _ _ rfl w.heap.size _ l rfl O4.out (fun _ => True) _ [(s1, s2)] rfl (K4.out.pr rfl (by simp) (fun _ => True) trivial) (by simp; omega) S4.out ?_; intro v' w5 hO hg)
        have ho5 : Only (fun y => (Value.slice va vn vc).ownBlock = some y) (V3.alloc (.cells #[.string s1, .string s2] 54)) w5 := only_of_grown hg (fun k e => e)
        have R5 := hid (R4.out.to ho5 (fun y hy => by have := HLB.out y hy; omega))
        have B5 : Hid (Only (fun y => y = R ∨ w.heap.size ≤ y) w w5) := B4.out.trans (ho5.mono (fun y _ hy => .inr (HLB.out y hy).1))
        have O5 : Hid (oqW w5 w.heap.size v' (l ++ [(s1, s2)])) := hO
        obtain ⟨xa, xn, xc, rfl, _⟩ := Ow.shape' hO
        clear hO hg ho5 R4 O4 B4 K4 S4 y0 y1 R3s O3s K3s B3s
        go_wp2
        go_roundw
        case rel => exact ⟨j + 1, xa, xn, xc, l ++ [(s1, s2)], q2, by omega, by go_num, rfl, HLN.out, O5.out, HPN.out, R5.out, B5.out⟩
        case measure => simp [intOf]; omega
      · have HE : Hid ((l.length : Int) = max 0 (min t 8)) := by
          show _ = _
          rw [HL.out, ← HM.out]
          omega
        go_wp2
        go_ret
        exact ⟨va, vn, vc, l, t, Q1, qj, rfl, HT.out, HP.out, HE.out, HO.out, HR.out, HB.out⟩
  · skip
    obtain ⟨M, hM⟩ : ∃ M : Nat, (M : Int) = (8 : Int) := ⟨((8 : Int)).toNat, by omega⟩
    have HM : Hid ((M : Int) = max 0 (min t 8)) := by show _ = _; omega
    have hM8 : M ≤ 8 := by omega
    go_enter Tryd.func47, Tryd.ntmps47
    go_wp2_with fail
    refine (mnum_any R a n c zs q t Q1 HG.out _ H0.out).mono ?_
    rintro r w1 ⟨rfl, hr, ho, hz⟩
    have RM1 := hid hr
    have B1 : Hid (Only (fun y => y = R ∨ w.heap.size ≤ y) w w1) := ho.mono (fun y _ hy => .inl hy)
    have Z1 := hid hz
    clear hr ho hz H0 HG
    go_wp2_with fail
    rw [← hM]
    clear hM
    go_loopw [3, 8] (fun x i wr => ∃ (j : Nat) (va : Option Addr) (vn vc : Nat) (l : List PB) (qj : Int), j ≤ M ∧ i = .int .i64 j ∧ x = .slice va vn vc ∧ Hid (l.length = j) ∧ Hid (oqW wr w.heap.size (.slice va vn vc) l) ∧ Hid (PRd zs Q1 l qj) ∧ Hid (Rm wr R a n c zs qj) ∧ Hid (Only (fun y => y = R ∨ w.heap.size ≤ y) w wr)) (fun _ i _ => M - (intOf i).toNat)
    case atStart => exact ⟨0, none, 0, 0, [], Q1, Nat.zero_le _, rfl, rfl, rfl, oqw_nil _ _, rfl, RM1.out, B1.out⟩
    case round =>
      obtain ⟨j, va, vn, vc, l, qj, hj, rfl, rfl, HL, HO, HP, HR, HB⟩ := hrel
      clear RM1 B1 Z1
      by_cases hlt : j < M
      · have hlt' : (j : Int) < (M : Int) := by omega
        obtain ⟨s1, q1, hs1⟩ : ∃ x y, (strOf (gt zs qj).1, (gt zs qj).2) = (x, y) := ⟨_, _, rfl⟩
        obtain ⟨s2, q2, hs2⟩ : ∃ x y, (strOf (gt zs q1).1, (gt zs q1).2) = (x, y) := ⟨_, _, rfl⟩
        have HPN : Hid (PRd zs Q1 (l ++ [(s1, s2)]) q2) := HP.out.snoc ⟨q1, hs1, q2, hs2, rfl⟩
        have hsz := HB.out.size
        have hbN := below_new (o := .cells #[.string ⟨#[]⟩, .string ⟨#[]⟩] 54) (w := wr) (Below.refl _ _)
        have RA := hid (HR.out.below hbN)
        have OA := hid (HO.out.below hbN)
        have KA := hid (Bk.new wr 54 [.string ⟨#[]⟩, .string ⟨#[]⟩])
        have BA : Hid (Only (fun y => y = R ∨ w.heap.size ≤ y) w (wr.alloc (.cells #[.string ⟨#[]⟩, .string ⟨#[]⟩] 54))) := HB.out.trans (only_of_below hbN _)
        have HLB : Hid (∀ y, (Value.slice va vn vc).ownBlock = some y → w.heap.size ≤ y ∧ y < wr.heap.size) := fun y hy => HO.out.lt hy
        clear HR HO HB HP hbN
        go_wp2_with fail
        refine (mtext_any R a n c zs qj s1 q1 hs1 _ RA.out).mono ?_
        generalize wr.alloc (.cells #[.string ⟨#[]⟩, .string ⟨#[]⟩] 54) = U at *
        generalize wr.heap.size = bp at *
        rintro r w2 ⟨rfl, hr, ho, hz⟩
        have R2 := hid hr
        have O2 := hid (OA.out.to ho (fun y hy e => by have := HLB.out y hy; omega))
        have K2 := hid (KA.out.to ho (fun e => by omega))
        have B2 : Hid (Only (fun y => y = R ∨ w.heap.size ≤ y) w w2) := BA.out.trans (ho.mono (fun y _ hy => .inl hy))
        clear hr ho hz RA OA KA BA
        have R2s : Hid (Rm (w2.setCell ⟨bp, 0, none⟩ (.string s1)) R a n c zs q1) := R2.out.to (only_set (R := fun y => y = bp) (p := ⟨bp, 0, none⟩) rfl _) (fun y hy => by omega)
        have O2s : Hid (oqW (w2.setCell ⟨bp, 0, none⟩ (.string s1)) w.heap.size (.slice va vn vc) l) := O2.out.to (only_set (R := fun y => y = bp) (p := ⟨bp, 0, none⟩) rfl _) (fun y hy e => by have := HLB.out y hy; omega)
        have K2s : Hid (Bk (w2.setCell ⟨bp, 0, none⟩ (.string s1)) bp 54 [.string s1, .string ⟨#[]⟩]) := K2.out.set 0 _
        have B2s : Hid (Only (fun y => y = R ∨ w.heap.size ≤ y) w (w2.setCell ⟨bp, 0, none⟩ (.string s1))) := only_step B2.out (.inr hsz) 0 _
        have y0 := K2.out.cell (j := 0) rfl
        have f0 := K2.out.free 0
        go_wp2_with fail
        refine (mtext_any R a n c zs q1 s2 q2 hs2 _ R2s.out).mono ?_
        generalize w2.setCell ⟨bp, 0, none⟩ (.string s1) = V2 at *
        clear y0 f0 R2 O2 K2 B2
        rintro r w3 ⟨rfl, hr, ho, hz⟩
        have R3 := hid hr
        have O3 := hid (O2s.out.to ho (fun y hy e => by have := HLB.out y hy; omega))
        have K3 := hid (K2s.out.to ho (fun e => by omega))
        have B3 : Hid (Only (fun y => y = R ∨ w.heap.size ≤ y) w w3) := B2s.out.trans (ho.mono (fun y _ hy => .inl hy))
        clear hr ho hz R2s O2s K2s B2s
        have R3s : Hid (Rm (w3.setCell ⟨bp, 1, none⟩ (.string s2)) R a n c zs q2) := R3.out.to (only_set (R := fun y => y = bp) (p := ⟨bp, 1, none⟩) rfl _) (fun y hy => by omega)
        have O3s : Hid (oqW (w3.setCell ⟨bp, 1, none⟩ (.string s2)) w.heap.size (.slice va vn vc) l) := O3.out.to (only_set (R := fun y => y = bp) (p := ⟨bp, 1, none⟩) rfl _) (fun y hy e => by have := HLB.out y hy; omega)
        have K3s : Hid (Bk (w3.setCell ⟨bp, 1, none⟩ (.string s2)) bp 54 [.string s1, .string s2]) := K3.out.set 1 _
        have B3s : Hid (Only (fun y => y = R ∨ w.heap.size ≤ y) w (w3.setCell ⟨bp, 1, none⟩ (.string s2))) := only_step B3.out (.inr hsz) 1 _
        have y1 := K3.out.cell (j := 1) rfl
        have f1 := K3.out.free 1
        go_upto_region 7 with (fail)
        generalize w3.setCell ⟨bp, 1, none⟩ (.string s2) = V3 at *
        clear y1 f1 R3 O3 K3 B3
        have y0 := K3s.out.cell (j := 0) rfl
        have y1 := K3s.out.cell (j := 1) rfl
        have hbM := below_new (o := .cells #[.string s1, .string s2] 54) (w := V3) (Below.refl _ _)
        have R4 := hid (R3s.out.below hbM)
        have O4 := hid (O3s.out.below hbM)
        have B4 : Hid (Only (fun y => y = R ∨ w.heap.size ≤ y) w (V3.alloc (.cells #[.string s1, .string s2] 54))) := B3s.out.trans (only_of_below hbM _)
        have K4 := hid (Bk.new V3 54 (pcs [(s1, s2)]))
        have S4 : Hid (w.heap.size ≤ (V3.alloc (.cells #[.string s1, .string s2] 54)).heap.size) := B4.out.size
        have hl2 : l.length ≤ 8 := by rw [HL.out]; omega
        have HLN : Hid ((l ++ [(s1, s2)]).length = j + 1) := by show _ = _; rw [List.length_append, HL.out]; rfl
        clear hbM
        go_wp2_with (at_builtin; refine wpList_append_pairs rfl _ _ rfl w.heap.size _ l rfl O4.out (fun _ => True) _ [(s1, s2)] rfl (K4.out.pr rfl (by simp) (fun _ => True) trivial) (by simp; omega) S4.out ?_; intro v' w5 hO hg)
        have ho5 : Only (fun y => (Value.slice va vn vc).ownBlock = some y) (V3.alloc (.cells #[.string s1, .string s2] 54)) w5 := only_of_grown hg (fun k e => e)
        have R5 := hid (R4.out.to ho5 (fun y hy => by have := HLB.out y hy; omega))
        have B5 : Hid (Only (fun y => y = R ∨ w.heap.size ≤ y) w w5) := B4.out.trans (ho5.mono (fun y _ hy => .inr (HLB.out y hy).1))
        have O5 : Hid (oqW w5 w.heap.size v' (l ++ [(s1, s2)])) := hO
        obtain ⟨xa, xn, xc, rfl, _⟩ := Ow.shape' hO
        clear hO hg ho5 R4 O4 B4 K4 S4 y0 y1 R3s O3s K3s B3s
        go_wp2
        go_roundw
        case rel => exact ⟨j + 1, xa, xn, xc, l ++ [(s1, s2)], q2, by omega, by go_num, rfl, HLN.out, O5.out, HPN.out, R5.out, B5.out⟩
        case measure => simp [intOf]; omega
      · have HE : Hid ((l.length : Int) = max 0 (min t 8)) := by
          show _ = _
          rw [HL.out, ← HM.out]
          omega
        go_wp2
        go_ret
        exact ⟨va, vn, vc, l, t, Q1, qj, rfl, HT.out, HP.out, HE.out, HO.out, HR.out, HB.out⟩
end Go.Proofs.YtbaggkfgnjenoacDoor
/-
  The program's reader of messages: the whole.
-/
namespace Go.Proofs.YtbaggkfgnjenoacDoor
open Go.RowKit
set_option linter.unusedVariables false
theorem NRd.cat {zs : List Int} {l l' : List Int} : ∀ {p q r : Int}, NRd zs p l q → NRd zs q l' r → NRd zs p (l ++ l') r := by
  induction l with
  | nil => intro p q r h k; subst h; exact k
  | cons n l ih => intro p q r h k; obtain ⟨p', h1, h2⟩ := h; exact ⟨p', h1, ih h2 k⟩
set_option maxHeartbeats 16000000 in
set_option maxRecDepth 20000 in
theorem mmsg_any (R : Nat) (a : Option Addr) (n c : Nat) (zs : List Int) (w : World) (h : Rm w R a n c zs 0) :
    Calls Tryd.prog 25 #[.pointer (some ⟨R, 0, none⟩)] w fun r w' => ∃ (m : MS) (pa : Option Addr) (pn pc : Nat), r = .returned (.agg #[.int .i64 m.kd, .int .i64 m.c, .int .i64 m.e, .int .i64 m.n, .int .i64 m.sh, .int .i64 m.nu, .int .i64 m.st, .int .i64 m.k, .string m.ky, .string m.vl, .string m.lo, .string m.hi, .int .i64 m.mo, .bool m.bk, .int .i64 m.cd, .slice pa pn pc, .bool m.ys]) ∧ Trc 8 zs m ∧ oqW w' w.heap.size (.slice pa pn pc) m.ps ∧ Only (fun y => y = R ∨ w.heap.size ≤ y) w w' := by
  obtain ⟨q, hq0⟩ : ∃ q : Int, q = 0 := ⟨_, rfl⟩
  rw [← hq0] at h
  have HQ0 := hid hq0
  clear hq0
  obtain ⟨xkd, Q1, hxkd⟩ : ∃ x y, gv zs q = (x, y) := ⟨_, _, rfl⟩
  have hRlt := h.bk.lt
  have RM0 : Hid (Rm ((w.alloc (.cells #[.int .i64 0, .int .i64 0, .int .i64 0, .int .i64 0, .int .i64 0, .int .i64 0, .int .i64 0, .int .i64 0, .string ⟨#[]⟩, .string ⟨#[]⟩, .string ⟨#[]⟩, .string ⟨#[]⟩, .int .i64 0, .bool false, .int .i64 0, .slice none 0 0, .bool false] 31)).alloc (.cells #[.int .i64 0, .int .i64 0, .int .i64 0, .int .i64 0, .int .i64 0, .int .i64 0, .int .i64 0, .int .i64 0, .string ⟨#[]⟩, .string ⟨#[]⟩, .string ⟨#[]⟩, .string ⟨#[]⟩, .int .i64 0, .bool false, .int .i64 0, .slice none 0 0, .bool false] 31)) R a n c zs q) := h.below (below_new (below_new (Below.refl _ _)))
  have J0 := hid ((Bk.new w 31 [.int .i64 0, .int .i64 0, .int .i64 0, .int .i64 0, .int .i64 0, .int .i64 0, .int .i64 0, .int .i64 0, .string ⟨#[]⟩, .string ⟨#[]⟩, .string ⟨#[]⟩, .string ⟨#[]⟩, .int .i64 0, .bool false, .int .i64 0, .slice none 0 0, .bool false]).alloc (.cells #[.int .i64 0, .int .i64 0, .int .i64 0, .int .i64 0, .int .i64 0, .int .i64 0, .int .i64 0, .int .i64 0, .string ⟨#[]⟩, .string ⟨#[]⟩, .string ⟨#[]⟩, .string ⟨#[]⟩, .int .i64 0, .bool false, .int .i64 0, .slice none 0 0, .bool false] 31))
  have I0 := hid (Bk.new (w.alloc (.cells #[.int .i64 0, .int .i64 0, .int .i64 0, .int .i64 0, .int .i64 0, .int .i64 0, .int .i64 0, .int .i64 0, .string ⟨#[]⟩, .string ⟨#[]⟩, .string ⟨#[]⟩, .string ⟨#[]⟩, .int .i64 0, .bool false, .int .i64 0, .slice none 0 0, .bool false] 31)) 31 [.int .i64 0, .int .i64 0, .int .i64 0, .int .i64 0, .int .i64 0, .int .i64 0, .int .i64 0, .int .i64 0, .string ⟨#[]⟩, .string ⟨#[]⟩, .string ⟨#[]⟩, .string ⟨#[]⟩, .int .i64 0, .bool false, .int .i64 0, .slice none 0 0, .bool false])
  rw [show (w.alloc (.cells #[.int .i64 0, .int .i64 0, .int .i64 0, .int .i64 0, .int .i64 0, .int .i64 0, .int .i64 0, .int .i64 0, .string ⟨#[]⟩, .string ⟨#[]⟩, .string ⟨#[]⟩, .string ⟨#[]⟩, .int .i64 0, .bool false, .int .i64 0, .slice none 0 0, .bool false] 31)).heap.size = w.heap.size + 1 by simp] at I0
  have B0 : Hid (Only (fun y => y = R ∨ w.heap.size ≤ y) w ((w.alloc (.cells #[.int .i64 0, .int .i64 0, .int .i64 0, .int .i64 0, .int .i64 0, .int .i64 0, .int .i64 0, .int .i64 0, .string ⟨#[]⟩, .string ⟨#[]⟩, .string ⟨#[]⟩, .string ⟨#[]⟩, .int .i64 0, .bool false, .int .i64 0, .slice none 0 0, .bool false] 31)).alloc (.cells #[.int .i64 0, .int .i64 0, .int .i64 0, .int .i64 0, .int .i64 0, .int .i64 0, .int .i64 0, .int .i64 0, .string ⟨#[]⟩, .string ⟨#[]⟩, .string ⟨#[]⟩, .string ⟨#[]⟩, .int .i64 0, .bool false, .int .i64 0, .slice none 0 0, .bool false] 31))) := only_of_below (below_new (below_new (Below.refl _ _))) _
  clear h
  go_enter Tryd.func25, Tryd.ntmps25
  go_wp2_with fail
  refine (mnum_any R a n c zs q xkd Q1 hxkd _ RM0.out).mono ?_
  generalize (w.alloc (.cells #[.int .i64 0, .int .i64 0, .int .i64 0, .int .i64 0, .int .i64 0, .int .i64 0, .int .i64 0, .int .i64 0, .string ⟨#[]⟩, .string ⟨#[]⟩, .string ⟨#[]⟩, .string ⟨#[]⟩, .int .i64 0, .bool false, .int .i64 0, .slice none 0 0, .bool false] 31)).alloc (.cells #[.int .i64 0, .int .i64 0, .int .i64 0, .int .i64 0, .int .i64 0, .int .i64 0, .int .i64 0, .int .i64 0, .string ⟨#[]⟩, .string ⟨#[]⟩, .string ⟨#[]⟩, .string ⟨#[]⟩, .int .i64 0, .bool false, .int .i64 0, .slice none 0 0, .bool false] 31) = U at *
  rintro r w1 ⟨rfl, hr, ho, hz⟩
  have hv := I0.out.lt
  have J1a := hid (J0.out.to ho (fun e => by omega))
  have I1a := hid (I0.out.to ho (fun e => by omega))
  have B1a : Hid (Only (fun y => y = R ∨ w.heap.size ≤ y) w w1) := B0.out.trans (ho.mono (fun y _ hy => .inl hy))
  have RM1a := hid hr
  have I1 : Hid (Bk (w1.setCell ⟨w.heap.size + 1, 0, none⟩ (.int .i64 xkd)) (w.heap.size + 1) 31 [.int .i64 xkd, .int .i64 0, .int .i64 0, .int .i64 0, .int .i64 0, .int .i64 0, .int .i64 0, .int .i64 0, .string ⟨#[]⟩, .string ⟨#[]⟩, .string ⟨#[]⟩, .string ⟨#[]⟩, .int .i64 0, .bool false, .int .i64 0, .slice none 0 0, .bool false]) := (setE I1a.out 0 (.int .i64 xkd) (ys := [.int .i64 xkd, .int .i64 0, .int .i64 0, .int .i64 0, .int .i64 0, .int .i64 0, .int .i64 0, .int .i64 0, .string ⟨#[]⟩, .string ⟨#[]⟩, .string ⟨#[]⟩, .string ⟨#[]⟩, .int .i64 0, .bool false, .int .i64 0, .slice none 0 0, .bool false]) rfl)
  have J1 : Hid (Bk (w1.setCell ⟨w.heap.size + 1, 0, none⟩ (.int .i64 xkd)) w.heap.size 31 [.int .i64 0, .int .i64 0, .int .i64 0, .int .i64 0, .int .i64 0, .int .i64 0, .int .i64 0, .int .i64 0, .string ⟨#[]⟩, .string ⟨#[]⟩, .string ⟨#[]⟩, .string ⟨#[]⟩, .int .i64 0, .bool false, .int .i64 0, .slice none 0 0, .bool false]) := (J1a.out.setOther (by omega) _ _)
  have B1 : Hid (Only (fun y => y = R ∨ w.heap.size ≤ y) w (w1.setCell ⟨w.heap.size + 1, 0, none⟩ (.int .i64 xkd))) := (only_step B1a.out (.inr (by omega)) 0 _)
  have RM1 : Hid (Rm (w1.setCell ⟨w.heap.size + 1, 0, none⟩ (.int .i64 xkd)) R a n c zs Q1) := (RM1a.out.to (only_set (R := fun y => y = w.heap.size + 1) (p := ⟨w.heap.size + 1, 0, none⟩) rfl _) (fun y hy => by omega))
  have y0 := I1a.out.cell (j := 0) rfl
  have f0 := I1a.out.free 0
  clear hr ho hv J0 I0 B0 RM0
  go_upto_region 3 with (fail)
  generalize (w1.setCell ⟨w.heap.size + 1, 0, none⟩ (.int .i64 xkd)) = V1 at *
  clear y0 f0
  clear J1a I1a B1a RM1a
  go_wp2_with fail
  refine (mtx_any R a n c zs Q1 _ RM1.out).mono ?_
  rintro r w2 ⟨xc, xe, xn, Q2, rfl, ht2, hr, ho⟩
  have hv := I1.out.lt
  have J2a := hid (J1.out.to ho (fun e => by omega))
  have I2a := hid (I1.out.to ho (fun e => by omega))
  have B2a : Hid (Only (fun y => y = R ∨ w.heap.size ≤ y) w w2) := B1.out.trans (ho.mono (fun y _ hy => by rcases hy with h | h; exact .inl h; exact .inr (by omega)))
  have RM2a := hid hr
  have I2 : Hid (Bk (((w2.setCell ⟨w.heap.size + 1, 1, none⟩ (.int .i64 xc)).setCell ⟨w.heap.size + 1, 2, none⟩ (.int .i64 xe)).setCell ⟨w.heap.size + 1, 3, none⟩ (.int .i64 xn)) (w.heap.size + 1) 31 [.int .i64 xkd, .int .i64 xc, .int .i64 xe, .int .i64 xn, .int .i64 0, .int .i64 0, .int .i64 0, .int .i64 0, .string ⟨#[]⟩, .string ⟨#[]⟩, .string ⟨#[]⟩, .string ⟨#[]⟩, .int .i64 0, .bool false, .int .i64 0, .slice none 0 0, .bool false]) := (setE (setE (setE I2a.out 1 (.int .i64 xc) (ys := [.int .i64 xkd, .int .i64 xc, .int .i64 0, .int .i64 0, .int .i64 0, .int .i64 0, .int .i64 0, .int .i64 0, .string ⟨#[]⟩, .string ⟨#[]⟩, .string ⟨#[]⟩, .string ⟨#[]⟩, .int .i64 0, .bool false, .int .i64 0, .slice none 0 0, .bool false]) rfl) 2 (.int .i64 xe) (ys := [.int .i64 xkd, .int .i64 xc, .int .i64 xe, .int .i64 0, .int .i64 0, .int .i64 0, .int .i64 0, .int .i64 0, .string ⟨#[]⟩, .string ⟨#[]⟩, .string ⟨#[]⟩, .string ⟨#[]⟩, .int .i64 0, .bool false, .int .i64 0, .slice none 0 0, .bool false]) rfl) 3 (.int .i64 xn) (ys := [.int .i64 xkd, .int .i64 xc, .int .i64 xe, .int .i64 xn, .int .i64 0, .int .i64 0, .int .i64 0, .int .i64 0, .string ⟨#[]⟩, .string ⟨#[]⟩, .string ⟨#[]⟩, .string ⟨#[]⟩, .int .i64 0, .bool false, .int .i64 0, .slice none 0 0, .bool false]) rfl)
  have J2 : Hid (Bk (((w2.setCell ⟨w.heap.size + 1, 1, none⟩ (.int .i64 xc)).setCell ⟨w.heap.size + 1, 2, none⟩ (.int .i64 xe)).setCell ⟨w.heap.size + 1, 3, none⟩ (.int .i64 xn)) w.heap.size 31 [.int .i64 0, .int .i64 0, .int .i64 0, .int .i64 0, .int .i64 0, .int .i64 0, .int .i64 0, .int .i64 0, .string ⟨#[]⟩, .string ⟨#[]⟩, .string ⟨#[]⟩, .string ⟨#[]⟩, .int .i64 0, .bool false, .int .i64 0, .slice none 0 0, .bool false]) := (((J2a.out.setOther (by omega) _ _).setOther (by omega) _ _).setOther (by omega) _ _)
  have B2 : Hid (Only (fun y => y = R ∨ w.heap.size ≤ y) w (((w2.setCell ⟨w.heap.size + 1, 1, none⟩ (.int .i64 xc)).setCell ⟨w.heap.size + 1, 2, none⟩ (.int .i64 xe)).setCell ⟨w.heap.size + 1, 3, none⟩ (.int .i64 xn))) := (only_step (only_step (only_step B2a.out (.inr (by omega)) 1 _) (.inr (by omega)) 2 _) (.inr (by omega)) 3 _)
  have RM2 : Hid (Rm (((w2.setCell ⟨w.heap.size + 1, 1, none⟩ (.int .i64 xc)).setCell ⟨w.heap.size + 1, 2, none⟩ (.int .i64 xe)).setCell ⟨w.heap.size + 1, 3, none⟩ (.int .i64 xn)) R a n c zs Q2) := (((RM2a.out.to (only_set (R := fun y => y = w.heap.size + 1) (p := ⟨w.heap.size + 1, 1, none⟩) rfl _) (fun y hy => by omega)).to (only_set (R := fun y => y = w.heap.size + 1) (p := ⟨w.heap.size + 1, 2, none⟩) rfl _) (fun y hy => by omega)).to (only_set (R := fun y => y = w.heap.size + 1) (p := ⟨w.heap.size + 1, 3, none⟩) rfl _) (fun y hy => by omega))
  have y1 := I2a.out.cell (j := 1) rfl
  have f1 := I2a.out.free 1
  have y2 := I2a.out.cell (j := 2) rfl
  have f2 := I2a.out.free 2
  have y3 := I2a.out.cell (j := 3) rfl
  have f3 := I2a.out.free 3
  clear hr ho hv J1 I1 B1 RM1
  go_upto_region 4 with (fail)
  generalize (((w2.setCell ⟨w.heap.size + 1, 1, none⟩ (.int .i64 xc)).setCell ⟨w.heap.size + 1, 2, none⟩ (.int .i64 xe)).setCell ⟨w.heap.size + 1, 3, none⟩ (.int .i64 xn)) = V2 at *
  clear y1 f1
  clear y2 f2
  clear y3 f3
  clear J2a I2a B2a RM2a
  have HT2 := hid ht2
  clear ht2
  obtain ⟨xsh, Q3, hxsh⟩ : ∃ x y, gv zs Q2 = (x, y) := ⟨_, _, rfl⟩
  go_wp2_with fail
  refine (mnum_any R a n c zs Q2 xsh Q3 hxsh _ RM2.out).mono ?_
  rintro r w3 ⟨rfl, hr, ho, hz⟩
  have hv := I2.out.lt
  have J3a := hid (J2.out.to ho (fun e => by omega))
  have I3a := hid (I2.out.to ho (fun e => by omega))
  have B3a : Hid (Only (fun y => y = R ∨ w.heap.size ≤ y) w w3) := B2.out.trans (ho.mono (fun y _ hy => .inl hy))
  have RM3a := hid hr
  have I3 : Hid (Bk (w3.setCell ⟨w.heap.size + 1, 4, none⟩ (.int .i64 xsh)) (w.heap.size + 1) 31 [.int .i64 xkd, .int .i64 xc, .int .i64 xe, .int .i64 xn, .int .i64 xsh, .int .i64 0, .int .i64 0, .int .i64 0, .string ⟨#[]⟩, .string ⟨#[]⟩, .string ⟨#[]⟩, .string ⟨#[]⟩, .int .i64 0, .bool false, .int .i64 0, .slice none 0 0, .bool false]) := (setE I3a.out 4 (.int .i64 xsh) (ys := [.int .i64 xkd, .int .i64 xc, .int .i64 xe, .int .i64 xn, .int .i64 xsh, .int .i64 0, .int .i64 0, .int .i64 0, .string ⟨#[]⟩, .string ⟨#[]⟩, .string ⟨#[]⟩, .string ⟨#[]⟩, .int .i64 0, .bool false, .int .i64 0, .slice none 0 0, .bool false]) rfl)
  have J3 : Hid (Bk (w3.setCell ⟨w.heap.size + 1, 4, none⟩ (.int .i64 xsh)) w.heap.size 31 [.int .i64 0, .int .i64 0, .int .i64 0, .int .i64 0, .int .i64 0, .int .i64 0, .int .i64 0, .int .i64 0, .string ⟨#[]⟩, .string ⟨#[]⟩, .string ⟨#[]⟩, .string ⟨#[]⟩, .int .i64 0, .bool false, .int .i64 0, .slice none 0 0, .bool false]) := (J3a.out.setOther (by omega) _ _)
  have B3 : Hid (Only (fun y => y = R ∨ w.heap.size ≤ y) w (w3.setCell ⟨w.heap.size + 1, 4, none⟩ (.int .i64 xsh))) := (only_step B3a.out (.inr (by omega)) 4 _)
  have RM3 : Hid (Rm (w3.setCell ⟨w.heap.size + 1, 4, none⟩ (.int .i64 xsh)) R a n c zs Q3) := (RM3a.out.to (only_set (R := fun y => y = w.heap.size + 1) (p := ⟨w.heap.size + 1, 4, none⟩) rfl _) (fun y hy => by omega))
  have y4 := I3a.out.cell (j := 4) rfl
  have f4 := I3a.out.free 4
  clear hr ho hv J2 I2 B2 RM2
  go_upto_region 5 with (fail)
  generalize (w3.setCell ⟨w.heap.size + 1, 4, none⟩ (.int .i64 xsh)) = V3 at *
  clear y4 f4
  clear J3a I3a B3a RM3a
  obtain ⟨xnu, Q4, hxnu⟩ : ∃ x y, gv zs Q3 = (x, y) := ⟨_, _, rfl⟩
  go_wp2_with fail
  refine (mnum_any R a n c zs Q3 xnu Q4 hxnu _ RM3.out).mono ?_
  rintro r w4 ⟨rfl, hr, ho, hz⟩
  have hv := I3.out.lt
  have J4a := hid (J3.out.to ho (fun e => by omega))
  have I4a := hid (I3.out.to ho (fun e => by omega))
  have B4a : Hid (Only (fun y => y = R ∨ w.heap.size ≤ y) w w4) := B3.out.trans (ho.mono (fun y _ hy => .inl hy))
  have RM4a := hid hr
  have I4 : Hid (Bk (w4.setCell ⟨w.heap.size + 1, 5, none⟩ (.int .i64 xnu)) (w.heap.size + 1) 31 [.int .i64 xkd, .int .i64 xc, .int .i64 xe, .int .i64 xn, .int .i64 xsh, .int .i64 xnu, .int .i64 0, .int .i64 0, .string ⟨#[]⟩, .string ⟨#[]⟩, .string ⟨#[]⟩, .string ⟨#[]⟩, .int .i64 0, .bool false, .int .i64 0, .slice none 0 0, .bool false]) := (setE I4a.out 5 (.int .i64 xnu) (ys := [.int .i64 xkd, .int .i64 xc, .int .i64 xe, .int .i64 xn, .int .i64 xsh, .int .i64 xnu, .int .i64 0, .int .i64 0, .string ⟨#[]⟩, .string ⟨#[]⟩, .string ⟨#[]⟩, .string ⟨#[]⟩, .int .i64 0, .bool false, .int .i64 0, .slice none 0 0, .bool false]) rfl)
  have J4 : Hid (Bk (w4.setCell ⟨w.heap.size + 1, 5, none⟩ (.int .i64 xnu)) w.heap.size 31 [.int .i64 0, .int .i64 0, .int .i64 0, .int .i64 0, .int .i64 0, .int .i64 0, .int .i64 0, .int .i64 0, .string ⟨#[]⟩, .string ⟨#[]⟩, .string ⟨#[]⟩, .string ⟨#[]⟩, .int .i64 0, .bool false, .int .i64 0, .slice none 0 0, .bool false]) := (J4a.out.setOther (by omega) _ _)
  have B4 : Hid (Only (fun y => y = R ∨ w.heap.size ≤ y) w (w4.setCell ⟨w.heap.size + 1, 5, none⟩ (.int .i64 xnu))) := (only_step B4a.out (.inr (by omega)) 5 _)
  have RM4 : Hid (Rm (w4.setCell ⟨w.heap.size + 1, 5, none⟩ (.int .i64 xnu)) R a n c zs Q4) := (RM4a.out.to (only_set (R := fun y => y = w.heap.size + 1) (p := ⟨w.heap.size + 1, 5, none⟩) rfl _) (fun y hy => by omega))
  have y5 := I4a.out.cell (j := 5) rfl
  have f5 := I4a.out.free 5
  clear hr ho hv J3 I3 B3 RM3
  go_upto_region 6 with (fail)
  generalize (w4.setCell ⟨w.heap.size + 1, 5, none⟩ (.int .i64 xnu)) = V4 at *
  clear y5 f5
  clear J4a I4a B4a RM4a
  obtain ⟨xst, Q5, hxst⟩ : ∃ x y, gv zs Q4 = (x, y) := ⟨_, _, rfl⟩
  go_wp2_with fail
  refine (mnum_any R a n c zs Q4 xst Q5 hxst _ RM4.out).mono ?_
  rintro r w5 ⟨rfl, hr, ho, hz⟩
  have hv := I4.out.lt
  have J5a := hid (J4.out.to ho (fun e => by omega))
  have I5a := hid (I4.out.to ho (fun e => by omega))
  have B5a : Hid (Only (fun y => y = R ∨ w.heap.size ≤ y) w w5) := B4.out.trans (ho.mono (fun y _ hy => .inl hy))
  have RM5a := hid hr
  have I5 : Hid (Bk (w5.setCell ⟨w.heap.size + 1, 6, none⟩ (.int .i64 xst)) (w.heap.size + 1) 31 [.int .i64 xkd, .int .i64 xc, .int .i64 xe, .int .i64 xn, .int .i64 xsh, .int .i64 xnu, .int .i64 xst, .int .i64 0, .string ⟨#[]⟩, .string ⟨#[]⟩, .string ⟨#[]⟩, .string ⟨#[]⟩, .int .i64 0, .bool false, .int .i64 0, .slice none 0 0, .bool false]) := (setE I5a.out 6 (.int .i64 xst) (ys := [.int .i64 xkd, .int .i64 xc, .int .i64 xe, .int .i64 xn, .int .i64 xsh, .int .i64 xnu, .int .i64 xst, .int .i64 0, .string ⟨#[]⟩, .string ⟨#[]⟩, .string ⟨#[]⟩, .string ⟨#[]⟩, .int .i64 0, .bool false, .int .i64 0, .slice none 0 0, .bool false]) rfl)
  have J5 : Hid (Bk (w5.setCell ⟨w.heap.size + 1, 6, none⟩ (.int .i64 xst)) w.heap.size 31 [.int .i64 0, .int .i64 0, .int .i64 0, .int .i64 0, .int .i64 0, .int .i64 0, .int .i64 0, .int .i64 0, .string ⟨#[]⟩, .string ⟨#[]⟩, .string ⟨#[]⟩, .string ⟨#[]⟩, .int .i64 0, .bool false, .int .i64 0, .slice none 0 0, .bool false]) := (J5a.out.setOther (by omega) _ _)
  have B5 : Hid (Only (fun y => y = R ∨ w.heap.size ≤ y) w (w5.setCell ⟨w.heap.size + 1, 6, none⟩ (.int .i64 xst))) := (only_step B5a.out (.inr (by omega)) 6 _)
  have RM5 : Hid (Rm (w5.setCell ⟨w.heap.size + 1, 6, none⟩ (.int .i64 xst)) R a n c zs Q5) := (RM5a.out.to (only_set (R := fun y => y = w.heap.size + 1) (p := ⟨w.heap.size + 1, 6, none⟩) rfl _) (fun y hy => by omega))
  have y6 := I5a.out.cell (j := 6) rfl
  have f6 := I5a.out.free 6
  clear hr ho hv J4 I4 B4 RM4
  go_upto_region 7 with (fail)
  generalize (w5.setCell ⟨w.heap.size + 1, 6, none⟩ (.int .i64 xst)) = V5 at *
  clear y6 f6
  clear J5a I5a B5a RM5a
  go_wp2_with fail
  refine (mask_any R a n c zs Q5 _ RM5.out).mono ?_
  rintro r w6 ⟨xk, s1, s2, s3, s4, xm, xb, qa, qb, Q6, rfl, ha1, ha2, ha3, hr, ho⟩
  have hv := I5.out.lt
  have J6a := hid (J5.out.to ho (fun e => by omega))
  have I6a := hid (I5.out.to ho (fun e => by omega))
  have B6a : Hid (Only (fun y => y = R ∨ w.heap.size ≤ y) w w6) := B5.out.trans (ho.mono (fun y _ hy => by rcases hy with h | h; exact .inl h; exact .inr (by omega)))
  have RM6a := hid hr
  have I6 : Hid (Bk (((((((w6.setCell ⟨w.heap.size + 1, 7, none⟩ (.int .i64 xk)).setCell ⟨w.heap.size + 1, 8, none⟩ (.string s1)).setCell ⟨w.heap.size + 1, 9, none⟩ (.string s2)).setCell ⟨w.heap.size + 1, 10, none⟩ (.string s3)).setCell ⟨w.heap.size + 1, 11, none⟩ (.string s4)).setCell ⟨w.heap.size + 1, 12, none⟩ (.int .i64 xm)).setCell ⟨w.heap.size + 1, 13, none⟩ (.bool (xb == 1))) (w.heap.size + 1) 31 [.int .i64 xkd, .int .i64 xc, .int .i64 xe, .int .i64 xn, .int .i64 xsh, .int .i64 xnu, .int .i64 xst, .int .i64 xk, .string s1, .string s2, .string s3, .string s4, .int .i64 xm, .bool (xb == 1), .int .i64 0, .slice none 0 0, .bool false]) := (setE (setE (setE (setE (setE (setE (setE I6a.out 7 (.int .i64 xk) (ys := [.int .i64 xkd, .int .i64 xc, .int .i64 xe, .int .i64 xn, .int .i64 xsh, .int .i64 xnu, .int .i64 xst, .int .i64 xk, .string ⟨#[]⟩, .string ⟨#[]⟩, .string ⟨#[]⟩, .string ⟨#[]⟩, .int .i64 0, .bool false, .int .i64 0, .slice none 0 0, .bool false]) rfl) 8 (.string s1) (ys := [.int .i64 xkd, .int .i64 xc, .int .i64 xe, .int .i64 xn, .int .i64 xsh, .int .i64 xnu, .int .i64 xst, .int .i64 xk, .string s1, .string ⟨#[]⟩, .string ⟨#[]⟩, .string ⟨#[]⟩, .int .i64 0, .bool false, .int .i64 0, .slice none 0 0, .bool false]) rfl) 9 (.string s2) (ys := [.int .i64 xkd, .int .i64 xc, .int .i64 xe, .int .i64 xn, .int .i64 xsh, .int .i64 xnu, .int .i64 xst, .int .i64 xk, .string s1, .string s2, .string ⟨#[]⟩, .string ⟨#[]⟩, .int .i64 0, .bool false, .int .i64 0, .slice none 0 0, .bool false]) rfl) 10 (.string s3) (ys := [.int .i64 xkd, .int .i64 xc, .int .i64 xe, .int .i64 xn, .int .i64 xsh, .int .i64 xnu, .int .i64 xst, .int .i64 xk, .string s1, .string s2, .string s3, .string ⟨#[]⟩, .int .i64 0, .bool false, .int .i64 0, .slice none 0 0, .bool false]) rfl) 11 (.string s4) (ys := [.int .i64 xkd, .int .i64 xc, .int .i64 xe, .int .i64 xn, .int .i64 xsh, .int .i64 xnu, .int .i64 xst, .int .i64 xk, .string s1, .string s2, .string s3, .string s4, .int .i64 0, .bool false, .int .i64 0, .slice none 0 0, .bool false]) rfl) 12 (.int .i64 xm) (ys := [.int .i64 xkd, .int .i64 xc, .int .i64 xe, .int .i64 xn, .int .i64 xsh, .int .i64 xnu, .int .i64 xst, .int .i64 xk, .string s1, .string s2, .string s3, .string s4, .int .i64 xm, .bool false, .int .i64 0, .slice none 0 0, .bool false]) rfl) 13 (.bool (xb == 1)) (ys := [.int .i64 xkd, .int .i64 xc, .int .i64 xe, .int .i64 xn, .int .i64 xsh, .int .i64 xnu, .int .i64 xst, .int .i64 xk, .string s1, .string s2, .string s3, .string s4, .int .i64 xm, .bool (xb == 1), .int .i64 0, .slice none 0 0, .bool false]) rfl)
  have J6 : Hid (Bk (((((((w6.setCell ⟨w.heap.size + 1, 7, none⟩ (.int .i64 xk)).setCell ⟨w.heap.size + 1, 8, none⟩ (.string s1)).setCell ⟨w.heap.size + 1, 9, none⟩ (.string s2)).setCell ⟨w.heap.size + 1, 10, none⟩ (.string s3)).setCell ⟨w.heap.size + 1, 11, none⟩ (.string s4)).setCell ⟨w.heap.size + 1, 12, none⟩ (.int .i64 xm)).setCell ⟨w.heap.size + 1, 13, none⟩ (.bool (xb == 1))) w.heap.size 31 [.int .i64 0, .int .i64 0, .int .i64 0, .int .i64 0, .int .i64 0, .int .i64 0, .int .i64 0, .int .i64 0, .string ⟨#[]⟩, .string ⟨#[]⟩, .string ⟨#[]⟩, .string ⟨#[]⟩, .int .i64 0, .bool false, .int .i64 0, .slice none 0 0, .bool false]) := (((((((J6a.out.setOther (by omega) _ _).setOther (by omega) _ _).setOther (by omega) _ _).setOther (by omega) _ _).setOther (by omega) _ _).setOther (by omega) _ _).setOther (by omega) _ _)
  have B6 : Hid (Only (fun y => y = R ∨ w.heap.size ≤ y) w (((((((w6.setCell ⟨w.heap.size + 1, 7, none⟩ (.int .i64 xk)).setCell ⟨w.heap.size + 1, 8, none⟩ (.string s1)).setCell ⟨w.heap.size + 1, 9, none⟩ (.string s2)).setCell ⟨w.heap.size + 1, 10, none⟩ (.string s3)).setCell ⟨w.heap.size + 1, 11, none⟩ (.string s4)).setCell ⟨w.heap.size + 1, 12, none⟩ (.int .i64 xm)).setCell ⟨w.heap.size + 1, 13, none⟩ (.bool (xb == 1)))) := (only_step (only_step (only_step (only_step (only_step (only_step (only_step B6a.out (.inr (by omega)) 7 _) (.inr (by omega)) 8 _) (.inr (by omega)) 9 _) (.inr (by omega)) 10 _) (.inr (by omega)) 11 _) (.inr (by omega)) 12 _) (.inr (by omega)) 13 _)
  have RM6 : Hid (Rm (((((((w6.setCell ⟨w.heap.size + 1, 7, none⟩ (.int .i64 xk)).setCell ⟨w.heap.size + 1, 8, none⟩ (.string s1)).setCell ⟨w.heap.size + 1, 9, none⟩ (.string s2)).setCell ⟨w.heap.size + 1, 10, none⟩ (.string s3)).setCell ⟨w.heap.size + 1, 11, none⟩ (.string s4)).setCell ⟨w.heap.size + 1, 12, none⟩ (.int .i64 xm)).setCell ⟨w.heap.size + 1, 13, none⟩ (.bool (xb == 1))) R a n c zs Q6) := (((((((RM6a.out.to (only_set (R := fun y => y = w.heap.size + 1) (p := ⟨w.heap.size + 1, 7, none⟩) rfl _) (fun y hy => by omega)).to (only_set (R := fun y => y = w.heap.size + 1) (p := ⟨w.heap.size + 1, 8, none⟩) rfl _) (fun y hy => by omega)).to (only_set (R := fun y => y = w.heap.size + 1) (p := ⟨w.heap.size + 1, 9, none⟩) rfl _) (fun y hy => by omega)).to (only_set (R := fun y => y = w.heap.size + 1) (p := ⟨w.heap.size + 1, 10, none⟩) rfl _) (fun y hy => by omega)).to (only_set (R := fun y => y = w.heap.size + 1) (p := ⟨w.heap.size + 1, 11, none⟩) rfl _) (fun y hy => by omega)).to (only_set (R := fun y => y = w.heap.size + 1) (p := ⟨w.heap.size + 1, 12, none⟩) rfl _) (fun y hy => by omega)).to (only_set (R := fun y => y = w.heap.size + 1) (p := ⟨w.heap.size + 1, 13, none⟩) rfl _) (fun y hy => by omega))
  have y7 := I6a.out.cell (j := 7) rfl
  have f7 := I6a.out.free 7
  have y8 := I6a.out.cell (j := 8) rfl
  have f8 := I6a.out.free 8
  have y9 := I6a.out.cell (j := 9) rfl
  have f9 := I6a.out.free 9
  have y10 := I6a.out.cell (j := 10) rfl
  have f10 := I6a.out.free 10
  have y11 := I6a.out.cell (j := 11) rfl
  have f11 := I6a.out.free 11
  have y12 := I6a.out.cell (j := 12) rfl
  have f12 := I6a.out.free 12
  have y13 := I6a.out.cell (j := 13) rfl
  have f13 := I6a.out.free 13
  clear hr ho hv J5 I5 B5 RM5
  go_upto_region 8 with (fail)
  generalize (((((((w6.setCell ⟨w.heap.size + 1, 7, none⟩ (.int .i64 xk)).setCell ⟨w.heap.size + 1, 8, none⟩ (.string s1)).setCell ⟨w.heap.size + 1, 9, none⟩ (.string s2)).setCell ⟨w.heap.size + 1, 10, none⟩ (.string s3)).setCell ⟨w.heap.size + 1, 11, none⟩ (.string s4)).setCell ⟨w.heap.size + 1, 12, none⟩ (.int .i64 xm)).setCell ⟨w.heap.size + 1, 13, none⟩ (.bool (xb == 1))) = V6 at *
  clear y7 f7
  clear y8 f8
  clear y9 f9
  clear y10 f10
  clear y11 f11
  clear y12 f12
  clear y13 f13
  clear J6a I6a B6a RM6a
  have HA1 := hid ha1
  have HA2 := hid ha2
  have HA3 := hid ha3
  clear ha1 ha2 ha3
  obtain ⟨xcd, Q7, hxcd⟩ : ∃ x y, gv zs Q6 = (x, y) := ⟨_, _, rfl⟩
  go_wp2_with fail
  refine (mnum_any R a n c zs Q6 xcd Q7 hxcd _ RM6.out).mono ?_
  rintro r w7 ⟨rfl, hr, ho, hz⟩
  have hv := I6.out.lt
  have J7a := hid (J6.out.to ho (fun e => by omega))
  have I7a := hid (I6.out.to ho (fun e => by omega))
  have B7a : Hid (Only (fun y => y = R ∨ w.heap.size ≤ y) w w7) := B6.out.trans (ho.mono (fun y _ hy => .inl hy))
  have RM7a := hid hr
  have I7 : Hid (Bk (w7.setCell ⟨w.heap.size + 1, 14, none⟩ (.int .i64 xcd)) (w.heap.size + 1) 31 [.int .i64 xkd, .int .i64 xc, .int .i64 xe, .int .i64 xn, .int .i64 xsh, .int .i64 xnu, .int .i64 xst, .int .i64 xk, .string s1, .string s2, .string s3, .string s4, .int .i64 xm, .bool (xb == 1), .int .i64 xcd, .slice none 0 0, .bool false]) := (setE I7a.out 14 (.int .i64 xcd) (ys := [.int .i64 xkd, .int .i64 xc, .int .i64 xe, .int .i64 xn, .int .i64 xsh, .int .i64 xnu, .int .i64 xst, .int .i64 xk, .string s1, .string s2, .string s3, .string s4, .int .i64 xm, .bool (xb == 1), .int .i64 xcd, .slice none 0 0, .bool false]) rfl)
  have J7 : Hid (Bk (w7.setCell ⟨w.heap.size + 1, 14, none⟩ (.int .i64 xcd)) w.heap.size 31 [.int .i64 0, .int .i64 0, .int .i64 0, .int .i64 0, .int .i64 0, .int .i64 0, .int .i64 0, .int .i64 0, .string ⟨#[]⟩, .string ⟨#[]⟩, .string ⟨#[]⟩, .string ⟨#[]⟩, .int .i64 0, .bool false, .int .i64 0, .slice none 0 0, .bool false]) := (J7a.out.setOther (by omega) _ _)
  have B7 : Hid (Only (fun y => y = R ∨ w.heap.size ≤ y) w (w7.setCell ⟨w.heap.size + 1, 14, none⟩ (.int .i64 xcd))) := (only_step B7a.out (.inr (by omega)) 14 _)
  have RM7 : Hid (Rm (w7.setCell ⟨w.heap.size + 1, 14, none⟩ (.int .i64 xcd)) R a n c zs Q7) := (RM7a.out.to (only_set (R := fun y => y = w.heap.size + 1) (p := ⟨w.heap.size + 1, 14, none⟩) rfl _) (fun y hy => by omega))
  have y14 := I7a.out.cell (j := 14) rfl
  have f14 := I7a.out.free 14
  clear hr ho hv J6 I6 B6 RM6
  go_upto_region 9 with (fail)
  generalize (w7.setCell ⟨w.heap.size + 1, 14, none⟩ (.int .i64 xcd)) = V7 at *
  clear y14 f14
  clear J7a I7a B7a RM7a
  go_wp2_with fail
  refine (mpairs_any R a n c zs Q7 _ RM7.out).mono ?_
  rintro r w8 ⟨va, vn, vc, ps, t, qp, Q8, rfl, hp1, hp2, hp3, hW, hr, ho⟩
  have hv := I7.out.lt
  have J8a := hid (J7.out.to ho (fun e => by omega))
  have I8a := hid (I7.out.to ho (fun e => by omega))
  have B8a : Hid (Only (fun y => y = R ∨ w.heap.size ≤ y) w w8) := B7.out.trans (ho.mono (fun y _ hy => by rcases hy with h | h; exact .inl h; exact .inr (by omega)))
  have RM8a := hid hr
  have OW8a := hid (hW.base (show w.heap.size + 1 + 1 ≤ _ by omega))
  have I8 : Hid (Bk (w8.setCell ⟨w.heap.size + 1, 15, none⟩ (.slice va vn vc)) (w.heap.size + 1) 31 [.int .i64 xkd, .int .i64 xc, .int .i64 xe, .int .i64 xn, .int .i64 xsh, .int .i64 xnu, .int .i64 xst, .int .i64 xk, .string s1, .string s2, .string s3, .string s4, .int .i64 xm, .bool (xb == 1), .int .i64 xcd, .slice va vn vc, .bool false]) := (setE I8a.out 15 (.slice va vn vc) (ys := [.int .i64 xkd, .int .i64 xc, .int .i64 xe, .int .i64 xn, .int .i64 xsh, .int .i64 xnu, .int .i64 xst, .int .i64 xk, .string s1, .string s2, .string s3, .string s4, .int .i64 xm, .bool (xb == 1), .int .i64 xcd, .slice va vn vc, .bool false]) rfl)
  have J8 : Hid (Bk (w8.setCell ⟨w.heap.size + 1, 15, none⟩ (.slice va vn vc)) w.heap.size 31 [.int .i64 0, .int .i64 0, .int .i64 0, .int .i64 0, .int .i64 0, .int .i64 0, .int .i64 0, .int .i64 0, .string ⟨#[]⟩, .string ⟨#[]⟩, .string ⟨#[]⟩, .string ⟨#[]⟩, .int .i64 0, .bool false, .int .i64 0, .slice none 0 0, .bool false]) := (J8a.out.setOther (by omega) _ _)
  have B8 : Hid (Only (fun y => y = R ∨ w.heap.size ≤ y) w (w8.setCell ⟨w.heap.size + 1, 15, none⟩ (.slice va vn vc))) := (only_step B8a.out (.inr (by omega)) 15 _)
  have RM8 : Hid (Rm (w8.setCell ⟨w.heap.size + 1, 15, none⟩ (.slice va vn vc)) R a n c zs Q8) := (RM8a.out.to (only_set (R := fun y => y = w.heap.size + 1) (p := ⟨w.heap.size + 1, 15, none⟩) rfl _) (fun y hy => by omega))
  have OW8 : Hid (oqW (w8.setCell ⟨w.heap.size + 1, 15, none⟩ (.slice va vn vc)) (w.heap.size + 1 + 1) (.slice va vn vc) ps) := (OW8a.out.to (only_set (R := fun y => y = w.heap.size + 1) (p := ⟨w.heap.size + 1, 15, none⟩) rfl _) (fun y hy e => by have := OW8a.out.lt hy; omega))
  have y15 := I8a.out.cell (j := 15) rfl
  have f15 := I8a.out.free 15
  clear hr ho hv J7 I7 B7 RM7
  go_upto_region 10 with (fail)
  generalize (w8.setCell ⟨w.heap.size + 1, 15, none⟩ (.slice va vn vc)) = V8 at *
  clear y15 f15
  clear J8a I8a B8a RM8a OW8a
  have HP1 := hid hp1
  have HP2 := hid hp2
  have HP3 := hid hp3
  clear hp1 hp2 hp3 hW
  obtain ⟨xy, Q9, hxy⟩ : ∃ x y, gv zs Q8 = (x, y) := ⟨_, _, rfl⟩
  go_wp2_with fail
  refine (mnum_any R a n c zs Q8 xy Q9 hxy _ RM8.out).mono ?_
  rintro r w9 ⟨rfl, hr, ho, hz⟩
  have hv := I8.out.lt
  have J9a := hid (J8.out.to ho (fun e => by omega))
  have I9a := hid (I8.out.to ho (fun e => by omega))
  have B9a : Hid (Only (fun y => y = R ∨ w.heap.size ≤ y) w w9) := B8.out.trans (ho.mono (fun y _ hy => .inl hy))
  have RM9a := hid hr
  have OW9a := hid (OW8.out.to ho (fun y hy e => by have := OW8.out.lt hy; omega))
  have I9 : Hid (Bk (w9.setCell ⟨w.heap.size + 1, 16, none⟩ (.bool (xy == 1))) (w.heap.size + 1) 31 [.int .i64 xkd, .int .i64 xc, .int .i64 xe, .int .i64 xn, .int .i64 xsh, .int .i64 xnu, .int .i64 xst, .int .i64 xk, .string s1, .string s2, .string s3, .string s4, .int .i64 xm, .bool (xb == 1), .int .i64 xcd, .slice va vn vc, .bool (xy == 1)]) := (setE I9a.out 16 (.bool (xy == 1)) (ys := [.int .i64 xkd, .int .i64 xc, .int .i64 xe, .int .i64 xn, .int .i64 xsh, .int .i64 xnu, .int .i64 xst, .int .i64 xk, .string s1, .string s2, .string s3, .string s4, .int .i64 xm, .bool (xb == 1), .int .i64 xcd, .slice va vn vc, .bool (xy == 1)]) rfl)
  have J9 : Hid (Bk (w9.setCell ⟨w.heap.size + 1, 16, none⟩ (.bool (xy == 1))) w.heap.size 31 [.int .i64 0, .int .i64 0, .int .i64 0, .int .i64 0, .int .i64 0, .int .i64 0, .int .i64 0, .int .i64 0, .string ⟨#[]⟩, .string ⟨#[]⟩, .string ⟨#[]⟩, .string ⟨#[]⟩, .int .i64 0, .bool false, .int .i64 0, .slice none 0 0, .bool false]) := (J9a.out.setOther (by omega) _ _)
  have B9 : Hid (Only (fun y => y = R ∨ w.heap.size ≤ y) w (w9.setCell ⟨w.heap.size + 1, 16, none⟩ (.bool (xy == 1)))) := (only_step B9a.out (.inr (by omega)) 16 _)
  have RM9 : Hid (Rm (w9.setCell ⟨w.heap.size + 1, 16, none⟩ (.bool (xy == 1))) R a n c zs Q9) := (RM9a.out.to (only_set (R := fun y => y = w.heap.size + 1) (p := ⟨w.heap.size + 1, 16, none⟩) rfl _) (fun y hy => by omega))
  have OW9 : Hid (oqW (w9.setCell ⟨w.heap.size + 1, 16, none⟩ (.bool (xy == 1))) (w.heap.size + 1 + 1) (.slice va vn vc) ps) := (OW9a.out.to (only_set (R := fun y => y = w.heap.size + 1) (p := ⟨w.heap.size + 1, 16, none⟩) rfl _) (fun y hy e => by have := OW9a.out.lt hy; omega))
  have y16 := I9a.out.cell (j := 16) rfl
  have f16 := I9a.out.free 16
  clear hr ho hv J8 I8 B8 RM8
  go_upto_region 11 with (fail)
  generalize (w9.setCell ⟨w.heap.size + 1, 16, none⟩ (.bool (xy == 1))) = V9 at *
  clear y16 f16
  clear J9a I9a B9a RM9a OW9a
  have HTR : Hid (Trc 8 zs ⟨xkd, xc, xe, xn, xsh, xnu, xst, xk, s1, s2, s3, s4, xm, xb == 1, xcd, ps, xy == 1⟩) := by
    have e1 : NRd zs 0 [xkd] Q1 := by rw [← HQ0.out]; exact ⟨Q1, hxkd, rfl⟩
    have e2 : NRd zs Q2 [xsh, xnu, xst] Q5 := ⟨Q3, hxsh, Q4, hxnu, Q5, hxst, rfl⟩
    have e3 : NRd zs Q6 [xcd] Q7 := ⟨Q7, hxcd, rfl⟩
    exact ⟨qa, qb, qp, Q8, Q9, xb, t, xy, (e1.cat HT2.out).cat (e2.cat HA1.out), HA2.out, (HA3.out.cat e3).cat HP1.out, HP2.out, HP3.out, ⟨Q9, hxy, rfl⟩, (by show (xb == 1) = decide (xb = 1); by_cases e : xb = 1 <;> simp [e]), (by show (xy == 1) = decide (xy = 1); by_cases e : xy = 1 <;> simp [e])⟩
  have JE := hid (J9.out.setRow [.int .i64 xkd, .int .i64 xc, .int .i64 xe, .int .i64 xn, .int .i64 xsh, .int .i64 xnu, .int .i64 xst, .int .i64 xk, .string s1, .string s2, .string s3, .string s4, .int .i64 xm, .bool (xb == 1), .int .i64 xcd, .slice va vn vc, .bool (xy == 1)])
  have BE : Hid (Only (fun y => y = R ∨ w.heap.size ≤ y) w (V9.setRow w.heap.size #[.int .i64 xkd, .int .i64 xc, .int .i64 xe, .int .i64 xn, .int .i64 xsh, .int .i64 xnu, .int .i64 xst, .int .i64 xk, .string s1, .string s2, .string s3, .string s4, .int .i64 xm, .bool (xb == 1), .int .i64 xcd, .slice va vn vc, .bool (xy == 1)])) := B9.out.trans (only_setRow (R := fun y => y = R ∨ w.heap.size ≤ y) (.inr (Nat.le_refl _)) _)
  have RE : Hid (Rm (V9.setRow w.heap.size #[.int .i64 xkd, .int .i64 xc, .int .i64 xe, .int .i64 xn, .int .i64 xsh, .int .i64 xnu, .int .i64 xst, .int .i64 xk, .string s1, .string s2, .string s3, .string s4, .int .i64 xm, .bool (xb == 1), .int .i64 xcd, .slice va vn vc, .bool (xy == 1)]) R a n c zs Q9) := RM9.out.to (only_setRow (R := fun y => y = w.heap.size) rfl _) (fun y hy => by omega)
  have OE : Hid (oqW (V9.setRow w.heap.size #[.int .i64 xkd, .int .i64 xc, .int .i64 xe, .int .i64 xn, .int .i64 xsh, .int .i64 xnu, .int .i64 xst, .int .i64 xk, .string s1, .string s2, .string s3, .string s4, .int .i64 xm, .bool (xb == 1), .int .i64 xcd, .slice va vn vc, .bool (xy == 1)]) (w.heap.size + 1 + 1) (.slice va vn vc) ps) := OW9.out.to (only_setRow (R := fun y => y = w.heap.size) rfl _) (fun y hy e => by have := OW9.out.lt hy; omega)
  go_wp2_with (first
    | (refine wpList_load_row rfl 31 _ rfl (w.heap.size + 1) rfl 31 _ (0, 0) _ I9.out Tryd.underlying31 rfl (by kernel_rfl) ?_; go_frame)
    | (refine wpList_store_row rfl 31 _ _ rfl w.heap.size #[.int .i64 xkd, .int .i64 xc, .int .i64 xe, .int .i64 xn, .int .i64 xsh, .int .i64 xnu, .int .i64 xst, .int .i64 xk, .string s1, .string s2, .string s3, .string s4, .int .i64 xm, .bool (xb == 1), .int .i64 xcd, .slice va vn vc, .bool (xy == 1)] rfl rfl 31 _ J9.out (by kernel_rfl) rfl (by kernel_rfl) ?_))
  generalize V9.setRow w.heap.size #[.int .i64 xkd, .int .i64 xc, .int .i64 xe, .int .i64 xn, .int .i64 xsh, .int .i64 xnu, .int .i64 xst, .int .i64 xk, .string s1, .string s2, .string s3, .string s4, .int .i64 xm, .bool (xb == 1), .int .i64 xcd, .slice va vn vc, .bool (xy == 1)] = VE at *
  try simp only [Exit.inBlock, Exit.then]
  refine bodyPost_ret (v := .agg #[.int .i64 xkd, .int .i64 xc, .int .i64 xe, .int .i64 xn, .int .i64 xsh, .int .i64 xnu, .int .i64 xst, .int .i64 xk, .string s1, .string s2, .string s3, .string s4, .int .i64 xm, .bool (xb == 1), .int .i64 xcd, .slice va vn vc, .bool (xy == 1)]) ?_ rfl ?_
  · exact results_cell_row rfl _ _ w.heap.size 31 _ (0, 0) _ rfl JE.out Tryd.underlying31 rfl (by kernel_rfl)
  · exact ⟨⟨xkd, xc, xe, xn, xsh, xnu, xst, xk, s1, s2, s3, s4, xm, xb == 1, xcd, ps, xy == 1⟩, va, vn, vc, rfl, HTR.out, OE.out.base (by omega), BE.out⟩
end Go.Proofs.YtbaggkfgnjenoacDoor
