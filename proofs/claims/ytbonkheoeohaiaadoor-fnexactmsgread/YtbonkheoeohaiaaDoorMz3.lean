/-
  The program's reader of messages: pairs.
-/
import Derived.Test.YtbonkheoeohaiaaDoorMz2
import Derived.Test.YtbonkheoeohaiaaDoorMz1
import Derived.Test.YtbonkheoeohaiaaDoorMb28
import Derived.Test.YtbonkheoeohaiaaDoorMb2
import Derived.Test.YtbonkheoeohaiaaDoorMb24
namespace Go.Proofs.YtbonkheoeohaiaaDoor
open Go.RowKit
set_option linter.unusedVariables false
set_option maxHeartbeats 8000000 in
set_option maxRecDepth 20000 in
theorem mpairs_any (R : Nat) (a : Option Addr) (n c : Nat) (zs : List Int) (q : Int) (w : World) (h : Rm w R a n c zs q) :
    Calls Tryd.prog 72 #[.pointer (some ⟨R, 0, none⟩)] w fun r w' => ∃ (va : Option Addr) (vn vc : Nat) (ps : List PB) (t q1 q' : Int), r = .returned (.slice va vn vc) ∧ NRd zs q [t] q1 ∧ PRd zs q1 ps q' ∧ (ps.length : Int) = max 0 (min t 8) ∧ oqW w' w.heap.size (.slice va vn vc) ps ∧ Rm w' R a n c zs q' ∧ Only (fun y => y = R ∨ w.heap.size ≤ y) w w' := by
  have hRlt := h.bk.lt
  obtain ⟨t, Q1, ht⟩ : ∃ x y, gv zs q = (x, y) := ⟨_, _, rfl⟩
  have HT : Hid (NRd zs q [t] Q1) := ⟨Q1, ht, rfl⟩
  have HG := hid ht
  have hrg : 0 ≤ t ∧ t ≤ 1099511627775 := by
    rcases gv_range zs h.rd.2.2.2.2.1 q with e | ⟨j, _, _, _, h3, h4⟩
    · rw [ht] at e
      have : t = 0 := (Prod.mk.inj e).1
      omega
    · rw [ht] at h3 h4
      exact ⟨h3, h4⟩
  obtain ⟨ht0, ht1⟩ := hrg
  have H0 := hid h
  clear h ht
  by_cases ht8 : t ≤ 8
  · skip
    obtain ⟨M, hM⟩ : ∃ M : Nat, (M : Int) = t := ⟨(t).toNat, by omega⟩
    have HM : Hid ((M : Int) = max 0 (min t 8)) := by show _ = _; omega
    have hM8 : M ≤ 8 := by omega
    go_enter Tryd.func72, Tryd.ntmps72
    go_wp2_with fail
    refine (mnum_any R a n c zs q t Q1 HG.out _ H0.out).mono ?_
    rintro r w1 ⟨rfl, hr, ho, hz⟩
    have RM1 := hid hr
    have B1 : Hid (Only (fun y => y = R ∨ w.heap.size ≤ y) w w1) := ho.mono (fun y _ hy => .inl hy)
    have Z1 := hid hz
    clear hr ho hz H0 HG
    go_wp2_with fail
    rw [← hM]
    clear hM
    go_loopw [3, 8] (fun x i wr => ∃ (j : Nat) (va : Option Addr) (vn vc : Nat) (l : List PB) (qj : Int), j ≤ M ∧ i = .int .i64 j ∧ x = .slice va vn vc ∧ Hid (l.length = j) ∧ Hid (oqW wr w.heap.size (.slice va vn vc) l) ∧ Hid (PRd zs Q1 l qj) ∧ Hid (Rm wr R a n c zs qj) ∧ Hid (Only (fun y => y = R ∨ w.heap.size ≤ y) w wr)) (fun _ i _ => M - (intOf i).toNat)
    case atStart => exact ⟨0, none, 0, 0, [], Q1, Nat.zero_le _, rfl, rfl, rfl, oqw_nil _ _, rfl, RM1.out, B1.out⟩
    case round =>
      obtain ⟨j, va, vn, vc, l, qj, hj, rfl, rfl, HL, HO, HP, HR, HB⟩ := hrel
      clear RM1 B1 Z1
      by_cases hlt : j < M
      · have hlt' : (j : Int) < (M : Int) := by omega
        obtain ⟨s1, q1, hs1⟩ : ∃ x y, (strOf (gt zs qj).1, (gt zs qj).2) = (x, y) := ⟨_, _, rfl⟩
        obtain ⟨s2, q2, hs2⟩ : ∃ x y, (strOf (gt zs q1).1, (gt zs q1).2) = (x, y) := ⟨_, _, rfl⟩
        have HPN : Hid (PRd zs Q1 (l ++ [(s1, s2)]) q2) := HP.out.snoc ⟨q1, hs1, q2, hs2, rfl⟩
        have hsz := HB.out.size
        have hbN := below_new (o := .cells #[.string ⟨#[]⟩, .string ⟨#[]⟩] 69) (w := wr) (Below.refl _ _)
        have RA := hid (HR.out.below hbN)
        have OA := hid (HO.out.below hbN)
        have KA := hid (Bk.new wr 69 [.string ⟨#[]⟩, .string ⟨#[]⟩])
        have BA : Hid (Only (fun y => y = R ∨ w.heap.size ≤ y) w (wr.alloc (.cells #[.string ⟨#[]⟩, .string ⟨#[]⟩] 69))) := HB.out.trans (only_of_below hbN _)
        have HLB : Hid (∀ y, (Value.slice va vn vc).ownBlock = some y → w.heap.size ≤ y ∧ y < wr.heap.size) := fun y hy => HO.out.lt hy
        clear HR HO HB HP hbN
        go_wp2_with fail
        refine (mtext_any R a n c zs qj s1 q1 hs1 _ RA.out).mono ?_
        generalize wr.alloc (.cells #[.string ⟨#[]⟩, .string ⟨#[]⟩] 69) = U at *
        generalize wr.heap.size = bp at *
        rintro r w2 ⟨rfl, hr, ho, hz⟩
        have R2 := hid hr
        have O2 := hid (OA.out.to ho (fun y hy e => by have := HLB.out y hy; omega))
        have K2 := hid (KA.out.to ho (fun e => by omega))
        have B2 : Hid (Only (fun y => y = R ∨ w.heap.size ≤ y) w w2) := BA.out.trans (ho.mono (fun y _ hy => .inl hy))
        clear hr ho hz RA OA KA BA
        have R2s : Hid (Rm (w2.setCell ⟨bp, 0, none⟩ (.string s1)) R a n c zs q1) := R2.out.to (only_set (R := fun y => y = bp) (p := ⟨bp, 0, none⟩) rfl _) (fun y hy => by omega)
        have O2s : Hid (oqW (w2.setCell ⟨bp, 0, none⟩ (.string s1)) w.heap.size (.slice va vn vc) l) := O2.out.to (only_set (R := fun y => y = bp) (p := ⟨bp, 0, none⟩) rfl _) (fun y hy e => by have := HLB.out y hy; omega)
        have K2s : Hid (Bk (w2.setCell ⟨bp, 0, none⟩ (.string s1)) bp 69 [.string s1, .string ⟨#[]⟩]) := K2.out.set 0 _
        have B2s : Hid (Only (fun y => y = R ∨ w.heap.size ≤ y) w (w2.setCell ⟨bp, 0, none⟩ (.string s1))) := only_step B2.out (.inr hsz) 0 _
        have y0 := K2.out.cell (j := 0) rfl
        have f0 := K2.out.free 0
        go_wp2_with fail
        refine (mtext_any R a n c zs q1 s2 q2 hs2 _ R2s.out).mono ?_
        generalize w2.setCell ⟨bp, 0, none⟩ (.string s1) = V2 at *
        clear y0 f0 R2 O2 K2 B2
        rintro r w3 ⟨rfl, hr, ho, hz⟩
        have R3 := hid hr
        have O3 := hid (O2s.out.to ho (fun y hy e => by have := HLB.out y hy; omega))
        have K3 := hid (K2s.out.to ho (fun e => by omega))
        have B3 : Hid (Only (fun y => y = R ∨ w.heap.size ≤ y) w w3) := B2s.out.trans (ho.mono (fun y _ hy => .inl hy))
        clear hr ho hz R2s O2s K2s B2s
        have R3s : Hid (Rm (w3.setCell ⟨bp, 1, none⟩ (.string s2)) R a n c zs q2) := R3.out.to (only_set (R := fun y => y = bp) (p := ⟨bp, 1, none⟩) rfl _) (fun y hy => by omega)
        have O3s : Hid (oqW (w3.setCell ⟨bp, 1, none⟩ (.string s2)) w.heap.size (.slice va vn vc) l) := O3.out.to (only_set (R := fun y => y = bp) (p := ⟨bp, 1, none⟩) rfl _) (fun y hy e => by have := HLB.out y hy; omega)
        have K3s : Hid (Bk (w3.setCell ⟨bp, 1, none⟩ (.string s2)) bp 69 [.string s1, .string s2]) := K3.out.set 1 _
        have B3s : Hid (Only (fun y => y = R ∨ w.heap.size ≤ y) w (w3.setCell ⟨bp, 1, none⟩ (.string s2))) := only_step B3.out (.inr hsz) 1 _
        have y1 := K3.out.cell (j := 1) rfl
        have f1 := K3.out.free 1
        go_upto_region 7 with (fail)
        generalize w3.setCell ⟨bp, 1, none⟩ (.string s2) = V3 at *
        clear y1 f1 R3 O3 K3 B3
        have y0 := K3s.out.cell (j := 0) rfl
        have y1 := K3s.out.cell (j := 1) rfl
        have hbM := below_new (o := .cells #[.string s1, .string s2] 69) (w := V3) (Below.refl _ _)
        have R4 := hid (R3s.out.below hbM)
        have O4 := hid (O3s.out.below hbM)
        have B4 : Hid (Only (fun y => y = R ∨ w.heap.size ≤ y) w (V3.alloc (.cells #[.string s1, .string s2] 69))) := B3s.out.trans (only_of_below hbM _)
        have K4 := hid (Bk.new V3 69 (pcs [(s1, s2)]))
        have S4 : Hid (w.heap.size ≤ (V3.alloc (.cells #[.string s1, .string s2] 69)).heap.size) := B4.out.size
        have hl2 : l.length ≤ 8 := by rw [HL.out]; omega
        have HLN : Hid ((l ++ [(s1, s2)]).length = j + 1) := by show _ = _; rw [List.length_append, HL.out]; rfl
        clear hbM
        go_wp2_with (at_builtin; refine wpList_append_pairs rfl _ _ rfl w.heap.size _ l rfl O4.out (fun _ => True) _ [(s1, s2)] rfl (K4.out.pr rfl (by simp) (fun _ => True) trivial) (by simp; omega) S4.out ?_; intro v' w5 hO hg)
        have ho5 : Only (fun y => (Value.slice va vn vc).ownBlock = some y) (V3.alloc (.cells #[.string s1, .string s2] 69)) w5 := only_of_grown hg (fun k e => e)
        have R5 := hid (R4.out.to ho5 (fun y hy => by have := HLB.out y hy; omega))
        have B5 : Hid (Only (fun y => y = R ∨ w.heap.size ≤ y) w w5) := B4.out.trans (ho5.mono (fun y _ hy => .inr (HLB.out y hy).1))
        have O5 : Hid (oqW w5 w.heap.size v' (l ++ [(s1, s2)])) := hO
        obtain ⟨xa, xn, xc, rfl, _⟩ := Ow.shape' hO
        clear hO hg ho5 R4 O4 B4 K4 S4 y0 y1 R3s O3s K3s B3s
        go_wp2
        go_roundw
        case rel => exact ⟨j + 1, xa, xn, xc, l ++ [(s1, s2)], q2, by omega, by go_num, rfl, HLN.out, O5.out, HPN.out, R5.out, B5.out⟩
        case measure => simp [intOf]; omega
      · have HE : Hid ((l.length : Int) = max 0 (min t 8)) := by
          show _ = _
          rw [HL.out, ← HM.out]
          omega
        go_wp2
        go_ret
        exact ⟨va, vn, vc, l, t, Q1, qj, rfl, HT.out, HP.out, HE.out, HO.out, HR.out, HB.out⟩
  · skip
    obtain ⟨M, hM⟩ : ∃ M : Nat, (M : Int) = (8 : Int) := ⟨((8 : Int)).toNat, by omega⟩
    have HM : Hid ((M : Int) = max 0 (min t 8)) := by show _ = _; omega
    have hM8 : M ≤ 8 := by omega
    go_enter Tryd.func72, Tryd.ntmps72
    go_wp2_with fail
    refine (mnum_any R a n c zs q t Q1 HG.out _ H0.out).mono ?_
    rintro r w1 ⟨rfl, hr, ho, hz⟩
    have RM1 := hid hr
    have B1 : Hid (Only (fun y => y = R ∨ w.heap.size ≤ y) w w1) := ho.mono (fun y _ hy => .inl hy)
    have Z1 := hid hz
    clear hr ho hz H0 HG
    go_wp2_with fail
    rw [← hM]
    clear hM
    go_loopw [3, 8] (fun x i wr => ∃ (j : Nat) (va : Option Addr) (vn vc : Nat) (l : List PB) (qj : Int), j ≤ M ∧ i = .int .i64 j ∧ x = .slice va vn vc ∧ Hid (l.length = j) ∧ Hid (oqW wr w.heap.size (.slice va vn vc) l) ∧ Hid (PRd zs Q1 l qj) ∧ Hid (Rm wr R a n c zs qj) ∧ Hid (Only (fun y => y = R ∨ w.heap.size ≤ y) w wr)) (fun _ i _ => M - (intOf i).toNat)
    case atStart => exact ⟨0, none, 0, 0, [], Q1, Nat.zero_le _, rfl, rfl, rfl, oqw_nil _ _, rfl, RM1.out, B1.out⟩
    case round =>
      obtain ⟨j, va, vn, vc, l, qj, hj, rfl, rfl, HL, HO, HP, HR, HB⟩ := hrel
      clear RM1 B1 Z1
      by_cases hlt : j < M
      · have hlt' : (j : Int) < (M : Int) := by omega
        obtain ⟨s1, q1, hs1⟩ : ∃ x y, (strOf (gt zs qj).1, (gt zs qj).2) = (x, y) := ⟨_, _, rfl⟩
        obtain ⟨s2, q2, hs2⟩ : ∃ x y, (strOf (gt zs q1).1, (gt zs q1).2) = (x, y) := ⟨_, _, rfl⟩
        have HPN : Hid (PRd zs Q1 (l ++ [(s1, s2)]) q2) := HP.out.snoc ⟨q1, hs1, q2, hs2, rfl⟩
        have hsz := HB.out.size
        have hbN := below_new (o := .cells #[.string ⟨#[]⟩, .string ⟨#[]⟩] 69) (w := wr) (Below.refl _ _)
        have RA := hid (HR.out.below hbN)
        have OA := hid (HO.out.below hbN)
        have KA := hid (Bk.new wr 69 [.string ⟨#[]⟩, .string ⟨#[]⟩])
        have BA : Hid (Only (fun y => y = R ∨ w.heap.size ≤ y) w (wr.alloc (.cells #[.string ⟨#[]⟩, .string ⟨#[]⟩] 69))) := HB.out.trans (only_of_below hbN _)
        have HLB : Hid (∀ y, (Value.slice va vn vc).ownBlock = some y → w.heap.size ≤ y ∧ y < wr.heap.size) := fun y hy => HO.out.lt hy
        clear HR HO HB HP hbN
        go_wp2_with fail
        refine (mtext_any R a n c zs qj s1 q1 hs1 _ RA.out).mono ?_
        generalize wr.alloc (.cells #[.string ⟨#[]⟩, .string ⟨#[]⟩] 69) = U at *
        generalize wr.heap.size = bp at *
        rintro r w2 ⟨rfl, hr, ho, hz⟩
        have R2 := hid hr
        have O2 := hid (OA.out.to ho (fun y hy e => by have := HLB.out y hy; omega))
        have K2 := hid (KA.out.to ho (fun e => by omega))
        have B2 : Hid (Only (fun y => y = R ∨ w.heap.size ≤ y) w w2) := BA.out.trans (ho.mono (fun y _ hy => .inl hy))
        clear hr ho hz RA OA KA BA
        have R2s : Hid (Rm (w2.setCell ⟨bp, 0, none⟩ (.string s1)) R a n c zs q1) := R2.out.to (only_set (R := fun y => y = bp) (p := ⟨bp, 0, none⟩) rfl _) (fun y hy => by omega)
        have O2s : Hid (oqW (w2.setCell ⟨bp, 0, none⟩ (.string s1)) w.heap.size (.slice va vn vc) l) := O2.out.to (only_set (R := fun y => y = bp) (p := ⟨bp, 0, none⟩) rfl _) (fun y hy e => by have := HLB.out y hy; omega)
        have K2s : Hid (Bk (w2.setCell ⟨bp, 0, none⟩ (.string s1)) bp 69 [.string s1, .string ⟨#[]⟩]) := K2.out.set 0 _
        have B2s : Hid (Only (fun y => y = R ∨ w.heap.size ≤ y) w (w2.setCell ⟨bp, 0, none⟩ (.string s1))) := only_step B2.out (.inr hsz) 0 _
        have y0 := K2.out.cell (j := 0) rfl
        have f0 := K2.out.free 0
        go_wp2_with fail
        refine (mtext_any R a n c zs q1 s2 q2 hs2 _ R2s.out).mono ?_
        generalize w2.setCell ⟨bp, 0, none⟩ (.string s1) = V2 at *
        clear y0 f0 R2 O2 K2 B2
        rintro r w3 ⟨rfl, hr, ho, hz⟩
        have R3 := hid hr
        have O3 := hid (O2s.out.to ho (fun y hy e => by have := HLB.out y hy; omega))
        have K3 := hid (K2s.out.to ho (fun e => by omega))
        have B3 : Hid (Only (fun y => y = R ∨ w.heap.size ≤ y) w w3) := B2s.out.trans (ho.mono (fun y _ hy => .inl hy))
        clear hr ho hz R2s O2s K2s B2s
        have R3s : Hid (Rm (w3.setCell ⟨bp, 1, none⟩ (.string s2)) R a n c zs q2) := R3.out.to (only_set (R := fun y => y = bp) (p := ⟨bp, 1, none⟩) rfl _) (fun y hy => by omega)
        have O3s : Hid (oqW (w3.setCell ⟨bp, 1, none⟩ (.string s2)) w.heap.size (.slice va vn vc) l) := O3.out.to (only_set (R := fun y => y = bp) (p := ⟨bp, 1, none⟩) rfl _) (fun y hy e => by have := HLB.out y hy; omega)
        have K3s : Hid (Bk (w3.setCell ⟨bp, 1, none⟩ (.string s2)) bp 69 [.string s1, .string s2]) := K3.out.set 1 _
        have B3s : Hid (Only (fun y => y = R ∨ w.heap.size ≤ y) w (w3.setCell ⟨bp, 1, none⟩ (.string s2))) := only_step B3.out (.inr hsz) 1 _
        have y1 := K3.out.cell (j := 1) rfl
        have f1 := K3.out.free 1
        go_upto_region 7 with (fail)
        generalize w3.setCell ⟨bp, 1, none⟩ (.string s2) = V3 at *
        clear y1 f1 R3 O3 K3 B3
        have y0 := K3s.out.cell (j := 0) rfl
        have y1 := K3s.out.cell (j := 1) rfl
        have hbM := below_new (o := .cells #[.string s1, .string s2] 69) (w := V3) (Below.refl _ _)
        have R4 := hid (R3s.out.below hbM)
        have O4 := hid (O3s.out.below hbM)
        have B4 : Hid (Only (fun y => y = R ∨ w.heap.size ≤ y) w (V3.alloc (.cells #[.string s1, .string s2] 69))) := B3s.out.trans (only_of_below hbM _)
        have K4 := hid (Bk.new V3 69 (pcs [(s1, s2)]))
        have S4 : Hid (w.heap.size ≤ (V3.alloc (.cells #[.string s1, .string s2] 69)).heap.size) := B4.out.size
        have hl2 : l.length ≤ 8 := by rw [HL.out]; omega
        have HLN : Hid ((l ++ [(s1, s2)]).length = j + 1) := by show _ = _; rw [List.length_append, HL.out]; rfl
        clear hbM
        go_wp2_with (at_builtin; refine wpList_append_pairs rfl _ _ rfl w.heap.size _ l rfl O4.out (fun _ => True) _ [(s1, s2)] rfl (K4.out.pr rfl (by simp) (fun _ => True) trivial) (by simp; omega) S4.out ?_; intro v' w5 hO hg)
        have ho5 : Only (fun y => (Value.slice va vn vc).ownBlock = some y) (V3.alloc (.cells #[.string s1, .string s2] 69)) w5 := only_of_grown hg (fun k e => e)
        have R5 := hid (R4.out.to ho5 (fun y hy => by have := HLB.out y hy; omega))
        have B5 : Hid (Only (fun y => y = R ∨ w.heap.size ≤ y) w w5) := B4.out.trans (ho5.mono (fun y _ hy => .inr (HLB.out y hy).1))
        have O5 : Hid (oqW w5 w.heap.size v' (l ++ [(s1, s2)])) := hO
        obtain ⟨xa, xn, xc, rfl, _⟩ := Ow.shape' hO
        clear hO hg ho5 R4 O4 B4 K4 S4 y0 y1 R3s O3s K3s B3s
        go_wp2
        go_roundw
        case rel => exact ⟨j + 1, xa, xn, xc, l ++ [(s1, s2)], q2, by omega, by go_num, rfl, HLN.out, O5.out, HPN.out, R5.out, B5.out⟩
        case measure => simp [intOf]; omega
      · have HE : Hid ((l.length : Int) = max 0 (min t 8)) := by
          show _ = _
          rw [HL.out, ← HM.out]
          omega
        go_wp2
        go_ret
        exact ⟨va, vn, vc, l, t, Q1, qj, rfl, HT.out, HP.out, HE.out, HO.out, HR.out, HB.out⟩
end Go.Proofs.YtbonkheoeohaiaaDoor
/-
  The program's reader of messages: the whole.
-/
namespace Go.Proofs.YtbonkheoeohaiaaDoor
open Go.RowKit
set_option linter.unusedVariables false
theorem NRd.cat {zs : List Int} {l l' : List Int} : ∀ {p q r : Int}, NRd zs p l q → NRd zs q l' r → NRd zs p (l ++ l') r := by
  induction l with
  | nil => intro p q r h k; subst h; exact k
  | cons n l ih => intro p q r h k; obtain ⟨p', h1, h2⟩ := h; exact ⟨p', h1, ih h2 k⟩
set_option maxHeartbeats 16000000 in
set_option maxRecDepth 20000 in
theorem mmsg_any (R : Nat) (a : Option Addr) (n c : Nat) (zs : List Int) (w : World) (h : Rm w R a n c zs 0) :
    Calls Tryd.prog 37 #[.pointer (some ⟨R, 0, none⟩)] w fun r w' => ∃ (m : MS) (pa : Option Addr) (pn pc : Nat), r = .returned (.agg #[.int .i64 m.kd, .int .i64 m.c, .int .i64 m.e, .int .i64 m.n, .int .i64 m.sh, .int .i64 m.nu, .int .i64 m.st, .int .i64 m.k, .string m.ky, .string m.vl, .string m.lo, .string m.hi, .int .i64 m.mo, .bool m.bk, .int .i64 m.cd, .slice pa pn pc, .bool m.ys]) ∧ Trc 8 zs m ∧ oqW w' w.heap.size (.slice pa pn pc) m.ps ∧ Only (fun y => y = R ∨ w.heap.size ≤ y) w w' := by
  obtain ⟨q, hq0⟩ : ∃ q : Int, q = 0 := ⟨_, rfl⟩
  rw [← hq0] at h
  have HQ0 := hid hq0
  clear hq0
  obtain ⟨xkd, Q1, hxkd⟩ : ∃ x y, gv zs q = (x, y) := ⟨_, _, rfl⟩
  have hRlt := h.bk.lt
  have RM0 : Hid (Rm ((w.alloc (.cells #[.int .i64 0, .int .i64 0, .int .i64 0, .int .i64 0, .int .i64 0, .int .i64 0, .int .i64 0, .int .i64 0, .string ⟨#[]⟩, .string ⟨#[]⟩, .string ⟨#[]⟩, .string ⟨#[]⟩, .int .i64 0, .bool false, .int .i64 0, .slice none 0 0, .bool false] 31)).alloc (.cells #[.int .i64 0, .int .i64 0, .int .i64 0, .int .i64 0, .int .i64 0, .int .i64 0, .int .i64 0, .int .i64 0, .string ⟨#[]⟩, .string ⟨#[]⟩, .string ⟨#[]⟩, .string ⟨#[]⟩, .int .i64 0, .bool false, .int .i64 0, .slice none 0 0, .bool false] 31)) R a n c zs q) := h.below (below_new (below_new (Below.refl _ _)))
  have J0 := hid ((Bk.new w 31 [.int .i64 0, .int .i64 0, .int .i64 0, .int .i64 0, .int .i64 0, .int .i64 0, .int .i64 0, .int .i64 0, .string ⟨#[]⟩, .string ⟨#[]⟩, .string ⟨#[]⟩, .string ⟨#[]⟩, .int .i64 0, .bool false, .int .i64 0, .slice none 0 0, .bool false]).alloc (.cells #[.int .i64 0, .int .i64 0, .int .i64 0, .int .i64 0, .int .i64 0, .int .i64 0, .int .i64 0, .int .i64 0, .string ⟨#[]⟩, .string ⟨#[]⟩, .string ⟨#[]⟩, .string ⟨#[]⟩, .int .i64 0, .bool false, .int .i64 0, .slice none 0 0, .bool false] 31))
  have I0 := hid (Bk.new (w.alloc (.cells #[.int .i64 0, .int .i64 0, .int .i64 0, .int .i64 0, .int .i64 0, .int .i64 0, .int .i64 0, .int .i64 0, .string ⟨#[]⟩, .string ⟨#[]⟩, .string ⟨#[]⟩, .string ⟨#[]⟩, .int .i64 0, .bool false, .int .i64 0, .slice none 0 0, .bool false] 31)) 31 [.int .i64 0, .int .i64 0, .int .i64 0, .int .i64 0, .int .i64 0, .int .i64 0, .int .i64 0, .int .i64 0, .string ⟨#[]⟩, .string ⟨#[]⟩, .string ⟨#[]⟩, .string ⟨#[]⟩, .int .i64 0, .bool false, .int .i64 0, .slice none 0 0, .bool false])
  rw [show (w.alloc (.cells #[.int .i64 0, .int .i64 0, .int .i64 0, .int .i64 0, .int .i64 0, .int .i64 0, .int .i64 0, .int .i64 0, .string ⟨#[]⟩, .string ⟨#[]⟩, .string ⟨#[]⟩, .string ⟨#[]⟩, .int .i64 0, .bool false, .int .i64 0, .slice none 0 0, .bool false] 31)).heap.size = w.heap.size + 1 by simp] at I0
  have B0 : Hid (Only (fun y => y = R ∨ w.heap.size ≤ y) w ((w.alloc (.cells #[.int .i64 0, .int .i64 0, .int .i64 0, .int .i64 0, .int .i64 0, .int .i64 0, .int .i64 0, .int .i64 0, .string ⟨#[]⟩, .string ⟨#[]⟩, .string ⟨#[]⟩, .string ⟨#[]⟩, .int .i64 0, .bool false, .int .i64 0, .slice none 0 0, .bool false] 31)).alloc (.cells #[.int .i64 0, .int .i64 0, .int .i64 0, .int .i64 0, .int .i64 0, .int .i64 0, .int .i64 0, .int .i64 0, .string ⟨#[]⟩, .string ⟨#[]⟩, .string ⟨#[]⟩, .string ⟨#[]⟩, .int .i64 0, .bool false, .int .i64 0, .slice none 0 0, .bool false] 31))) := only_of_below (below_new (below_new (Below.refl _ _))) _
  clear h
  go_enter Tryd.func37, Tryd.ntmps37
  go_wp2_with fail
  refine (mnum_any R a n c zs q xkd Q1 hxkd _ RM0.out).mono ?_
  generalize (w.alloc (.cells #[.int .i64 0, .int .i64 0, .int .i64 0, .int .i64 0, .int .i64 0, .int .i64 0, .int .i64 0, .int .i64 0, .string ⟨#[]⟩, .string ⟨#[]⟩, .string ⟨#[]⟩, .string ⟨#[]⟩, .int .i64 0, .bool false, .int .i64 0, .slice none 0 0, .bool false] 31)).alloc (.cells #[.int .i64 0, .int .i64 0, .int .i64 0, .int .i64 0, .int .i64 0, .int .i64 0, .int .i64 0, .int .i64 0, .string ⟨#[]⟩, .string ⟨#[]⟩, .string ⟨#[]⟩, .string ⟨#[]⟩, .int .i64 0, .bool false, .int .i64 0, .slice none 0 0, .bool false] 31) = U at *
  rintro r w1 ⟨rfl, hr, ho, hz⟩
  have hv := I0.out.lt
  have J1a := hid (J0.out.to ho (fun e => by omega))
  have I1a := hid (I0.out.to ho (fun e => by omega))
  have B1a : Hid (Only (fun y => y = R ∨ w.heap.size ≤ y) w w1) := B0.out.trans (ho.mono (fun y _ hy => .inl hy))
  have RM1a := hid hr
  have I1 : Hid (Bk (w1.setCell ⟨w.heap.size + 1, 0, none⟩ (.int .i64 xkd)) (w.heap.size + 1) 31 [.int .i64 xkd, .int .i64 0, .int .i64 0, .int .i64 0, .int .i64 0, .int .i64 0, .int .i64 0, .int .i64 0, .string ⟨#[]⟩, .string ⟨#[]⟩, .string ⟨#[]⟩, .string ⟨#[]⟩, .int .i64 0, .bool false, .int .i64 0, .slice none 0 0, .bool false]) := (setE I1a.out 0 (.int .i64 xkd) (ys := [.int .i64 xkd, .int .i64 0, .int .i64 0, .int .i64 0, .int .i64 0, .int .i64 0, .int .i64 0, .int .i64 0, .string ⟨#[]⟩, .string ⟨#[]⟩, .string ⟨#[]⟩, .string ⟨#[]⟩, .int .i64 0, .bool false, .int .i64 0, .slice none 0 0, .bool false]) rfl)
  have J1 : Hid (Bk (w1.setCell ⟨w.heap.size + 1, 0, none⟩ (.int .i64 xkd)) w.heap.size 31 [.int .i64 0, .int .i64 0, .int .i64 0, .int .i64 0, .int .i64 0, .int .i64 0, .int .i64 0, .int .i64 0, .string ⟨#[]⟩, .string ⟨#[]⟩, .string ⟨#[]⟩, .string ⟨#[]⟩, .int .i64 0, .bool false, .int .i64 0, .slice none 0 0, .bool false]) := (J1a.out.setOther (by omega) _ _)
  have B1 : Hid (Only (fun y => y = R ∨ w.heap.size ≤ y) w (w1.setCell ⟨w.heap.size + 1, 0, none⟩ (.int .i64 xkd))) := (only_step B1a.out (.inr (by omega)) 0 _)
  have RM1 : Hid (Rm (w1.setCell ⟨w.heap.size + 1, 0, none⟩ (.int .i64 xkd)) R a n c zs Q1) := (RM1a.out.to (only_set (R := fun y => y = w.heap.size + 1) (p := ⟨w.heap.size + 1, 0, none⟩) rfl _) (fun y hy => by omega))
  have y0 := I1a.out.cell (j := 0) rfl
  have f0 := I1a.out.free 0
  clear hr ho hv J0 I0 B0 RM0
  go_upto_region 3 with (fail)
  generalize (w1.setCell ⟨w.heap.size + 1, 0, none⟩ (.int .i64 xkd)) = V1 at *
  clear y0 f0
  clear J1a I1a B1a RM1a
  go_wp2_with fail
  refine (mtx_any R a n c zs Q1 _ RM1.out).mono ?_
  rintro r w2 ⟨xc, xe, xn, Q2, rfl, ht2, hr, ho⟩
  have hv := I1.out.lt
  have J2a := hid (J1.out.to ho (fun e => by omega))
  have I2a := hid (I1.out.to ho (fun e => by omega))
  have B2a : Hid (Only (fun y => y = R ∨ w.heap.size ≤ y) w w2) := B1.out.trans (ho.mono (fun y _ hy => by rcases hy with h | h; exact .inl h; exact .inr (by omega)))
  have RM2a := hid hr
  have I2 : Hid (Bk (((w2.setCell ⟨w.heap.size + 1, 1, none⟩ (.int .i64 xc)).setCell ⟨w.heap.size + 1, 2, none⟩ (.int .i64 xe)).setCell ⟨w.heap.size + 1, 3, none⟩ (.int .i64 xn)) (w.heap.size + 1) 31 [.int .i64 xkd, .int .i64 xc, .int .i64 xe, .int .i64 xn, .int .i64 0, .int .i64 0, .int .i64 0, .int .i64 0, .string ⟨#[]⟩, .string ⟨#[]⟩, .string ⟨#[]⟩, .string ⟨#[]⟩, .int .i64 0, .bool false, .int .i64 0, .slice none 0 0, .bool false]) := (setE (setE (setE I2a.out 1 (.int .i64 xc) (ys := [.int .i64 xkd, .int .i64 xc, .int .i64 0, .int .i64 0, .int .i64 0, .int .i64 0, .int .i64 0, .int .i64 0, .string ⟨#[]⟩, .string ⟨#[]⟩, .string ⟨#[]⟩, .string ⟨#[]⟩, .int .i64 0, .bool false, .int .i64 0, .slice none 0 0, .bool false]) rfl) 2 (.int .i64 xe) (ys := [.int .i64 xkd, .int .i64 xc, .int .i64 xe, .int .i64 0, .int .i64 0, .int .i64 0, .int .i64 0, .int .i64 0, .string ⟨#[]⟩, .string ⟨#[]⟩, .string ⟨#[]⟩, .string ⟨#[]⟩, .int .i64 0, .bool false, .int .i64 0, .slice none 0 0, .bool false]) rfl) 3 (.int .i64 xn) (ys := [.int .i64 xkd, .int .i64 xc, .int .i64 xe, .int .i64 xn, .int .i64 0, .int .i64 0, .int .i64 0, .int .i64 0, .string ⟨#[]⟩, .string ⟨#[]⟩, .string ⟨#[]⟩, .string ⟨#[]⟩, .int .i64 0, .bool false, .int .i64 0, .slice none 0 0, .bool false]) rfl)
  have J2 : Hid (Bk (((w2.setCell ⟨w.heap.size + 1, 1, none⟩ (.int .i64 xc)).setCell ⟨w.heap.size + 1, 2, none⟩ (.int .i64 xe)).setCell ⟨w.heap.size + 1, 3, none⟩ (.int .i64 xn)) w.heap.size 31 [.int .i64 0, .int .i64 0, .int .i64 0, .int .i64 0, .int .i64 0, .int .i64 0, .int .i64 0, .int .i64 0, .string ⟨#[]⟩, .string ⟨#[]⟩, .string ⟨#[]⟩, .string ⟨#[]⟩, .int .i64 0, .bool false, .int .i64 0, .slice none 0 0, .bool false]) := (((J2a.out.setOther (by omega) _ _).setOther (by omega) _ _).setOther (by omega) _ _)
  have B2 : Hid (Only (fun y => y = R ∨ w.heap.size ≤ y) w (((w2.setCell ⟨w.heap.size + 1, 1, none⟩ (.int .i64 xc)).setCell ⟨w.heap.size + 1, 2, none⟩ (.int .i64 xe)).setCell ⟨w.heap.size + 1, 3, none⟩ (.int .i64 xn))) := (only_step (only_step (only_step B2a.out (.inr (by omega)) 1 _) (.inr (by omega)) 2 _) (.inr (by omega)) 3 _)
  have RM2 : Hid (Rm (((w2.setCell ⟨w.heap.size + 1, 1, none⟩ (.int .i64 xc)).setCell ⟨w.heap.size + 1, 2, none⟩ (.int .i64 xe)).setCell ⟨w.heap.size + 1, 3, none⟩ (.int .i64 xn)) R a n c zs Q2) := (((RM2a.out.to (only_set (R := fun y => y = w.heap.size + 1) (p := ⟨w.heap.size + 1, 1, none⟩) rfl _) (fun y hy => by omega)).to (only_set (R := fun y => y = w.heap.size + 1) (p := ⟨w.heap.size + 1, 2, none⟩) rfl _) (fun y hy => by omega)).to (only_set (R := fun y => y = w.heap.size + 1) (p := ⟨w.heap.size + 1, 3, none⟩) rfl _) (fun y hy => by omega))
  have y1 := I2a.out.cell (j := 1) rfl
  have f1 := I2a.out.free 1
  have y2 := I2a.out.cell (j := 2) rfl
  have f2 := I2a.out.free 2
  have y3 := I2a.out.cell (j := 3) rfl
  have f3 := I2a.out.free 3
  clear hr ho hv J1 I1 B1 RM1
  go_upto_region 4 with (fail)
  generalize (((w2.setCell ⟨w.heap.size + 1, 1, none⟩ (.int .i64 xc)).setCell ⟨w.heap.size + 1, 2, none⟩ (.int .i64 xe)).setCell ⟨w.heap.size + 1, 3, none⟩ (.int .i64 xn)) = V2 at *
  clear y1 f1
  clear y2 f2
  clear y3 f3
  clear J2a I2a B2a RM2a
  have HT2 := hid ht2
  clear ht2
  obtain ⟨xsh, Q3, hxsh⟩ : ∃ x y, gv zs Q2 = (x, y) := ⟨_, _, rfl⟩
  go_wp2_with fail
  refine (mnum_any R a n c zs Q2 xsh Q3 hxsh _ RM2.out).mono ?_
  rintro r w3 ⟨rfl, hr, ho, hz⟩
  have hv := I2.out.lt
  have J3a := hid (J2.out.to ho (fun e => by omega))
  have I3a := hid (I2.out.to ho (fun e => by omega))
  have B3a : Hid (Only (fun y => y = R ∨ w.heap.size ≤ y) w w3) := B2.out.trans (ho.mono (fun y _ hy => .inl hy))
  have RM3a := hid hr
  have I3 : Hid (Bk (w3.setCell ⟨w.heap.size + 1, 4, none⟩ (.int .i64 xsh)) (w.heap.size + 1) 31 [.int .i64 xkd, .int .i64 xc, .int .i64 xe, .int .i64 xn, .int .i64 xsh, .int .i64 0, .int .i64 0, .int .i64 0, .string ⟨#[]⟩, .string ⟨#[]⟩, .string ⟨#[]⟩, .string ⟨#[]⟩, .int .i64 0, .bool false, .int .i64 0, .slice none 0 0, .bool false]) := (setE I3a.out 4 (.int .i64 xsh) (ys := [.int .i64 xkd, .int .i64 xc, .int .i64 xe, .int .i64 xn, .int .i64 xsh, .int .i64 0, .int .i64 0, .int .i64 0, .string ⟨#[]⟩, .string ⟨#[]⟩, .string ⟨#[]⟩, .string ⟨#[]⟩, .int .i64 0, .bool false, .int .i64 0, .slice none 0 0, .bool false]) rfl)
  have J3 : Hid (Bk (w3.setCell ⟨w.heap.size + 1, 4, none⟩ (.int .i64 xsh)) w.heap.size 31 [.int .i64 0, .int .i64 0, .int .i64 0, .int .i64 0, .int .i64 0, .int .i64 0, .int .i64 0, .int .i64 0, .string ⟨#[]⟩, .string ⟨#[]⟩, .string ⟨#[]⟩, .string ⟨#[]⟩, .int .i64 0, .bool false, .int .i64 0, .slice none 0 0, .bool false]) := (J3a.out.setOther (by omega) _ _)
  have B3 : Hid (Only (fun y => y = R ∨ w.heap.size ≤ y) w (w3.setCell ⟨w.heap.size + 1, 4, none⟩ (.int .i64 xsh))) := (only_step B3a.out (.inr (by omega)) 4 _)
  have RM3 : Hid (Rm (w3.setCell ⟨w.heap.size + 1, 4, none⟩ (.int .i64 xsh)) R a n c zs Q3) := (RM3a.out.to (only_set (R := fun y => y = w.heap.size + 1) (p := ⟨w.heap.size + 1, 4, none⟩) rfl _) (fun y hy => by omega))
  have y4 := I3a.out.cell (j := 4) rfl
  have f4 := I3a.out.free 4
  clear hr ho hv J2 I2 B2 RM2
  go_upto_region 5 with (fail)
  generalize (w3.setCell ⟨w.heap.size + 1, 4, none⟩ (.int .i64 xsh)) = V3 at *
  clear y4 f4
  clear J3a I3a B3a RM3a
  obtain ⟨xnu, Q4, hxnu⟩ : ∃ x y, gv zs Q3 = (x, y) := ⟨_, _, rfl⟩
  go_wp2_with fail
  refine (mnum_any R a n c zs Q3 xnu Q4 hxnu _ RM3.out).mono ?_
  rintro r w4 ⟨rfl, hr, ho, hz⟩
  have hv := I3.out.lt
  have J4a := hid (J3.out.to ho (fun e => by omega))
  have I4a := hid (I3.out.to ho (fun e => by omega))
  have B4a : Hid (Only (fun y => y = R ∨ w.heap.size ≤ y) w w4) := B3.out.trans (ho.mono (fun y _ hy => .inl hy))
  have RM4a := hid hr
  have I4 : Hid (Bk (w4.setCell ⟨w.heap.size + 1, 5, none⟩ (.int .i64 xnu)) (w.heap.size + 1) 31 [.int .i64 xkd, .int .i64 xc, .int .i64 xe, .int .i64 xn, .int .i64 xsh, .int .i64 xnu, .int .i64 0, .int .i64 0, .string ⟨#[]⟩, .string ⟨#[]⟩, .string ⟨#[]⟩, .string ⟨#[]⟩, .int .i64 0, .bool false, .int .i64 0, .slice none 0 0, .bool false]) := (setE I4a.out 5 (.int .i64 xnu) (ys := [.int .i64 xkd, .int .i64 xc, .int .i64 xe, .int .i64 xn, .int .i64 xsh, .int .i64 xnu, .int .i64 0, .int .i64 0, .string ⟨#[]⟩, .string ⟨#[]⟩, .string ⟨#[]⟩, .string ⟨#[]⟩, .int .i64 0, .bool false, .int .i64 0, .slice none 0 0, .bool false]) rfl)
  have J4 : Hid (Bk (w4.setCell ⟨w.heap.size + 1, 5, none⟩ (.int .i64 xnu)) w.heap.size 31 [.int .i64 0, .int .i64 0, .int .i64 0, .int .i64 0, .int .i64 0, .int .i64 0, .int .i64 0, .int .i64 0, .string ⟨#[]⟩, .string ⟨#[]⟩, .string ⟨#[]⟩, .string ⟨#[]⟩, .int .i64 0, .bool false, .int .i64 0, .slice none 0 0, .bool false]) := (J4a.out.setOther (by omega) _ _)
  have B4 : Hid (Only (fun y => y = R ∨ w.heap.size ≤ y) w (w4.setCell ⟨w.heap.size + 1, 5, none⟩ (.int .i64 xnu))) := (only_step B4a.out (.inr (by omega)) 5 _)
  have RM4 : Hid (Rm (w4.setCell ⟨w.heap.size + 1, 5, none⟩ (.int .i64 xnu)) R a n c zs Q4) := (RM4a.out.to (only_set (R := fun y => y = w.heap.size + 1) (p := ⟨w.heap.size + 1, 5, none⟩) rfl _) (fun y hy => by omega))
  have y5 := I4a.out.cell (j := 5) rfl
  have f5 := I4a.out.free 5
  clear hr ho hv J3 I3 B3 RM3
  go_upto_region 6 with (fail)
  generalize (w4.setCell ⟨w.heap.size + 1, 5, none⟩ (.int .i64 xnu)) = V4 at *
  clear y5 f5
  clear J4a I4a B4a RM4a
  obtain ⟨xst, Q5, hxst⟩ : ∃ x y, gv zs Q4 = (x, y) := ⟨_, _, rfl⟩
  go_wp2_with fail
  refine (mnum_any R a n c zs Q4 xst Q5 hxst _ RM4.out).mono ?_
  rintro r w5 ⟨rfl, hr, ho, hz⟩
  have hv := I4.out.lt
  have J5a := hid (J4.out.to ho (fun e => by omega))
  have I5a := hid (I4.out.to ho (fun e => by omega))
  have B5a : Hid (Only (fun y => y = R ∨ w.heap.size ≤ y) w w5) := B4.out.trans (ho.mono (fun y _ hy => .inl hy))
  have RM5a := hid hr
  have I5 : Hid (Bk (w5.setCell ⟨w.heap.size + 1, 6, none⟩ (.int .i64 xst)) (w.heap.size + 1) 31 [.int .i64 xkd, .int .i64 xc, .int .i64 xe, .int .i64 xn, .int .i64 xsh, .int .i64 xnu, .int .i64 xst, .int .i64 0, .string ⟨#[]⟩, .string ⟨#[]⟩, .string ⟨#[]⟩, .string ⟨#[]⟩, .int .i64 0, .bool false, .int .i64 0, .slice none 0 0, .bool false]) := (setE I5a.out 6 (.int .i64 xst) (ys := [.int .i64 xkd, .int .i64 xc, .int .i64 xe, .int .i64 xn, .int .i64 xsh, .int .i64 xnu, .int .i64 xst, .int .i64 0, .string ⟨#[]⟩, .string ⟨#[]⟩, .string ⟨#[]⟩, .string ⟨#[]⟩, .int .i64 0, .bool false, .int .i64 0, .slice none 0 0, .bool false]) rfl)
  have J5 : Hid (Bk (w5.setCell ⟨w.heap.size + 1, 6, none⟩ (.int .i64 xst)) w.heap.size 31 [.int .i64 0, .int .i64 0, .int .i64 0, .int .i64 0, .int .i64 0, .int .i64 0, .int .i64 0, .int .i64 0, .string ⟨#[]⟩, .string ⟨#[]⟩, .string ⟨#[]⟩, .string ⟨#[]⟩, .int .i64 0, .bool false, .int .i64 0, .slice none 0 0, .bool false]) := (J5a.out.setOther (by omega) _ _)
  have B5 : Hid (Only (fun y => y = R ∨ w.heap.size ≤ y) w (w5.setCell ⟨w.heap.size + 1, 6, none⟩ (.int .i64 xst))) := (only_step B5a.out (.inr (by omega)) 6 _)
  have RM5 : Hid (Rm (w5.setCell ⟨w.heap.size + 1, 6, none⟩ (.int .i64 xst)) R a n c zs Q5) := (RM5a.out.to (only_set (R := fun y => y = w.heap.size + 1) (p := ⟨w.heap.size + 1, 6, none⟩) rfl _) (fun y hy => by omega))
  have y6 := I5a.out.cell (j := 6) rfl
  have f6 := I5a.out.free 6
  clear hr ho hv J4 I4 B4 RM4
  go_upto_region 7 with (fail)
  generalize (w5.setCell ⟨w.heap.size + 1, 6, none⟩ (.int .i64 xst)) = V5 at *
  clear y6 f6
  clear J5a I5a B5a RM5a
  go_wp2_with fail
  refine (mask_any R a n c zs Q5 _ RM5.out).mono ?_
  rintro r w6 ⟨xk, s1, s2, s3, s4, xm, xb, qa, qb, Q6, rfl, ha1, ha2, ha3, hr, ho⟩
  have hv := I5.out.lt
  have J6a := hid (J5.out.to ho (fun e => by omega))
  have I6a := hid (I5.out.to ho (fun e => by omega))
  have B6a : Hid (Only (fun y => y = R ∨ w.heap.size ≤ y) w w6) := B5.out.trans (ho.mono (fun y _ hy => by rcases hy with h | h; exact .inl h; exact .inr (by omega)))
  have RM6a := hid hr
  have I6 : Hid (Bk (((((((w6.setCell ⟨w.heap.size + 1, 7, none⟩ (.int .i64 xk)).setCell ⟨w.heap.size + 1, 8, none⟩ (.string s1)).setCell ⟨w.heap.size + 1, 9, none⟩ (.string s2)).setCell ⟨w.heap.size + 1, 10, none⟩ (.string s3)).setCell ⟨w.heap.size + 1, 11, none⟩ (.string s4)).setCell ⟨w.heap.size + 1, 12, none⟩ (.int .i64 xm)).setCell ⟨w.heap.size + 1, 13, none⟩ (.bool (xb == 1))) (w.heap.size + 1) 31 [.int .i64 xkd, .int .i64 xc, .int .i64 xe, .int .i64 xn, .int .i64 xsh, .int .i64 xnu, .int .i64 xst, .int .i64 xk, .string s1, .string s2, .string s3, .string s4, .int .i64 xm, .bool (xb == 1), .int .i64 0, .slice none 0 0, .bool false]) := (setE (setE (setE (setE (setE (setE (setE I6a.out 7 (.int .i64 xk) (ys := [.int .i64 xkd, .int .i64 xc, .int .i64 xe, .int .i64 xn, .int .i64 xsh, .int .i64 xnu, .int .i64 xst, .int .i64 xk, .string ⟨#[]⟩, .string ⟨#[]⟩, .string ⟨#[]⟩, .string ⟨#[]⟩, .int .i64 0, .bool false, .int .i64 0, .slice none 0 0, .bool false]) rfl) 8 (.string s1) (ys := [.int .i64 xkd, .int .i64 xc, .int .i64 xe, .int .i64 xn, .int .i64 xsh, .int .i64 xnu, .int .i64 xst, .int .i64 xk, .string s1, .string ⟨#[]⟩, .string ⟨#[]⟩, .string ⟨#[]⟩, .int .i64 0, .bool false, .int .i64 0, .slice none 0 0, .bool false]) rfl) 9 (.string s2) (ys := [.int .i64 xkd, .int .i64 xc, .int .i64 xe, .int .i64 xn, .int .i64 xsh, .int .i64 xnu, .int .i64 xst, .int .i64 xk, .string s1, .string s2, .string ⟨#[]⟩, .string ⟨#[]⟩, .int .i64 0, .bool false, .int .i64 0, .slice none 0 0, .bool false]) rfl) 10 (.string s3) (ys := [.int .i64 xkd, .int .i64 xc, .int .i64 xe, .int .i64 xn, .int .i64 xsh, .int .i64 xnu, .int .i64 xst, .int .i64 xk, .string s1, .string s2, .string s3, .string ⟨#[]⟩, .int .i64 0, .bool false, .int .i64 0, .slice none 0 0, .bool false]) rfl) 11 (.string s4) (ys := [.int .i64 xkd, .int .i64 xc, .int .i64 xe, .int .i64 xn, .int .i64 xsh, .int .i64 xnu, .int .i64 xst, .int .i64 xk, .string s1, .string s2, .string s3, .string s4, .int .i64 0, .bool false, .int .i64 0, .slice none 0 0, .bool false]) rfl) 12 (.int .i64 xm) (ys := [.int .i64 xkd, .int .i64 xc, .int .i64 xe, .int .i64 xn, .int .i64 xsh, .int .i64 xnu, .int .i64 xst, .int .i64 xk, .string s1, .string s2, .string s3, .string s4, .int .i64 xm, .bool false, .int .i64 0, .slice none 0 0, .bool false]) rfl) 13 (.bool (xb == 1)) (ys := [.int .i64 xkd, .int .i64 xc, .int .i64 xe, .int .i64 xn, .int .i64 xsh, .int .i64 xnu, .int .i64 xst, .int .i64 xk, .string s1, .string s2, .string s3, .string s4, .int .i64 xm, .bool (xb == 1), .int .i64 0, .slice none 0 0, .bool false]) rfl)
  have J6 : Hid (Bk (((((((w6.setCell ⟨w.heap.size + 1, 7, none⟩ (.int .i64 xk)).setCell ⟨w.heap.size + 1, 8, none⟩ (.string s1)).setCell ⟨w.heap.size + 1, 9, none⟩ (.string s2)).setCell ⟨w.heap.size + 1, 10, none⟩ (.string s3)).setCell ⟨w.heap.size + 1, 11, none⟩ (.string s4)).setCell ⟨w.heap.size + 1, 12, none⟩ (.int .i64 xm)).setCell ⟨w.heap.size + 1, 13, none⟩ (.bool (xb == 1))) w.heap.size 31 [.int .i64 0, .int .i64 0, .int .i64 0, .int .i64 0, .int .i64 0, .int .i64 0, .int .i64 0, .int .i64 0, .string ⟨#[]⟩, .string ⟨#[]⟩, .string ⟨#[]⟩, .string ⟨#[]⟩, .int .i64 0, .bool false, .int .i64 0, .slice none 0 0, .bool false]) := (((((((J6a.out.setOther (by omega) _ _).setOther (by omega) _ _).setOther (by omega) _ _).setOther (by omega) _ _).setOther (by omega) _ _).setOther (by omega) _ _).setOther (by omega) _ _)
  have B6 : Hid (Only (fun y => y = R ∨ w.heap.size ≤ y) w (((((((w6.setCell ⟨w.heap.size + 1, 7, none⟩ (.int .i64 xk)).setCell ⟨w.heap.size + 1, 8, none⟩ (.string s1)).setCell ⟨w.heap.size + 1, 9, none⟩ (.string s2)).setCell ⟨w.heap.size + 1, 10, none⟩ (.string s3)).setCell ⟨w.heap.size + 1, 11, none⟩ (.string s4)).setCell ⟨w.heap.size + 1, 12, none⟩ (.int .i64 xm)).setCell ⟨w.heap.size + 1, 13, none⟩ (.bool (xb == 1)))) := (only_step (only_step (only_step (only_step (only_step (only_step (only_step B6a.out (.inr (by omega)) 7 _) (.inr (by omega)) 8 _) (.inr (by omega)) 9 _) (.inr (by omega)) 10 _) (.inr (by omega)) 11 _) (.inr (by omega)) 12 _) (.inr (by omega)) 13 _)
  have RM6 : Hid (Rm (((((((w6.setCell ⟨w.heap.size + 1, 7, none⟩ (.int .i64 xk)).setCell ⟨w.heap.size + 1, 8, none⟩ (.string s1)).setCell ⟨w.heap.size + 1, 9, none⟩ (.string s2)).setCell ⟨w.heap.size + 1, 10, none⟩ (.string s3)).setCell ⟨w.heap.size + 1, 11, none⟩ (.string s4)).setCell ⟨w.heap.size + 1, 12, none⟩ (.int .i64 xm)).setCell ⟨w.heap.size + 1, 13, none⟩ (.bool (xb == 1))) R a n c zs Q6) := (((((((RM6a.out.to (only_set (R := fun y => y = w.heap.size + 1) (p := ⟨w.heap.size + 1, 7, none⟩) rfl _) (fun y hy => by omega)).to (only_set (R := fun y => y = w.heap.size + 1) (p := ⟨w.heap.size + 1, 8, none⟩) rfl _) (fun y hy => by omega)).to (only_set (R := fun y => y = w.heap.size + 1) (p := ⟨w.heap.size + 1, 9, none⟩) rfl _) (fun y hy => by omega)).to (only_set (R := fun y => y = w.heap.size + 1) (p := ⟨w.heap.size + 1, 10, none⟩) rfl _) (fun y hy => by omega)).to (only_set (R := fun y => y = w.heap.size + 1) (p := ⟨w.heap.size + 1, 11, none⟩) rfl _) (fun y hy => by omega)).to (only_set (R := fun y => y = w.heap.size + 1) (p := ⟨w.heap.size + 1, 12, none⟩) rfl _) (fun y hy => by omega)).to (only_set (R := fun y => y = w.heap.size + 1) (p := ⟨w.heap.size + 1, 13, none⟩) rfl _) (fun y hy => by omega))
  have y7 := I6a.out.cell (j := 7) rfl
  have f7 := I6a.out.free 7
  have y8 := I6a.out.cell (j := 8) rfl
  have f8 := I6a.out.free 8
  have y9 := I6a.out.cell (j := 9) rfl
  have f9 := I6a.out.free 9
  have y10 := I6a.out.cell (j := 10) rfl
  have f10 := I6a.out.free 10
  have y11 := I6a.out.cell (j := 11) rfl
  have f11 := I6a.out.free 11
  have y12 := I6a.out.cell (j := 12) rfl
  have f12 := I6a.out.free 12
  have y13 := I6a.out.cell (j := 13) rfl
  have f13 := I6a.out.free 13
  clear hr ho hv J5 I5 B5 RM5
  go_upto_region 8 with (fail)
  generalize (((((((w6.setCell ⟨w.heap.size + 1, 7, none⟩ (.int .i64 xk)).setCell ⟨w.heap.size + 1, 8, none⟩ (.string s1)).setCell ⟨w.heap.size + 1, 9, none⟩ (.string s2)).setCell ⟨w.heap.size + 1, 10, none⟩ (.string s3)).setCell ⟨w.heap.size + 1, 11, none⟩ (.string s4)).setCell ⟨w.heap.size + 1, 12, none⟩ (.int .i64 xm)).setCell ⟨w.heap.size + 1, 13, none⟩ (.bool (xb == 1))) = V6 at *
  clear y7 f7
  clear y8 f8
  clear y9 f9
  clear y10 f10
  clear y11 f11
  clear y12 f12
  clear y13 f13
  clear J6a I6a B6a RM6a
  have HA1 := hid ha1
  have HA2 := hid ha2
  have HA3 := hid ha3
  clear ha1 ha2 ha3
  obtain ⟨xcd, Q7, hxcd⟩ : ∃ x y, gv zs Q6 = (x, y) := ⟨_, _, rfl⟩
  go_wp2_with fail
  refine (mnum_any R a n c zs Q6 xcd Q7 hxcd _ RM6.out).mono ?_
  rintro r w7 ⟨rfl, hr, ho, hz⟩
  have hv := I6.out.lt
  have J7a := hid (J6.out.to ho (fun e => by omega))
  have I7a := hid (I6.out.to ho (fun e => by omega))
  have B7a : Hid (Only (fun y => y = R ∨ w.heap.size ≤ y) w w7) := B6.out.trans (ho.mono (fun y _ hy => .inl hy))
  have RM7a := hid hr
  have I7 : Hid (Bk (w7.setCell ⟨w.heap.size + 1, 14, none⟩ (.int .i64 xcd)) (w.heap.size + 1) 31 [.int .i64 xkd, .int .i64 xc, .int .i64 xe, .int .i64 xn, .int .i64 xsh, .int .i64 xnu, .int .i64 xst, .int .i64 xk, .string s1, .string s2, .string s3, .string s4, .int .i64 xm, .bool (xb == 1), .int .i64 xcd, .slice none 0 0, .bool false]) := (setE I7a.out 14 (.int .i64 xcd) (ys := [.int .i64 xkd, .int .i64 xc, .int .i64 xe, .int .i64 xn, .int .i64 xsh, .int .i64 xnu, .int .i64 xst, .int .i64 xk, .string s1, .string s2, .string s3, .string s4, .int .i64 xm, .bool (xb == 1), .int .i64 xcd, .slice none 0 0, .bool false]) rfl)
  have J7 : Hid (Bk (w7.setCell ⟨w.heap.size + 1, 14, none⟩ (.int .i64 xcd)) w.heap.size 31 [.int .i64 0, .int .i64 0, .int .i64 0, .int .i64 0, .int .i64 0, .int .i64 0, .int .i64 0, .int .i64 0, .string ⟨#[]⟩, .string ⟨#[]⟩, .string ⟨#[]⟩, .string ⟨#[]⟩, .int .i64 0, .bool false, .int .i64 0, .slice none 0 0, .bool false]) := (J7a.out.setOther (by omega) _ _)
  have B7 : Hid (Only (fun y => y = R ∨ w.heap.size ≤ y) w (w7.setCell ⟨w.heap.size + 1, 14, none⟩ (.int .i64 xcd))) := (only_step B7a.out (.inr (by omega)) 14 _)
  have RM7 : Hid (Rm (w7.setCell ⟨w.heap.size + 1, 14, none⟩ (.int .i64 xcd)) R a n c zs Q7) := (RM7a.out.to (only_set (R := fun y => y = w.heap.size + 1) (p := ⟨w.heap.size + 1, 14, none⟩) rfl _) (fun y hy => by omega))
  have y14 := I7a.out.cell (j := 14) rfl
  have f14 := I7a.out.free 14
  clear hr ho hv J6 I6 B6 RM6
  go_upto_region 9 with (fail)
  generalize (w7.setCell ⟨w.heap.size + 1, 14, none⟩ (.int .i64 xcd)) = V7 at *
  clear y14 f14
  clear J7a I7a B7a RM7a
  go_wp2_with fail
  refine (mpairs_any R a n c zs Q7 _ RM7.out).mono ?_
  rintro r w8 ⟨va, vn, vc, ps, t, qp, Q8, rfl, hp1, hp2, hp3, hW, hr, ho⟩
  have hv := I7.out.lt
  have J8a := hid (J7.out.to ho (fun e => by omega))
  have I8a := hid (I7.out.to ho (fun e => by omega))
  have B8a : Hid (Only (fun y => y = R ∨ w.heap.size ≤ y) w w8) := B7.out.trans (ho.mono (fun y _ hy => by rcases hy with h | h; exact .inl h; exact .inr (by omega)))
  have RM8a := hid hr
  have OW8a := hid (hW.base (show w.heap.size + 1 + 1 ≤ _ by omega))
  have I8 : Hid (Bk (w8.setCell ⟨w.heap.size + 1, 15, none⟩ (.slice va vn vc)) (w.heap.size + 1) 31 [.int .i64 xkd, .int .i64 xc, .int .i64 xe, .int .i64 xn, .int .i64 xsh, .int .i64 xnu, .int .i64 xst, .int .i64 xk, .string s1, .string s2, .string s3, .string s4, .int .i64 xm, .bool (xb == 1), .int .i64 xcd, .slice va vn vc, .bool false]) := (setE I8a.out 15 (.slice va vn vc) (ys := [.int .i64 xkd, .int .i64 xc, .int .i64 xe, .int .i64 xn, .int .i64 xsh, .int .i64 xnu, .int .i64 xst, .int .i64 xk, .string s1, .string s2, .string s3, .string s4, .int .i64 xm, .bool (xb == 1), .int .i64 xcd, .slice va vn vc, .bool false]) rfl)
  have J8 : Hid (Bk (w8.setCell ⟨w.heap.size + 1, 15, none⟩ (.slice va vn vc)) w.heap.size 31 [.int .i64 0, .int .i64 0, .int .i64 0, .int .i64 0, .int .i64 0, .int .i64 0, .int .i64 0, .int .i64 0, .string ⟨#[]⟩, .string ⟨#[]⟩, .string ⟨#[]⟩, .string ⟨#[]⟩, .int .i64 0, .bool false, .int .i64 0, .slice none 0 0, .bool false]) := (J8a.out.setOther (by omega) _ _)
  have B8 : Hid (Only (fun y => y = R ∨ w.heap.size ≤ y) w (w8.setCell ⟨w.heap.size + 1, 15, none⟩ (.slice va vn vc))) := (only_step B8a.out (.inr (by omega)) 15 _)
  have RM8 : Hid (Rm (w8.setCell ⟨w.heap.size + 1, 15, none⟩ (.slice va vn vc)) R a n c zs Q8) := (RM8a.out.to (only_set (R := fun y => y = w.heap.size + 1) (p := ⟨w.heap.size + 1, 15, none⟩) rfl _) (fun y hy => by omega))
  have OW8 : Hid (oqW (w8.setCell ⟨w.heap.size + 1, 15, none⟩ (.slice va vn vc)) (w.heap.size + 1 + 1) (.slice va vn vc) ps) := (OW8a.out.to (only_set (R := fun y => y = w.heap.size + 1) (p := ⟨w.heap.size + 1, 15, none⟩) rfl _) (fun y hy e => by have := OW8a.out.lt hy; omega))
  have y15 := I8a.out.cell (j := 15) rfl
  have f15 := I8a.out.free 15
  clear hr ho hv J7 I7 B7 RM7
  go_upto_region 10 with (fail)
  generalize (w8.setCell ⟨w.heap.size + 1, 15, none⟩ (.slice va vn vc)) = V8 at *
  clear y15 f15
  clear J8a I8a B8a RM8a OW8a
  have HP1 := hid hp1
  have HP2 := hid hp2
  have HP3 := hid hp3
  clear hp1 hp2 hp3 hW
  obtain ⟨xy, Q9, hxy⟩ : ∃ x y, gv zs Q8 = (x, y) := ⟨_, _, rfl⟩
  go_wp2_with fail
  refine (mnum_any R a n c zs Q8 xy Q9 hxy _ RM8.out).mono ?_
  rintro r w9 ⟨rfl, hr, ho, hz⟩
  have hv := I8.out.lt
  have J9a := hid (J8.out.to ho (fun e => by omega))
  have I9a := hid (I8.out.to ho (fun e => by omega))
  have B9a : Hid (Only (fun y => y = R ∨ w.heap.size ≤ y) w w9) := B8.out.trans (ho.mono (fun y _ hy => .inl hy))
  have RM9a := hid hr
  have OW9a := hid (OW8.out.to ho (fun y hy e => by have := OW8.out.lt hy; omega))
  have I9 : Hid (Bk (w9.setCell ⟨w.heap.size + 1, 16, none⟩ (.bool (xy == 1))) (w.heap.size + 1) 31 [.int .i64 xkd, .int .i64 xc, .int .i64 xe, .int .i64 xn, .int .i64 xsh, .int .i64 xnu, .int .i64 xst, .int .i64 xk, .string s1, .string s2, .string s3, .string s4, .int .i64 xm, .bool (xb == 1), .int .i64 xcd, .slice va vn vc, .bool (xy == 1)]) := (setE I9a.out 16 (.bool (xy == 1)) (ys := [.int .i64 xkd, .int .i64 xc, .int .i64 xe, .int .i64 xn, .int .i64 xsh, .int .i64 xnu, .int .i64 xst, .int .i64 xk, .string s1, .string s2, .string s3, .string s4, .int .i64 xm, .bool (xb == 1), .int .i64 xcd, .slice va vn vc, .bool (xy == 1)]) rfl)
  have J9 : Hid (Bk (w9.setCell ⟨w.heap.size + 1, 16, none⟩ (.bool (xy == 1))) w.heap.size 31 [.int .i64 0, .int .i64 0, .int .i64 0, .int .i64 0, .int .i64 0, .int .i64 0, .int .i64 0, .int .i64 0, .string ⟨#[]⟩, .string ⟨#[]⟩, .string ⟨#[]⟩, .string ⟨#[]⟩, .int .i64 0, .bool false, .int .i64 0, .slice none 0 0, .bool false]) := (J9a.out.setOther (by omega) _ _)
  have B9 : Hid (Only (fun y => y = R ∨ w.heap.size ≤ y) w (w9.setCell ⟨w.heap.size + 1, 16, none⟩ (.bool (xy == 1)))) := (only_step B9a.out (.inr (by omega)) 16 _)
  have RM9 : Hid (Rm (w9.setCell ⟨w.heap.size + 1, 16, none⟩ (.bool (xy == 1))) R a n c zs Q9) := (RM9a.out.to (only_set (R := fun y => y = w.heap.size + 1) (p := ⟨w.heap.size + 1, 16, none⟩) rfl _) (fun y hy => by omega))
  have OW9 : Hid (oqW (w9.setCell ⟨w.heap.size + 1, 16, none⟩ (.bool (xy == 1))) (w.heap.size + 1 + 1) (.slice va vn vc) ps) := (OW9a.out.to (only_set (R := fun y => y = w.heap.size + 1) (p := ⟨w.heap.size + 1, 16, none⟩) rfl _) (fun y hy e => by have := OW9a.out.lt hy; omega))
  have y16 := I9a.out.cell (j := 16) rfl
  have f16 := I9a.out.free 16
  clear hr ho hv J8 I8 B8 RM8
  go_upto_region 11 with (fail)
  generalize (w9.setCell ⟨w.heap.size + 1, 16, none⟩ (.bool (xy == 1))) = V9 at *
  clear y16 f16
  clear J9a I9a B9a RM9a OW9a
  have HTR : Hid (Trc 8 zs ⟨xkd, xc, xe, xn, xsh, xnu, xst, xk, s1, s2, s3, s4, xm, xb == 1, xcd, ps, xy == 1⟩) := by
    have e1 : NRd zs 0 [xkd] Q1 := by rw [← HQ0.out]; exact ⟨Q1, hxkd, rfl⟩
    have e2 : NRd zs Q2 [xsh, xnu, xst] Q5 := ⟨Q3, hxsh, Q4, hxnu, Q5, hxst, rfl⟩
    have e3 : NRd zs Q6 [xcd] Q7 := ⟨Q7, hxcd, rfl⟩
    exact ⟨qa, qb, qp, Q8, Q9, xb, t, xy, (e1.cat HT2.out).cat (e2.cat HA1.out), HA2.out, (HA3.out.cat e3).cat HP1.out, HP2.out, HP3.out, ⟨Q9, hxy, rfl⟩, (by show (xb == 1) = decide (xb = 1); by_cases e : xb = 1 <;> simp [e]), (by show (xy == 1) = decide (xy = 1); by_cases e : xy = 1 <;> simp [e])⟩
  have JE := hid (J9.out.setRow [.int .i64 xkd, .int .i64 xc, .int .i64 xe, .int .i64 xn, .int .i64 xsh, .int .i64 xnu, .int .i64 xst, .int .i64 xk, .string s1, .string s2, .string s3, .string s4, .int .i64 xm, .bool (xb == 1), .int .i64 xcd, .slice va vn vc, .bool (xy == 1)])
  have BE : Hid (Only (fun y => y = R ∨ w.heap.size ≤ y) w (V9.setRow w.heap.size #[.int .i64 xkd, .int .i64 xc, .int .i64 xe, .int .i64 xn, .int .i64 xsh, .int .i64 xnu, .int .i64 xst, .int .i64 xk, .string s1, .string s2, .string s3, .string s4, .int .i64 xm, .bool (xb == 1), .int .i64 xcd, .slice va vn vc, .bool (xy == 1)])) := B9.out.trans (only_setRow (R := fun y => y = R ∨ w.heap.size ≤ y) (.inr (Nat.le_refl _)) _)
  have RE : Hid (Rm (V9.setRow w.heap.size #[.int .i64 xkd, .int .i64 xc, .int .i64 xe, .int .i64 xn, .int .i64 xsh, .int .i64 xnu, .int .i64 xst, .int .i64 xk, .string s1, .string s2, .string s3, .string s4, .int .i64 xm, .bool (xb == 1), .int .i64 xcd, .slice va vn vc, .bool (xy == 1)]) R a n c zs Q9) := RM9.out.to (only_setRow (R := fun y => y = w.heap.size) rfl _) (fun y hy => by omega)
  have OE : Hid (oqW (V9.setRow w.heap.size #[.int .i64 xkd, .int .i64 xc, .int .i64 xe, .int .i64 xn, .int .i64 xsh, .int .i64 xnu, .int .i64 xst, .int .i64 xk, .string s1, .string s2, .string s3, .string s4, .int .i64 xm, .bool (xb == 1), .int .i64 xcd, .slice va vn vc, .bool (xy == 1)]) (w.heap.size + 1 + 1) (.slice va vn vc) ps) := OW9.out.to (only_setRow (R := fun y => y = w.heap.size) rfl _) (fun y hy e => by have := OW9.out.lt hy; omega)
  go_wp2_with (first
    | (refine wpList_load_row rfl 31 _ rfl (w.heap.size + 1) rfl 31 _ (0, 0) _ I9.out Tryd.underlying31 rfl (by kernel_rfl) ?_; go_frame)
    | (refine wpList_store_row rfl 31 _ _ rfl w.heap.size #[.int .i64 xkd, .int .i64 xc, .int .i64 xe, .int .i64 xn, .int .i64 xsh, .int .i64 xnu, .int .i64 xst, .int .i64 xk, .string s1, .string s2, .string s3, .string s4, .int .i64 xm, .bool (xb == 1), .int .i64 xcd, .slice va vn vc, .bool (xy == 1)] rfl rfl 31 _ J9.out (by kernel_rfl) rfl (by kernel_rfl) ?_))
  generalize V9.setRow w.heap.size #[.int .i64 xkd, .int .i64 xc, .int .i64 xe, .int .i64 xn, .int .i64 xsh, .int .i64 xnu, .int .i64 xst, .int .i64 xk, .string s1, .string s2, .string s3, .string s4, .int .i64 xm, .bool (xb == 1), .int .i64 xcd, .slice va vn vc, .bool (xy == 1)] = VE at *
  try simp only [Exit.inBlock, Exit.then]
  refine bodyPost_ret (v := .agg #[.int .i64 xkd, .int .i64 xc, .int .i64 xe, .int .i64 xn, .int .i64 xsh, .int .i64 xnu, .int .i64 xst, .int .i64 xk, .string s1, .string s2, .string s3, .string s4, .int .i64 xm, .bool (xb == 1), .int .i64 xcd, .slice va vn vc, .bool (xy == 1)]) ?_ rfl ?_
  · exact results_cell_row rfl _ _ w.heap.size 31 _ (0, 0) _ rfl JE.out Tryd.underlying31 rfl (by kernel_rfl)
  · exact ⟨⟨xkd, xc, xe, xn, xsh, xnu, xst, xk, s1, s2, s3, s4, xm, xb == 1, xcd, ps, xy == 1⟩, va, vn, vc, rfl, HTR.out, OE.out.base (by omega), BE.out⟩
end Go.Proofs.YtbonkheoeohaiaaDoor
/-
  MsgRead of the program.
-/
namespace Go.Proofs.YtbonkheoeohaiaaDoor
open Go.RowKit
set_option linter.unusedVariables false
/-- What reading the bytes zs as a message comes to: the message that they are written as, or nothing. -/
def RdP (zs : List Int) (w : World) (r : Ending) (w' : World) : Prop := Below w.heap.size w w' ∧ ((∃ (m : MS) (pa : Option Addr) (pn pc : Nat), m.bytes = some zs ∧ r = .returned (.tuple #[.agg #[.int .i64 m.kd, .int .i64 m.c, .int .i64 m.e, .int .i64 m.n, .int .i64 m.sh, .int .i64 m.nu, .int .i64 m.st, .int .i64 m.k, .string m.ky, .string m.vl, .string m.lo, .string m.hi, .int .i64 m.mo, .bool m.bk, .int .i64 m.cd, .slice pa pn pc, .bool m.ys], .bool true]) ∧ oqW w' w.heap.size (.slice pa pn pc) m.ps) ∨ ((∀ m : MS, m.bytes ≠ some zs) ∧ r = .returned (.tuple #[.agg #[.int .i64 0, .int .i64 0, .int .i64 0, .int .i64 0, .int .i64 0, .int .i64 0, .int .i64 0, .int .i64 0, .string ⟨#[]⟩, .string ⟨#[]⟩, .string ⟨#[]⟩, .string ⟨#[]⟩, .int .i64 0, .bool false, .int .i64 0, .slice none 0 0, .bool false], .bool false])))
set_option maxHeartbeats 16000000 in
set_option maxRecDepth 20000 in
theorem implMsgRead_any (a : Option Addr) (n c : Nat) (zs : List Int) (w : World) (h : Rd w a n c zs) :
    Calls Tryd.prog 9 #[.slice a n c] w fun r w' => RdP zs w r w' := by
  have hbN : Below w.heap.size w ((w.alloc (.cells #[.int .i64 0, .int .i64 0, .int .i64 0, .int .i64 0, .int .i64 0, .int .i64 0, .int .i64 0, .int .i64 0, .string ⟨#[]⟩, .string ⟨#[]⟩, .string ⟨#[]⟩, .string ⟨#[]⟩, .int .i64 0, .bool false, .int .i64 0, .slice none 0 0, .bool false] 31)).alloc (.cells #[.slice a n c, .int .i64 0] 73)) := below_new (below_new (Below.refl _ _))
  have K0 := hid ((Bk.new w 31 [.int .i64 0, .int .i64 0, .int .i64 0, .int .i64 0, .int .i64 0, .int .i64 0, .int .i64 0, .int .i64 0, .string ⟨#[]⟩, .string ⟨#[]⟩, .string ⟨#[]⟩, .string ⟨#[]⟩, .int .i64 0, .bool false, .int .i64 0, .slice none 0 0, .bool false]).alloc (.cells #[.slice a n c, .int .i64 0] 73))
  have I0 := Bk.new (w.alloc (.cells #[.int .i64 0, .int .i64 0, .int .i64 0, .int .i64 0, .int .i64 0, .int .i64 0, .int .i64 0, .int .i64 0, .string ⟨#[]⟩, .string ⟨#[]⟩, .string ⟨#[]⟩, .string ⟨#[]⟩, .int .i64 0, .bool false, .int .i64 0, .slice none 0 0, .bool false] 31)) 73 [.slice a n c, .int .i64 0]
  rw [show (w.alloc (.cells #[.int .i64 0, .int .i64 0, .int .i64 0, .int .i64 0, .int .i64 0, .int .i64 0, .int .i64 0, .int .i64 0, .string ⟨#[]⟩, .string ⟨#[]⟩, .string ⟨#[]⟩, .string ⟨#[]⟩, .int .i64 0, .bool false, .int .i64 0, .slice none 0 0, .bool false] 31)).heap.size = w.heap.size + 1 by simp] at I0
  have RM0 : Hid (Rm ((w.alloc (.cells #[.int .i64 0, .int .i64 0, .int .i64 0, .int .i64 0, .int .i64 0, .int .i64 0, .int .i64 0, .int .i64 0, .string ⟨#[]⟩, .string ⟨#[]⟩, .string ⟨#[]⟩, .string ⟨#[]⟩, .int .i64 0, .bool false, .int .i64 0, .slice none 0 0, .bool false] 31)).alloc (.cells #[.slice a n c, .int .i64 0] 73)) (w.heap.size + 1) a n c zs 0) := ⟨I0, h.kept hbN, fun x hx hp => by have := h.lt x hx hp; omega, by omega⟩
  have B0 := hid hbN
  have H0 := hid h
  clear h hbN I0
  go_enter Tryd.func9, Tryd.ntmps9
  go_wp2_with fail
  refine (mmsg_any (w.heap.size + 1) a n c zs _ RM0.out).mono ?_
  rintro r w1 ⟨m, pa, pn, pc, rfl, htr, hW, ho⟩
  have hv : w.heap.size + 1 < ((w.alloc (.cells #[.int .i64 0, .int .i64 0, .int .i64 0, .int .i64 0, .int .i64 0, .int .i64 0, .int .i64 0, .int .i64 0, .string ⟨#[]⟩, .string ⟨#[]⟩, .string ⟨#[]⟩, .string ⟨#[]⟩, .int .i64 0, .bool false, .int .i64 0, .slice none 0 0, .bool false] 31)).alloc (.cells #[.slice a n c, .int .i64 0] 73)).heap.size := RM0.out.bk.lt
  generalize (w.alloc (.cells #[.int .i64 0, .int .i64 0, .int .i64 0, .int .i64 0, .int .i64 0, .int .i64 0, .int .i64 0, .int .i64 0, .string ⟨#[]⟩, .string ⟨#[]⟩, .string ⟨#[]⟩, .string ⟨#[]⟩, .int .i64 0, .bool false, .int .i64 0, .slice none 0 0, .bool false] 31)).alloc (.cells #[.slice a n c, .int .i64 0] 73) = U at *
  have HTR := hid htr
  have W1 := hid hW
  have K1 := hid (K0.out.to ho (fun e => by omega))
  have B1 : Hid (Below w.heap.size w w1) := B0.out.trans (ho.below B0.out.size (fun b hb e => by omega))
  clear htr hW ho RM0 K0 B0
  have hbM := below_new (o := .cells #[.int .i64 m.kd, .int .i64 m.c, .int .i64 m.e, .int .i64 m.n, .int .i64 m.sh, .int .i64 m.nu, .int .i64 m.st, .int .i64 m.k, .string m.ky, .string m.vl, .string m.lo, .string m.hi, .int .i64 m.mo, .bool m.bk, .int .i64 m.cd, .slice pa pn pc, .bool m.ys] 31) (w := w1) (Below.refl _ _)
  have W2 := hid (W1.out.below hbM)
  have K2 := hid (K1.out.below hbM)
  have B2 := hid (btR B1.out hbM)
  have I2 := hid (Bk.new w1 31 [.int .i64 m.kd, .int .i64 m.c, .int .i64 m.e, .int .i64 m.n, .int .i64 m.sh, .int .i64 m.nu, .int .i64 m.st, .int .i64 m.k, .string m.ky, .string m.vl, .string m.lo, .string m.hi, .int .i64 m.mo, .bool m.bk, .int .i64 m.cd, .slice pa pn pc, .bool m.ys])
  have C2 := hid (implMsgBytes_any (fun _ => True) m.ps m.kd m.c m.e m.n m.sh m.nu m.st m.k m.ky m.vl m.lo m.hi m.mo m.bk m.cd pa pn pc m.ys _ W2.out.r)
  have L2 : Hid (w.heap.size < w1.heap.size) := K1.out.lt
  clear hbM W1 K1 B1
  go_wp2_with (first
    | (refine wpList_store_row rfl 31 _ _ rfl w1.heap.size _ rfl rfl 31 _ (heap_alloc_new w1 _) (by kernel_rfl) rfl (by kernel_rfl) ?_; rw [World.setRow_alloc_new])
    | (refine wpList_load_row rfl 31 _ rfl w1.heap.size rfl 31 _ (0, 0) _ I2.out Tryd.underlying31 rfl (by kernel_rfl) ?_))
  refine C2.out.mono ?_
  clear C2
  generalize w1.alloc (.cells #[.int .i64 m.kd, .int .i64 m.c, .int .i64 m.e, .int .i64 m.n, .int .i64 m.sh, .int .i64 m.nu, .int .i64 m.st, .int .i64 m.k, .string m.ky, .string m.vl, .string m.lo, .string m.hi, .int .i64 m.mo, .bool m.bk, .int .i64 m.cd, .slice pa pn pc, .bool m.ys] 31) = V2 at *
  generalize w1.heap.size = b2 at *
  intro r w3 hp
  obtain ⟨hb3, hp⟩ := hp
  have W3 := hid (W2.out.below hb3)
  have K3 := hid (K2.out.below hb3)
  have I3 := hid (I2.out.below hb3)
  have B3 := hid (btR B2.out hb3)
  clear W2 K2 I2 B2
  have HNO : Hid (m.bytes ≠ some zs → ∀ m' : MS, m'.bytes ≠ some zs) := fun hne m' hm' => hne (by rw [trc_bytes (by omega) HTR.out hm']; exact hm')
  have NE : Hid (Below w.heap.size w (w3.setRow w.heap.size #[.int .i64 0, .int .i64 0, .int .i64 0, .int .i64 0, .int .i64 0, .int .i64 0, .int .i64 0, .int .i64 0, .string ⟨#[]⟩, .string ⟨#[]⟩, .string ⟨#[]⟩, .string ⟨#[]⟩, .int .i64 0, .bool false, .int .i64 0, .slice none 0 0, .bool false]) ∧ Bk (w3.setRow w.heap.size #[.int .i64 0, .int .i64 0, .int .i64 0, .int .i64 0, .int .i64 0, .int .i64 0, .int .i64 0, .int .i64 0, .string ⟨#[]⟩, .string ⟨#[]⟩, .string ⟨#[]⟩, .string ⟨#[]⟩, .int .i64 0, .bool false, .int .i64 0, .slice none 0 0, .bool false]) w.heap.size 31 [.int .i64 0, .int .i64 0, .int .i64 0, .int .i64 0, .int .i64 0, .int .i64 0, .int .i64 0, .int .i64 0, .string ⟨#[]⟩, .string ⟨#[]⟩, .string ⟨#[]⟩, .string ⟨#[]⟩, .int .i64 0, .bool false, .int .i64 0, .slice none 0 0, .bool false]) := ⟨B3.out.trans ((only_setRow (R := fun y => y = w.heap.size) rfl _).below B3.out.size (fun b hb e => by omega)), K3.out.setRow [.int .i64 0, .int .i64 0, .int .i64 0, .int .i64 0, .int .i64 0, .int .i64 0, .int .i64 0, .int .i64 0, .string ⟨#[]⟩, .string ⟨#[]⟩, .string ⟨#[]⟩, .string ⟨#[]⟩, .int .i64 0, .bool false, .int .i64 0, .slice none 0 0, .bool false]⟩
  rcases hp with ⟨hn, rfl⟩ | ⟨v, zs', hn, rfl, hob⟩
  · have HN : Hid (m.bytes ≠ some zs) := by
      intro e
      have e2 : m.bytes = none := hn
      rw [e2] at e
      cases e
    clear hn
    go_wp2_with (refine wpList_store_row rfl 31 _ _ rfl w.heap.size #[.int .i64 0, .int .i64 0, .int .i64 0, .int .i64 0, .int .i64 0, .int .i64 0, .int .i64 0, .int .i64 0, .string ⟨#[]⟩, .string ⟨#[]⟩, .string ⟨#[]⟩, .string ⟨#[]⟩, .int .i64 0, .bool false, .int .i64 0, .slice none 0 0, .bool false] rfl rfl 31 _ K3.out (by kernel_rfl) rfl (by kernel_rfl) ?_)
    try simp only [Exit.inBlock, Exit.then]
    refine bodyPost_ret (v := .tuple #[.agg #[.int .i64 0, .int .i64 0, .int .i64 0, .int .i64 0, .int .i64 0, .int .i64 0, .int .i64 0, .int .i64 0, .string ⟨#[]⟩, .string ⟨#[]⟩, .string ⟨#[]⟩, .string ⟨#[]⟩, .int .i64 0, .bool false, .int .i64 0, .slice none 0 0, .bool false], .bool false]) ?_ rfl ?_
    · exact results_msg_bool rfl _ _ w.heap.size rfl rfl (NE.out.2.cell (j := 0) rfl) (NE.out.2.cell (j := 1) rfl) (NE.out.2.cell (j := 2) rfl) (NE.out.2.cell (j := 3) rfl) (NE.out.2.cell (j := 4) rfl) (NE.out.2.cell (j := 5) rfl) (NE.out.2.cell (j := 6) rfl) (NE.out.2.cell (j := 7) rfl) (NE.out.2.cell (j := 8) rfl) (NE.out.2.cell (j := 9) rfl) (NE.out.2.cell (j := 10) rfl) (NE.out.2.cell (j := 11) rfl) (NE.out.2.cell (j := 12) rfl) (NE.out.2.cell (j := 13) rfl) (NE.out.2.cell (j := 14) rfl) (NE.out.2.cell (j := 15) rfl) (NE.out.2.cell (j := 16) rfl)
    · exact ⟨NE.out.1, .inr ⟨HNO.out HN.out, rfl⟩⟩
  · have e2 : m.bytes = some zs' := hn
    have HF : Hid (∀ z ∈ zs', 0 ≤ z ∧ z ≤ 255) := by
      have := hn
      unfold mgBytes at this
      split at this
      · rename_i hok
        rw [← Option.some.inj this]
        exact (mgOk_facts hok).byte _ _
      · cases this
    have HFL : Hid (zs'.length ≤ 4096) := by
      have := hn
      unfold mgBytes at this
      split at this
      · rename_i hok
        rw [← Option.some.inj this]
        have := (mgOk_facts hok).len m.bk m.ys
        show _ ≤ _
        omega
      · cases this
    obtain ⟨xa, xc, rfl, hrx⟩ := hob.rd' HF.out HFL.out
    have RX := hid hrx
    have R0 := hid (H0.out.kept B3.out)
    clear hrx hob hn
    have E2 := hid e2
    clear e2
    have CE := hid (bytesEqual_any xa a zs'.length n xc c zs' zs w3 RX.out R0.out)
    by_cases heq : zs' = zs
    · have HEQ : Hid (m.bytes = some zs) := by show _ = _; rw [← heq]; exact E2.out
      have CE2 := hid CE.out
      rw [decide_eq_true heq] at CE2
      have NT : Hid (Below w.heap.size w (w3.setRow w.heap.size #[.int .i64 m.kd, .int .i64 m.c, .int .i64 m.e, .int .i64 m.n, .int .i64 m.sh, .int .i64 m.nu, .int .i64 m.st, .int .i64 m.k, .string m.ky, .string m.vl, .string m.lo, .string m.hi, .int .i64 m.mo, .bool m.bk, .int .i64 m.cd, .slice pa pn pc, .bool m.ys]) ∧ Bk (w3.setRow w.heap.size #[.int .i64 m.kd, .int .i64 m.c, .int .i64 m.e, .int .i64 m.n, .int .i64 m.sh, .int .i64 m.nu, .int .i64 m.st, .int .i64 m.k, .string m.ky, .string m.vl, .string m.lo, .string m.hi, .int .i64 m.mo, .bool m.bk, .int .i64 m.cd, .slice pa pn pc, .bool m.ys]) w.heap.size 31 [.int .i64 m.kd, .int .i64 m.c, .int .i64 m.e, .int .i64 m.n, .int .i64 m.sh, .int .i64 m.nu, .int .i64 m.st, .int .i64 m.k, .string m.ky, .string m.vl, .string m.lo, .string m.hi, .int .i64 m.mo, .bool m.bk, .int .i64 m.cd, .slice pa pn pc, .bool m.ys] ∧ oqW (w3.setRow w.heap.size #[.int .i64 m.kd, .int .i64 m.c, .int .i64 m.e, .int .i64 m.n, .int .i64 m.sh, .int .i64 m.nu, .int .i64 m.st, .int .i64 m.k, .string m.ky, .string m.vl, .string m.lo, .string m.hi, .int .i64 m.mo, .bool m.bk, .int .i64 m.cd, .slice pa pn pc, .bool m.ys]) w.heap.size (.slice pa pn pc) m.ps) := ⟨B3.out.trans ((only_setRow (R := fun y => y = w.heap.size) rfl _).below B3.out.size (fun b hb e => by omega)), K3.out.setRow [.int .i64 m.kd, .int .i64 m.c, .int .i64 m.e, .int .i64 m.n, .int .i64 m.sh, .int .i64 m.nu, .int .i64 m.st, .int .i64 m.k, .string m.ky, .string m.vl, .string m.lo, .string m.hi, .int .i64 m.mo, .bool m.bk, .int .i64 m.cd, .slice pa pn pc, .bool m.ys], (W3.out.to (only_setRow (R := fun y => y = w.heap.size) rfl _) (fun y hy e => by have := W3.out.lt hy; omega)).base (by omega)⟩
      clear CE heq
      go_wp2_with fail
      refine CE2.out.mono ?_
      rintro r w4 ⟨rfl, rfl⟩
      go_wp2_with (first
        | (refine wpList_load_row rfl 31 _ rfl b2 rfl 31 _ (0, 0) _ I3.out Tryd.underlying31 rfl (by kernel_rfl) ?_; go_frame)
        | (refine wpList_store_row rfl 31 _ _ rfl w.heap.size #[.int .i64 m.kd, .int .i64 m.c, .int .i64 m.e, .int .i64 m.n, .int .i64 m.sh, .int .i64 m.nu, .int .i64 m.st, .int .i64 m.k, .string m.ky, .string m.vl, .string m.lo, .string m.hi, .int .i64 m.mo, .bool m.bk, .int .i64 m.cd, .slice pa pn pc, .bool m.ys] rfl rfl 31 _ K3.out (by kernel_rfl) rfl (by kernel_rfl) ?_))
      try simp only [Exit.inBlock, Exit.then]
      refine bodyPost_ret (v := .tuple #[.agg #[.int .i64 m.kd, .int .i64 m.c, .int .i64 m.e, .int .i64 m.n, .int .i64 m.sh, .int .i64 m.nu, .int .i64 m.st, .int .i64 m.k, .string m.ky, .string m.vl, .string m.lo, .string m.hi, .int .i64 m.mo, .bool m.bk, .int .i64 m.cd, .slice pa pn pc, .bool m.ys], .bool true]) ?_ rfl ?_
      · exact results_msg_bool rfl _ _ w.heap.size rfl rfl (NT.out.2.1.cell (j := 0) rfl) (NT.out.2.1.cell (j := 1) rfl) (NT.out.2.1.cell (j := 2) rfl) (NT.out.2.1.cell (j := 3) rfl) (NT.out.2.1.cell (j := 4) rfl) (NT.out.2.1.cell (j := 5) rfl) (NT.out.2.1.cell (j := 6) rfl) (NT.out.2.1.cell (j := 7) rfl) (NT.out.2.1.cell (j := 8) rfl) (NT.out.2.1.cell (j := 9) rfl) (NT.out.2.1.cell (j := 10) rfl) (NT.out.2.1.cell (j := 11) rfl) (NT.out.2.1.cell (j := 12) rfl) (NT.out.2.1.cell (j := 13) rfl) (NT.out.2.1.cell (j := 14) rfl) (NT.out.2.1.cell (j := 15) rfl) (NT.out.2.1.cell (j := 16) rfl)
      · exact ⟨NT.out.1, .inl ⟨m, pa, pn, pc, HEQ.out, rfl, NT.out.2.2⟩⟩
    · have HN : Hid (m.bytes ≠ some zs) := by
        intro e
        rw [E2.out] at e
        exact heq (Option.some.inj e)
      have CE2 := hid CE.out
      rw [decide_eq_false heq] at CE2
      clear CE heq
      go_wp2_with fail
      refine CE2.out.mono ?_
      rintro r w4 ⟨rfl, rfl⟩
      go_wp2_with (refine wpList_store_row rfl 31 _ _ rfl w.heap.size #[.int .i64 0, .int .i64 0, .int .i64 0, .int .i64 0, .int .i64 0, .int .i64 0, .int .i64 0, .int .i64 0, .string ⟨#[]⟩, .string ⟨#[]⟩, .string ⟨#[]⟩, .string ⟨#[]⟩, .int .i64 0, .bool false, .int .i64 0, .slice none 0 0, .bool false] rfl rfl 31 _ K3.out (by kernel_rfl) rfl (by kernel_rfl) ?_)
      try simp only [Exit.inBlock, Exit.then]
      refine bodyPost_ret (v := .tuple #[.agg #[.int .i64 0, .int .i64 0, .int .i64 0, .int .i64 0, .int .i64 0, .int .i64 0, .int .i64 0, .int .i64 0, .string ⟨#[]⟩, .string ⟨#[]⟩, .string ⟨#[]⟩, .string ⟨#[]⟩, .int .i64 0, .bool false, .int .i64 0, .slice none 0 0, .bool false], .bool false]) ?_ rfl ?_
      · exact results_msg_bool rfl _ _ w.heap.size rfl rfl (NE.out.2.cell (j := 0) rfl) (NE.out.2.cell (j := 1) rfl) (NE.out.2.cell (j := 2) rfl) (NE.out.2.cell (j := 3) rfl) (NE.out.2.cell (j := 4) rfl) (NE.out.2.cell (j := 5) rfl) (NE.out.2.cell (j := 6) rfl) (NE.out.2.cell (j := 7) rfl) (NE.out.2.cell (j := 8) rfl) (NE.out.2.cell (j := 9) rfl) (NE.out.2.cell (j := 10) rfl) (NE.out.2.cell (j := 11) rfl) (NE.out.2.cell (j := 12) rfl) (NE.out.2.cell (j := 13) rfl) (NE.out.2.cell (j := 14) rfl) (NE.out.2.cell (j := 15) rfl) (NE.out.2.cell (j := 16) rfl)
      · exact ⟨NE.out.1, .inr ⟨HNO.out HN.out, rfl⟩⟩
end Go.Proofs.YtbonkheoeohaiaaDoor
/-
  What the specification's MsgRead keeps while it reads: rows of numbers and texts as far as read.
-/
namespace Go.Proofs.YtbonkheoeohaiaaDoor
open Go.RowKit
set_option linter.unusedVariables false
def vrow (l : List Int) (N : Nat) : List Value := l.map (Value.int .i64) ++ List.replicate (N - l.length) (.int .i64 0)
def trow (l : List ByteArray) (N : Nat) : List Value := l.map Value.string ++ List.replicate (N - l.length) (.string ⟨#[]⟩)
theorem vrow_at {l : List Int} {N : Nat} (h : l.length < N) : (vrow l N)[l.length]? = some (.int .i64 0) := by
  unfold vrow
  rw [List.getElem?_append_right (by simp), List.length_map, Nat.sub_self, List.getElem?_replicate, if_pos (by omega)]
theorem trow_at {l : List ByteArray} {N : Nat} (h : l.length < N) : (trow l N)[l.length]? = some (.string ⟨#[]⟩) := by
  unfold trow
  rw [List.getElem?_append_right (by simp), List.length_map, Nat.sub_self, List.getElem?_replicate, if_pos (by omega)]
theorem vrow_set {l : List Int} {N : Nat} (h : l.length < N) (x : Int) : (vrow l N).set l.length (.int .i64 x) = vrow (l ++ [x]) N := by
  unfold vrow
  rw [List.set_append_right _ _ (by simp), List.length_map, Nat.sub_self, List.length_append, show N - l.length = (N - (l.length + 1)) + 1 by omega, List.replicate_succ, List.set_cons_zero, List.map_append, List.append_assoc]
  rfl
theorem trow_set {l : List ByteArray} {N : Nat} (h : l.length < N) (x : ByteArray) : (trow l N).set l.length (.string x) = trow (l ++ [x]) N := by
  unfold trow
  rw [List.set_append_right _ _ (by simp), List.length_map, Nat.sub_self, List.length_append, show N - l.length = (N - (l.length + 1)) + 1 by omega, List.replicate_succ, List.set_cons_zero, List.map_append, List.append_assoc]
  rfl
theorem made_rep (v : Value) (n : Nat) : madeCells #[v] n = (List.replicate n v).toArray := by
  apply Array.ext
  · simp [madeCells]
  · intro i h1 h2
    simp [madeCells, Nat.mod_one]
theorem len4 {α : Type} {l : List α} (h : l.length = 4) : ∃ a b c d, l = [a, b, c, d] := by
  match l, h with
  | [a, b, c, d], _ => exact ⟨a, b, c, d, rfl⟩
theorem len8 {α : Type} {l : List α} (h : l.length = 8) : ∃ a b c d e f g i, l = [a, b, c, d, e, f, g, i] := by
  match l, h with
  | [a, b, c, d, e, f, g, i], _ => exact ⟨a, b, c, d, e, f, g, i, rfl⟩
/-- The boxes: the result, the message, the numbers, the texts. -/
structure MQ (w v : World) (mc vs ts : List Value) : Prop where
  bel : Below w.heap.size w v
  kJ : Bk v w.heap.size 31 [.int .i64 0, .int .i64 0, .int .i64 0, .int .i64 0, .int .i64 0, .int .i64 0, .int .i64 0, .int .i64 0, .string ⟨#[]⟩, .string ⟨#[]⟩, .string ⟨#[]⟩, .string ⟨#[]⟩, .int .i64 0, .bool false, .int .i64 0, .slice none 0 0, .bool false]
  kI : Bk v (w.heap.size + 1) 31 mc
  kV : Bk v (w.heap.size + 1 + 1) 3 vs
  kS : Bk v (w.heap.size + 1 + 1 + 1) 9 ts
theorem MQ.below {w v v' : World} {mc vs ts : List Value} (h : MQ w v mc vs ts) (hb : Below v.heap.size v v') : MQ w v' mc vs ts := ⟨btR h.bel hb, h.kJ.below hb, h.kI.below hb, h.kV.below hb, h.kS.below hb⟩
theorem MQ.to {w v v' : World} {mc vs ts : List Value} {R : Nat → Prop} (h : MQ w v mc vs ts) (ho : Only R v v') (hR : ∀ y, R y → w.heap.size + 1 + 1 + 1 < y) : MQ w v' mc vs ts :=
  ⟨h.bel.trans (ho.below h.bel.size (fun b hb e => by have := hR b e; omega)), h.kJ.to ho (fun e => by have := hR _ e; omega), h.kI.to ho (fun e => by have := hR _ e; omega), h.kV.to ho (fun e => by have := hR _ e; omega), h.kS.to ho (fun e => by have := hR _ e; omega)⟩
theorem MQ.setV {w v : World} {mc vs ts : List Value} (h : MQ w v mc vs ts) (j : Nat) (x : Value) : MQ w (v.setCell ⟨w.heap.size + 1 + 1, j, none⟩ x) mc (vs.set j x) ts :=
  ⟨h.bel.setCell (p := ⟨w.heap.size + 1 + 1, j, none⟩) (by simp; omega) _, h.kJ.setOther (by omega) _ _, h.kI.setOther (by omega) _ _, h.kV.set j x, h.kS.setOther (by omega) _ _⟩
theorem MQ.setS {w v : World} {mc vs ts : List Value} (h : MQ w v mc vs ts) (j : Nat) (x : Value) : MQ w (v.setCell ⟨w.heap.size + 1 + 1 + 1, j, none⟩ x) mc vs (ts.set j x) :=
  ⟨h.bel.setCell (p := ⟨w.heap.size + 1 + 1 + 1, j, none⟩) (by simp; omega) _, h.kJ.setOther (by omega) _ _, h.kI.setOther (by omega) _ _, h.kV.setOther (by omega) _ _, h.kS.set j x⟩
theorem MQ.setI {w v : World} {mc vs ts : List Value} (h : MQ w v mc vs ts) (j : Nat) (x : Value) : MQ w (v.setCell ⟨w.heap.size + 1, j, none⟩ x) (mc.set j x) vs ts :=
  ⟨h.bel.setCell (p := ⟨w.heap.size + 1, j, none⟩) (by simp) _, h.kJ.setOther (by omega) _ _, h.kI.set j x, h.kV.setOther (by omega) _ _, h.kS.setOther (by omega) _ _⟩
theorem MQ.setIE {w v : World} {mc vs ts : List Value} (h : MQ w v mc vs ts) (j : Nat) (x : Value) {ys : List Value} (e : mc.set j x = ys) : MQ w (v.setCell ⟨w.heap.size + 1, j, none⟩ x) ys vs ts := by rw [← e]; exact h.setI j x
theorem MQ.setVE {w v : World} {mc vs ts : List Value} (h : MQ w v mc vs ts) (j : Nat) (x : Value) {ys : List Value} (e : vs.set j x = ys) : MQ w (v.setCell ⟨w.heap.size + 1 + 1, j, none⟩ x) mc ys ts := by rw [← e]; exact h.setV j x
theorem MQ.rowI {w v : World} {mc vs ts : List Value} (h : MQ w v mc vs ts) (ys : List Value) : MQ w (v.setRow (w.heap.size + 1) ys.toArray) ys vs ts := by
  have ho := only_setRow (R := fun y => y = w.heap.size + 1) (w := v) (g := w.heap.size + 1) rfl ys.toArray
  exact ⟨h.bel.trans (ho.below h.bel.size (fun b hb e => by omega)), h.kJ.to ho (fun e => by omega), h.kI.setRow ys, h.kV.to ho (fun e => by omega), h.kS.to ho (fun e => by omega)⟩
end Go.Proofs.YtbonkheoeohaiaaDoor
