/-
  DiskSync of the program.
-/
import Derived.Test.YtcpdedpgjaimkaaDkI
namespace Go.Proofs.Ytcpdedpgjaimkaa
open Go.RowKit
set_option linter.unusedVariables false
/-- The boxes of the program's sync and crash: the disk, the result; the row of sheets at hand, whose lists may lie anywhere but in it. -/
structure VX (w v : World) (sa : Option Addr) (sn sc : Nat) (da : Option Addr) (dn dc : Nat) (g cc : Nat) (V : List Value) (ss : List (List Int)) : Prop where
  bel : Below w.heap.size w v
  k0 : Bk v w.heap.size 46 [.slice sa sn sc, .slice da dn dc]
  k1 : Bk v (w.heap.size + 1) 46 [.slice none 0 0, .slice none 0 0]
  row : v.ownsRow (w.heap.size + 2) 119 1 (.slice (some ⟨g, 0, none⟩) sn cc) sn V
  len : V.length = sn
  ssl : ss.length = sn
  byt' : ∀ i, i < sn → By v (fun y => y ≠ g) (uAt V i) (shAt ss i)
theorem VX.below {w v v' : World} {sa : Option Addr} {sn sc : Nat} {da : Option Addr} {dn dc : Nat} {g cc : Nat} {V : List Value} {ss : List (List Int)} (h : VX w v sa sn sc da dn dc g cc V ss) (hb : Below v.heap.size v v') : VX w v' sa sn sc da dn dc g cc V ss :=
  ⟨bt7 h.bel hb, h.k0.below hb, h.k1.below hb, own_kept h.row (only_of_below hb (fun _ => False)) (fun _ _ h => h), h.len, h.ssl, fun i hi => (h.byt' i hi).below hb⟩
theorem VX.put {w v : World} {sa : Option Addr} {sn sc : Nat} {da : Option Addr} {dn dc : Nat} {g cc : Nat} {V : List Value} {ss : List (List Int)} (h : VX w v sa sn sc da dn dc g cc V ss) {k : Nat} {p : Value} {x : List Int} (hk : k < sn) (hp : By v (fun y => y ≠ g) p x) : VX w (v.setCell ⟨g, k, none⟩ p) sa sn sc da dn dc g cc (V.set k p) (ss.set k x) := by
  have hg := World.ownsRow.lt h.row g rfl
  have o : Only (fun y => y = g) v (v.setCell ⟨g, k, none⟩ p) := only_set (R := fun y => y = g) rfl _
  refine ⟨h.bel.setCell (p := ⟨g, k, none⟩) (by show w.heap.size ≤ g; omega) _, h.k0.setOther (by omega) _ _, h.k1.setOther (by omega) _ _, ownD_set h.row k p, by rw [List.length_set]; exact h.len, by rw [List.length_set]; exact h.ssl, fun i hi => ?_⟩
  by_cases e : i = k
  · subst e
    rw [uAt_set (by rw [h.len]; exact hi), shAt_set (by rw [h.ssl]; exact hi)]
    exact hp.to o (fun b hb _ e => hb e)
  · rw [uAt_other e, shAt_other e]
    exact (h.byt' i hi).to o (fun b hb _ e => hb e)
theorem VX.shr {w v : World} {sa : Option Addr} {sn sc : Nat} {da : Option Addr} {dn dc : Nat} {g cc : Nat} {V : List Value} {ss : List (List Int)} (h : VX w v sa sn sc da dn dc g cc V ss) : Shr v (fun _ => True) (.slice (some ⟨g, 0, none⟩) sn cc) ss := by
  refine ⟨V, by rw [h.len, h.ssl], ?_, fun i hi => (h.byt' i (by rw [← h.ssl]; exact hi)).mono (fun _ _ _ => trivial)⟩
  rw [h.ssl]
  exact rw_own h.row (fun _ _ _ _ => trivial)
theorem syS_facts {d : DK} (hok : dkOk d = true) (hb : (∀ i, byt (shAt d.sh i)) ∧ ∀ i, byt (dwAt d.dw i).2) : ∀ k, k ≤ d.dw.length → ∀ i, byt (shAt (syS d.sh d.dw k) i) ∧ (shAt (syS d.sh d.dw k) i).length ≤ 512 := by
  intro k hk i
  rw [← crS_all hok hb k hk]
  have h := crS_facts hok hb (List.replicate d.dw.length 512) k hk i
  refine ⟨h.1, ?_⟩
  by_cases hi : i < d.sh.length
  · have := (shtOk_iff _).1 (h.2 hi); omega
  · simp [shAt, show (crS d.sh d.dw (List.replicate d.dw.length 512) k).length ≤ i by rw [crS_len]; omega]
theorem wrr_nil (w : World) (S : Nat → Prop) : Wrr w S (.slice none 0 0) [] := ⟨[], rfl, rw_nil _ _, fun i hi => by simp at hi⟩
theorem one_slices {w : World} {S : Nat → Prop} {V : List Value} {ss : List (List Int)} (hl : V.length = ss.length) (h : ∀ i, i < ss.length → By w S (uAt V i) (shAt ss i)) : ∀ u ∈ V, u.oneCell' = true := by
  intro u hu
  obtain ⟨i, hi, rfl⟩ := List.mem_iff_getElem.1 hu
  obtain ⟨a, c, e⟩ := (h i (by omega)).1.sliceOf
  have : V[i] = uAt V i := by simp [uAt, hi]
  rw [this, e]
  rfl
theorem VX.start {w w1 w2 : World} {S : Nat → Prop} {b off sn sc : Nat} {da : Option Addr} {dn dc : Nat} {cc g : Nat} {V : List Value} {ss : List (List Int)} (hbel : Below w.heap.size w w1) (k0 : Bk w1 w.heap.size 46 [.slice (some ⟨b, off, none⟩) sn sc, .slice da dn dc]) (k1 : Bk w1 (w.heap.size + 1) 46 [.slice none 0 0, .slice none 0 0])
    (hl : V.length = ss.length) (hs : ss.length = sn) (hby : ∀ i, i < ss.length → By w1 S (uAt V i) (shAt ss i)) (hrow : w2.ownsRow w1.heap.size 119 1 (.slice (some ⟨g, 0, none⟩) sn cc) sn V) (hb : Below w1.heap.size w1 w2) :
    VX w w2 (some ⟨b, off, none⟩) sn sc da dn dc g cc V ss := by
  have hg := (World.ownsRow.lt hrow g rfl).1
  have h1 := k1.lt
  refine ⟨bt7 hbel hb, k0.below hb, k1.below hb, ownD_base hrow (by omega), by omega, hs, fun i hi => ?_⟩
  exact ((hby i (by omega)).mono (R := fun y => y ≠ g) (fun y _ hy => by omega)).below hb
/-- A row of sheets at hand, whose lists may lie anywhere but in it. -/
structure SH (v : World) (Q : Nat → Prop) (B g cc sn : Nat) (V : List Value) (ss : List (List Int)) : Prop where
  row : v.ownsRow B 119 1 (.slice (some ⟨g, 0, none⟩) sn cc) sn V
  len : V.length = sn
  ssl : ss.length = sn
  byt' : ∀ i, i < sn → By v Q (uAt V i) (shAt ss i)
  off : ¬ Q g
theorem SH.below {v v' : World} {Q : Nat → Prop} {B g cc sn : Nat} {V : List Value} {ss : List (List Int)} (h : SH v Q B g cc sn V ss) (hb : Below v.heap.size v v') : SH v' Q B g cc sn V ss :=
  ⟨own_kept h.row (only_of_below hb (fun _ => False)) (fun _ _ h => h), h.len, h.ssl, fun i hi => (h.byt' i hi).below hb, h.off⟩
theorem SH.put {v : World} {Q : Nat → Prop} {B g cc sn : Nat} {V : List Value} {ss : List (List Int)} (h : SH v Q B g cc sn V ss) {k : Nat} {p : Value} {x : List Int} (hk : k < sn) (hp : By v Q p x) : SH (v.setCell ⟨g, k, none⟩ p) Q B g cc sn (V.set k p) (ss.set k x) := by
  have o : Only (fun y => y = g) v (v.setCell ⟨g, k, none⟩ p) := only_set (R := fun y => y = g) rfl _
  refine ⟨ownD_set h.row k p, by rw [List.length_set]; exact h.len, by rw [List.length_set]; exact h.ssl, fun i hi => ?_, h.off⟩
  by_cases e : i = k
  · subst e
    rw [uAt_set (by rw [h.len]; exact hi), shAt_set (by rw [h.ssl]; exact hi)]
    exact hp.to o (fun b hb _ e => h.off (e ▸ hb))
  · rw [uAt_other e, shAt_other e]
    exact (h.byt' i hi).to o (fun b hb _ e => h.off (e ▸ hb))
theorem SH.shr {v : World} {Q : Nat → Prop} {B g cc sn : Nat} {V : List Value} {ss : List (List Int)} (h : SH v Q B g cc sn V ss) : Shr v (fun _ => True) (.slice (some ⟨g, 0, none⟩) sn cc) ss := by
  refine ⟨V, by rw [h.len, h.ssl], ?_, fun i hi => (h.byt' i (by rw [← h.ssl]; exact hi)).mono (fun _ _ _ => trivial)⟩
  rw [h.ssl]
  exact rw_own h.row (fun _ _ _ _ => trivial)
theorem VX.sh {w v : World} {sa : Option Addr} {sn sc : Nat} {da : Option Addr} {dn dc : Nat} {g cc : Nat} {V : List Value} {ss : List (List Int)} (h : VX w v sa sn sc da dn dc g cc V ss) : SH v (fun y => y ≠ g) (w.heap.size + 2) g cc sn V ss := ⟨h.row, h.len, h.ssl, h.byt', fun h => h rfl⟩
theorem VX.turn {w v v' : World} {sa : Option Addr} {sn sc : Nat} {da : Option Addr} {dn dc : Nat} {g cc : Nat} {V V' : List Value} {ss ss' : List (List Int)} (h : VX w v sa sn sc da dn dc g cc V ss) (h' : SH v' (fun y => y ≠ g) (w.heap.size + 2) g cc sn V' ss') (o : Only (fun y => y = g) v v') : VX w v' sa sn sc da dn dc g cc V' ss' := by
  have hg := World.ownsRow.lt h.row g rfl
  exact ⟨h.bel.trans (o.below h.bel.size (fun y hy e => by omega)), h.k0.to o (by omega), h.k1.to o (by omega), h'.row, h'.len, h'.ssl, h'.byt'⟩
theorem syS_zero (ss : List (List Int)) (ds : List DW) : syS ss ds 0 = ss := rfl
/-- The slice value v leads to the writes ds: where the row lies, where the bytes lie. -/
def Wr2 (w : World) (R Q : Nat → Prop) (v : Value) (ds : List DW) : Prop := ∃ U : List (Int × Value), U.length = ds.length ∧ Rw w R v ds.length (wcs U) ∧ ∀ i, i < ds.length → (xAt U i).1 = (dwAt ds i).1 ∧ By w Q (xAt U i).2 (dwAt ds i).2
theorem Wrr.two {w : World} {S : Nat → Prop} {v : Value} {ds : List DW} (h : Wrr w S v ds) : Wr2 w S S v ds := h
theorem Wr2.to {w w' : World} {R Q P : Nat → Prop} {v : Value} {ds : List DW} (h : Wr2 w R Q v ds) (ho : Only P w w') (hR : ∀ b, R b → b < w.heap.size → ¬ P b) (hQ : ∀ b, Q b → b < w.heap.size → ¬ P b) : Wr2 w' R Q v ds := by
  obtain ⟨V, h1, h2, h3⟩ := h
  exact ⟨V, h1, h2.to ho hR, fun i hi => ⟨(h3 i hi).1, (h3 i hi).2.to ho hQ⟩⟩
theorem Wr2.len {w : World} {R Q : Nat → Prop} {a : Option Addr} {n c : Nat} {ds : List DW} (h : Wr2 w R Q (.slice a n c) ds) : n = ds.length ∧ n ≤ c ∧ c ≤ 9223372036854775807 := by
  obtain ⟨V, h1, h2, h3⟩ := h
  exact Rw.len h2
theorem Wr2.at {w : World} {R Q : Nat → Prop} {a : Option Addr} {n c : Nat} {ds : List DW} (h : Wr2 w R Q (.slice a n c) ds) (hp : 0 < n) : ∃ b off, a = some ⟨b, off, none⟩ ∧ R b ∧ b < w.heap.size ∧ ∀ i, i < n → ∃ ap np cp,
    w.cell? ⟨b, off + i * 2, none⟩ = some (.int .i64 (dwAt ds i).1) ∧ w.cell? ⟨b, off + i * 2 + 1, none⟩ = some (.slice ap np cp) ∧ By w Q (.slice ap np cp) (dwAt ds i).2 := by
  obtain ⟨V, h1, h2, h3⟩ := h
  have hn := (Rw.len h2).1
  obtain ⟨b, off, e1, e2, e3, e4⟩ := h2.at hp
  refine ⟨b, off, e1, e2, e3, fun i hi => ?_⟩
  obtain ⟨k0, k1⟩ := h3 i (by omega)
  obtain ⟨c0, c1⟩ := wcs_at V i (by omega)
  have d0 := e4 _ _ c0
  have d1 := e4 _ _ c1
  obtain ⟨ap, cp, g0⟩ := k1.1.sliceOf
  rw [g0] at d1 k1
  rw [k0] at d0
  exact ⟨ap, _, cp, d0, d1, k1⟩
set_option maxHeartbeats 8000000 in
set_option maxRecDepth 20000 in
theorem writeDown_any (Q : Nat → Prop) (B g cc sn : Nat) (V : List Value) (ss : List (List Int)) (da : Option Addr) (dn dc : Nat) (ds : List DW) (w : World) (h : SH w Q B g cc sn V ss) (hd : Wr2 w (fun y => y ≠ g) Q (.slice da dn dc) ds) (hok : ∀ i, i < ds.length → wrtOk sn (dwAt ds i) = true) (hn : dn ≤ 1048576) (hs : sn ≤ 1048576) :
    Calls Try.prog 122 #[.slice (some ⟨g, 0, none⟩) sn cc, .slice da dn dc] w fun e w' => e = .returned (.tuple #[]) ∧ Only (fun y => y = g) w w' ∧ ∃ V', SH w' Q B g cc sn V' (syS ss ds ds.length) := by
  have HD := hid hd
  have HOK := hid hok
  have H0 := hid h
  have H0f := hid h.off
  have hcc := (own_at h.row).2.1
  have hcc' := (own_at h.row).2.2.1
  have HND := hid hd.len.1
  have hdc := hd.len.2
  clear h hd hok
  go_enter Try.func122, Try.ntmps122
  go_wp2_with fail
  go_loopw [8] (fun i wr => ∃ (k : Nat) (V : List Value), k ≤ dn ∧ i = .int .i64 k ∧ Hid (SH wr Q B g cc sn V (syS ss ds k)) ∧ Hid (Only (fun y => y = g) w wr)) (fun i _ => dn - (intOf i).toNat)
  case atStart => exact ⟨0, V, Nat.zero_le _, rfl, H0.out, Only.refl _ _⟩
  case round =>
    clear H0
    obtain ⟨k, V, hk, rfl, VV, OO⟩ := hrel
    by_cases hlt : k < dn
    · have hlt' : (k : Int) < (dn : Int) := by omega
      obtain ⟨b2, off2, rfl, hb2, hbw, hcell⟩ := (HD.out.to OO.out (fun y hy _ e => hy e) (fun y hy _ e => H0f.out (e ▸ hy))).at (by omega)
      obtain ⟨ap, np, cp, mt, m0, hp⟩ := hcell k hlt
      have hkl : k < ds.length := by rw [← HND.out]; exact hlt
      have hwk := (wrtOk_iff _ _).1 (HOK.out k hkl)
      obtain ⟨u, hu⟩ : ∃ u : Nat, (dwAt ds k).1 = (u : Int) := ⟨(dwAt ds k).1.toNat, by omega⟩
      have hus : u < sn := by omega
      have hus' : (u : Int) < (sn : Int) := by omega
      rw [hu] at mt
      have HSY : Hid (syS ss ds (k + 1) = (syS ss ds k).set u (dwAt ds k).2) := by show _ = _; rw [syS, hu]; rfl
      have hb0 := below_new (o := .cells #[.int .i64 (u : Int), .slice ap np cp] 109) (w := wr) (Below.refl _ _)
      have hgg := World.ownsRow.lt VV.out.row g rfl
      have V2 : Hid (SH ((wr.alloc (.cells #[.int .i64 (u : Int), .slice ap np cp] 109)).setCell ⟨g, u, none⟩ (.slice ap np cp)) Q B g cc sn (V.set u (.slice ap np cp)) (syS ss ds (k + 1))) := by
        rw [HSY.out]
        exact (VV.out.below hb0).put hus (hp.below hb0)
      have O2 : Hid (Only (fun y => y = g) w ((wr.alloc (.cells #[.int .i64 (u : Int), .slice ap np cp] 109)).setCell ⟨g, u, none⟩ (.slice ap np cp))) := (OO.out.trans (only_of_below hb0 _)).trans (only_set (R := fun y => y = g) rfl _)
      have V2' : Hid (SH ((wr.setCell ⟨g, u, none⟩ (.slice ap np cp)).alloc (.cells #[.int .i64 (u : Int), .slice ap np cp] 109)) Q B g cc sn (V.set u (.slice ap np cp)) (syS ss ds (k + 1))) := by
        rw [HSY.out]
        exact (VV.out.put hus hp).below (below_new (Below.refl _ _))
      have O2' : Hid (Only (fun y => y = g) w ((wr.setCell ⟨g, u, none⟩ (.slice ap np cp)).alloc (.cells #[.int .i64 (u : Int), .slice ap np cp] 109))) := (OO.out.trans (only_set (R := fun y => y = g) rfl _)).trans (only_of_below (below_new (Below.refl _ _)) _)
      obtain ⟨-, -, -, hr⟩ := own_at VV.out.row
      obtain ⟨g', e', -, -, hf, hcl⟩ := hr (by omega)
      cases e'
      have n0 := hcl u _ (uAt_some (by rw [VV.out.len]; exact hus))
      have f0 := hf u
      generalize uAt V u = o0 at *
      have sg := hgg.2
      clear hcell hbw hp hwk hu hr hf hcl hb0 VV OO HSY hgg hb2
      go_wp2
      go_roundw
      case rel => exact ⟨k + 1, _, by omega, by go_num, (by first | exact V2.out | exact V2'.out), (by first | exact O2.out | exact O2'.out)⟩
      case measure => simp [intOf]; omega
    · have HKD : Hid (k = ds.length) := by show _ = _; rw [← HND.out]; omega
      go_wp2
      go_end0
      exact ⟨rfl, OO.out, V, by rw [← HKD.out]; exact VV.out⟩
end Go.Proofs.Ytcpdedpgjaimkaa

