/-
  DiskRead of the specification and of the program.
-/
import Derived.Test.YtijinngmfalfcaaDoorDkOk
import Derived.Test.YtijinngmfalfcaaDoorTeI
import Derived.Test.YtijinngmfalfcaaDoorRbI
namespace Go.Proofs.YtijinngmfalfcaaDoor
open Go.RowKit Go.Shelf
set_option linter.unusedVariables false
theorem bt6 {u v w : World} (h : Below u.heap.size u v) (k : Below v.heap.size v w) : Below u.heap.size u w := h.trans (k.mono h.size)
set_option maxHeartbeats 1000000 in
theorem copyBytes_any (a : Option Addr) (n c : Nat) (zs : List Int) (w : World) (h : Rd w a n c zs) (hn : n ≤ 1048576) :
    Calls Tryd.prog 21 #[.slice a n c] w fun e w' => ∃ v, e = .returned v ∧ Ob w' w.heap.size v zs ∧ Below w.heap.size w w' := by
  have HR := hid h
  have hzl : n = zs.length := h.1
  have HO : Hid (Ob w w.heap.size (.slice none 0 0) []) := World.ownsRow_nil _ _ _ _
  have hzb : ([] : List Int).length + zs.length ≤ 70368744177664 := by rw [← hzl]; simp; omega
  clear h hzl
  go_enter Tryd.func21, Tryd.ntmps21
  go_wp2_with (at_builtin; refine wpList_append_rd rfl _ _ rfl w.heap.size _ [] rfl HO.out a n c zs rfl HR.out hzb (Nat.le_refl _) ?_)
  intro v3 w3 hO3 hg3
  have O3 : Hid (Ob w3 w.heap.size v3 zs) := by show Ob _ _ _ _; simpa using hO3
  have B3 : Hid (Below w.heap.size w w3) := (only_of_grown hg3 (R := fun _ => False) (fun k e => by cases e)).below (Nat.le_refl _) (fun _ _ h => h)
  obtain ⟨a3, c3, rfl⟩ := hO3.shape
  clear hO3 hg3 HO HR
  go_wp2
  go_ret
  exact ⟨_, rfl, O3.out, B3.out⟩
/-- The last write to a sheet. -/
def lastW (ds : List DW) (t : Int) : Nat → Option (List Int)
  | 0 => none
  | k + 1 => if (dwAt ds k).1 = t then some (dwAt ds k).2 else lastW ds t k
/-- What is read of a disk. -/
def rdV (d : DK) (t : Int) : Option (List Int) :=
  if dkOk d = true ∧ 0 ≤ t ∧ t < (d.sh.length : Int) then some ((lastW d.dw t d.dw.length).getD (sheet (shAt d.sh t.toNat))) else none
def RdPost (o : Option (List Int)) (w : World) (e : Ending) (w' : World) : Prop := ∃ a n c, e = .returned (.tuple #[.slice a n c, .bool o.isSome]) ∧ Ob w' w.heap.size (.slice a n c) (o.getD []) ∧ Below w.heap.size w w'
theorem shOk_sht (l : List Int) : shOk l = shtOk l := rfl
set_option maxHeartbeats 4000000 in
theorem specDiskRead_any (S : Nat → Prop) (sa : Option Addr) (sn sc : Nat) (da : Option Addr) (dn dc : Nat) (d : DK) (t : Int) (w : World) (h : Dk w S sa sn sc da dn dc d) (hsm : smallD d) :
    Calls Tryd.prog 5 #[.agg #[.slice sa sn sc, .slice da dn dc], .int .i64 t] w fun e w' => RdPost (rdV d t) w e w' := by
  have HS := hid h.hs
  have HD := hid h.hd
  have HSM := hid hsm
  obtain ⟨ns, hsc, hsc'⟩ := h.hs.len
  obtain ⟨nd, hdc, hdc'⟩ := h.hd.len
  have HNS := hid ns
  have HND := hid nd
  have HB0 : Hid (Below w.heap.size w (w.alloc (.cells #[.slice sa sn sc, .slice da dn dc] 33))) := below_new (Below.refl _ _)
  have KP : Hid (Bk (w.alloc (.cells #[.slice sa sn sc, .slice da dn dc] 33)) w.heap.size 33 [.slice sa sn sc, .slice da dn dc]) := Bk.new w 33 [.slice sa sn sc, .slice da dn dc]
  have HK := hid (specDiskOk_any S sa sn sc da dn dc d _ (h.below HB0.out))
  have HV : Hid (rdV d t = if dkOk d = true ∧ 0 ≤ t ∧ t < (d.sh.length : Int) then some ((lastW d.dw t d.dw.length).getD (sheet (shAt d.sh t.toNat))) else none) := rfl
  have HN : Hid (¬ (dkOk d = true ∧ 0 ≤ t ∧ t < (d.sh.length : Int)) → rdV d t = none) := fun hh => by rw [HV.out, if_neg hh]
  clear h ns nd hsm
  go_enter Tryd.func5, Tryd.ntmps5
  go_wp2_with fail
  refine HK.out.mono ?_
  rintro e w1 ⟨rfl, hb⟩
  have K1 := hid (KP.out.below hb)
  have B1 := hid (HB0.out.trans (hb.mono HB0.out.size))
  clear hb HB0 KP HK
  cases hok : dkOk d with
  | false =>
    have HF := hid (HN.out (by rw [hok]; simp))
    go_wp2
    go_ret2
    rw [HF.out]
    exact ⟨_, _, _, rfl, World.ownsRow_nil _ _ _ _, B1.out⟩
  | true =>
    have HOK := hid hok
    clear hok
    by_cases t0 : t < 0
    · have HF := hid (HN.out (by omega))
      go_wp2
      go_ret2
      rw [HF.out]
      exact ⟨_, _, _, rfl, World.ownsRow_nil _ _ _ _, B1.out⟩
    · have c0 := K1.out.cell (j := 0) rfl
      have c1 := K1.out.cell (j := 1) rfl
      by_cases t1 : (sn : Int) ≤ t
      · have HF := hid (HN.out (by rw [← HNS.out]; omega))
        go_wp2
        go_ret2
        rw [HF.out]
        exact ⟨_, _, _, rfl, World.ownsRow_nil _ _ _ _, B1.out⟩
      · have HV2 : Hid (rdV d t = some ((lastW d.dw t d.dw.length).getD (sheet (shAt d.sh t.toNat)))) := by
          show _ = _
          rw [HV.out, if_pos ⟨HOK.out, by omega, by rw [← HNS.out]; omega⟩]
        clear HV HN
        go_wp2_with fail
        clear c0 c1
        go_loop [6] (fun i => ∃ k : Nat, k ≤ dn ∧ i = .int .i64 ((k : Int) - 1) ∧ Hid (lastW d.dw t k = lastW d.dw t d.dw.length)) (fun i => (intOf i + 1).toNat)
        case atStart => exact ⟨dn, Nat.le_refl _, by go_num, by rw [HND.out]; rfl⟩
        case round =>
          obtain ⟨k, hk, rfl, HL⟩ := hrel
          cases k with
          | zero =>
            have hneg : ¬ (0 : Int) ≤ ((0 : Nat) : Int) - 1 := by omega
            have c0 := K1.out.cell (j := 0) rfl
            obtain ⟨b, off, rfl, _, hbw, hcell⟩ := (HS.out.below B1.out).at (by omega)
            obtain ⟨u, hu⟩ : ∃ u : Nat, t = (u : Int) := ⟨t.toNat, by omega⟩
            subst hu
            obtain ⟨ap, np, cp, m0, hp⟩ := hcell u (by omega)
            have hul : u < d.sh.length := by rw [← HNS.out]; omega
            have hnp : np ≤ 1048576 := by rw [hp.len.1]; exact HSM.out.1 u hul
            have HC := hid (sheet_any ap np cp (shAt d.sh u) w1 (hp.rd hnp) hnp)
            have HSO : Hid (shOk (shAt d.sh u) = true) := by
              show _ = true
              rw [shOk_sht]
              exact ((dkOk_iff d).1 HOK.out).2.2.2.1 u hul
            have HV3 : Hid (rdV d (u : Int) = some (sheet (shAt d.sh u))) := by
              show _ = _
              rw [HV2.out, ← HL.out, lastW]
              simp
            have hu2 : (u : Int) < (sn : Int) := by omega
            clear hcell hbw hp
            go_wp2_with fail
            refine HC.out.mono ?_
            rintro e w2 ⟨a2, n2, c2, rfl, hO2, hb2⟩
            have O2 := hid hO2
            have B2 := hid (bt6 B1.out hb2)
            rw [HSO.out]
            clear hO2 hb2 HC
            go_wp2
            go_ret2
            rw [HV3.out]
            exact ⟨_, _, _, rfl, ownD_base O2.out B1.out.size, B2.out⟩
          | succ j =>
            have hj : (((j + 1 : Nat) : Int) - 1) = (j : Int) := by omega
            rw [hj]
            have c1 := K1.out.cell (j := 1) rfl
            obtain ⟨b, off, rfl, _, hbw, hcell⟩ := (HD.out.below B1.out).at (by omega)
            obtain ⟨ap, np, cp, mt, m0, hp⟩ := hcell j (by omega)
            have hjl : j < d.dw.length := by rw [← HND.out]; omega
            have hnp : np ≤ 1048576 := by rw [hp.len.1]; exact HSM.out.2 j hjl
            have HLS : Hid (lastW d.dw t (j + 1) = if (dwAt d.dw j).1 = t then some (dwAt d.dw j).2 else lastW d.dw t j) := rfl
            have hj2 : (j : Int) < (dn : Int) := by omega
            have HRD := hid (hp.rd hnp)
            have HLN := hid hp.len.1
            clear hcell hbw hp
            generalize (dwAt d.dw j).1 = tt at *
            by_cases e : tt = t
            · subst e
              have HV3 : Hid (rdV d tt = some (dwAt d.dw j).2) := by
                show _ = _
                rw [HV2.out, ← HL.out, HLS.out, if_pos rfl]
                rfl
              have HO := hid (ob_new w1 w1.heap.size (Nat.le_refl _))
              have HB := hid (below_new (o := .cells #[] 5) (w := w1) (Below.refl _ _))
              have HR := hid (HRD.out.kept HB.out)
              have hzb : ([] : List Int).length + (dwAt d.dw j).2.length ≤ 70368744177664 := by rw [← HLN.out]; simp; omega
              have HZ : Hid (w1.heap.size ≤ (w1.alloc (.cells #[] 5)).heap.size) := HB.out.size
              have k1 := (K1.out.below HB.out).cell (j := 1) rfl
              have k0 := (World.cell?_of_block (w := w1) (a := ⟨b, off + j * 2 + 1, none⟩) (w' := w1.alloc (.cells #[] 5)) (HB.out.block b (by exact block_lt m0))).trans m0
              clear HL HLS HV2
              go_wp2_with (at_builtin; refine wpList_append_rd rfl _ _ rfl w1.heap.size _ [] rfl HO.out ap np cp _ rfl HR.out hzb HZ.out ?_)
              intro v3 w3 hO3 hg3
              have O3 : Hid (Ob w3 w1.heap.size v3 (dwAt d.dw j).2) := by show Ob _ _ _ _; simpa using hO3
              have B3 : Hid (Below w1.heap.size w1 w3) := HB.out.trans ((only_of_grown hg3 (R := fun y => (Value.slice (some ⟨w1.heap.size, 0, none⟩) 0 0).ownBlock = some y) (fun k e => e)).below HZ.out (fun b hb e => by have := (World.ownsRow.lt HO.out b e).1; omega))
              obtain ⟨a3, c3, rfl⟩ := hO3.shape
              clear hO3 hg3 HO HB HR k0 k1
              go_wp2
              go_ret2
              rw [HV3.out]
              exact ⟨_, _, _, rfl, ownD_base O3.out B1.out.size, bt6 B1.out B3.out⟩
            · have e' : (tt == t) = false := by simp [e]
              have HL2 : Hid (lastW d.dw t j = lastW d.dw t d.dw.length) := by
                show _ = _
                rw [← HL.out, HLS.out, if_neg e]
              clear HL HLS
              go_wp2
              go_round
              case rel => exact ⟨j, by omega, by go_num, HL2.out⟩
              case measure => simp [intOf]
end Go.Proofs.YtijinngmfalfcaaDoor

