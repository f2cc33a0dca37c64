/-
  The law FnOf answers true at every slice of bytes, and writes nothing that was there.
-/
import Derived.Test.YtjplocdjbfpcgaaMx5
import Derived.Test.YtjplocdjbfpcgaaMx6
namespace Go.Proofs.Ytjplocdjbfpcgaa
open Go.RowKit
set_option maxHeartbeats 8000000 in
set_option maxRecDepth 20000 in
theorem lawFOf_walk (a : Option Addr) (n c : Nat) (z0 : List Int) (w : World) (w0 : IsRow .u8 w a n c z0) :
    Calls Try.prog 6 #[.slice a n c] w fun e w' => e = .returned (.bool true) ∧ Below w.heap.size w w' := by
  by_cases hbig : 1048576 < n
  · have hb' : (1048576 : Int) < (n : Int) := by omega
    clear w0
    go_enter Try.func6, Try.ntmps6
    go_wp2
    go_ret
    exact ⟨rfl, Below.refl _ _⟩
  · have hrd := rd_of_row w0 (by omega)
    generalize z0.take n = zs at hrd
    have hns : ¬ (1048576 : Int) < (n : Int) := by omega
    clear w0
    have HR : Hid (Rd w a n c zs) := hrd
    clear hrd
    go_enter Try.func6, Try.ntmps6
    go_wp2_with fail
    refine (drawTreeOf_any a n c zs _ HR.out (by omega)).mono ?_
    rintro e w1 ⟨la, ln, lc, l, rfl, hP1, hl1, hb1⟩
    have HP1 := hid hP1
    have HB1 := hid hb1
    have HL := hid (Rw.len hP1).1
    have hlb := (Rw.len hP1).2
    have hl2 : ln ≤ 200 := by rw [(Rw.len hP1).1]; exact hl1
    clear hP1 hb1 HR hl1
    go_wp2_with fail
    refine (implTreeOf_any _ la ln lc l _ HP1.out).mono ?_
    rintro e w2 ⟨v, rfl, hT2, hb2⟩
    have HB2 := hid (bthn (bthn HB1.out hb2) (below_alloc w2 (.cells #[v] 25)))
    have HP2 := hid ((HP1.out.below hb2).below (below_alloc w2 (.cells #[v] 25)))
    have K2 := hid (Bk.new w2 25 [v])
    obtain ⟨ta, tn, tc, rfl, htn⟩ := hT2.shape
    have HN2 := hid ((TreePost.nr hT2).below (below_alloc w2 (.cells #[.slice ta tn tc] 25)))
    clear hT2 hb2 HB1 HP1
    go_wp2_with fail
    refine (specPairsOk_any _ _ l _ HP2.out).mono ?_
    generalize hu : w2.alloc (.cells #[.slice ta tn tc] 25) = U at *
    rintro e w3 ⟨rfl, hb3⟩
    have HB3 := hid (bthn HB2.out hb3)
    have HP3 := hid (HP2.out.below hb3)
    have K3 := hid (K2.out.below hb3)
    have HN3 := hid (HN2.out.below hb3)
    clear hb3 HB2 HP2 K2 HN2 hu
    have k0 := K3.out.cell (j := 0) rfl
    have hbb : ((ofV l).isSome != pOk l) = false := by
      unfold ofV
      cases pOk l <;> rfl
    cases hok : pOk l with
    | false =>
      have hof : ofV l = none := by rw [ofV, if_neg (by rw [hok]; simp)]
      rw [hof] at htn ⊢
      have h0 : tn = 0 := htn.out
      subst h0
      clear hbb hok hof htn HN3 HP3 K3
      go_wp2
      go_ret
      exact ⟨rfl, HB3.out⟩
    | true =>
      have hof : ofV l = some (layT (ofT l l.length)) := by rw [ofV, if_pos hok]
      have hR := ofT_root hok l.length (Nat.le_refl _)
      rw [List.take_length] at hR
      rw [hof] at HN3 ⊢
      generalize ofT l l.length = t at *
      have HN4 : Hid (Nr w3 (fun _ => True) (.slice ta tn tc) (layT t)) := HN3.out
      have HAL := hid hR.alV
      have HDP := hid hR.dpV
      obtain ⟨hd0, hd13, hd2⟩ := hR.deep
      have HD0 := hid hd0
      have HD2 := hid hd2
      clear hbb hok hof htn HN3 hR hd0 hd2
      generalize layT t = ns at *
      generalize t.dpt = d at *
      go_wp2_with fail
      refine (implDepth_any _ ta tn tc ns _ HN4.out).mono ?_
      rw [HDP.out]
      rintro e w4 ⟨rfl, hb4⟩
      have HB4 := hid (bthn HB3.out hb4)
      have HP4 := hid (HP3.out.below hb4)
      have k4 := (K3.out.below hb4).cell (j := 0) rfl
      have HN5 := hid (HN4.out.below hb4)
      clear hb4 HB3 HP3 K3 HN4 k0
      go_wp2_with fail
      go_loopw [7, 8] (fun x y wr => ∃ (j q : Nat), wr = w4.drewN q ∧ y = .int .i64 ((j : Int) + 1) ∧ x = .int .i64 ((2 ^ j : Nat) : Int) ∧ (j = 0 ∨ j + 1 ≤ d)) (fun _ y _ => 20 - (intOf y).toNat)
      case atStart => exact ⟨0, 0, rfl, rfl, rfl, .inl rfl⟩
      case round =>
        obtain ⟨j, q, rfl, rfl, rfl, hj⟩ := hrel
        have hj12 : j ≤ 12 := by omega
        have hpw : 2 ^ j ≤ 4096 := Nat.pow_le_pow_right (n := 2) (by omega) hj12
        by_cases hlt : j + 1 < d
        · have hlt' : (j : Int) + 1 < (d : Int) := by omega
          have hps : 2 ^ (j + 1) = 2 ^ j * 2 := Nat.pow_succ 2 j
          have HPS := hid hps
          clear hps
          generalize hP : 2 ^ j = P at *
          have HPP := hid hP
          clear hP
          go_wp2
          go_roundw
          case rel => exact ⟨j + 1, _, rfl, by go_num, by rw [HPS.out]; go_num, .inr (by omega)⟩
          case measure => simp [intOf]; omega
        · have hlt' : ¬ (j : Int) + 1 < (d : Int) := by omega
          have HND : Hid (2 ≤ d → 2 ^ j ≤ ln) := by
            intro h2
            have e : j = d - 1 := by omega
            rw [e, HL.out]
            exact HD2.out h2
          generalize 2 ^ j = P at *
          go_wp2_with fail
          refine (implTreeAll_any _ ta tn tc ns _ (HN5.out.below (below_drewN _ _))).mono ?_
          rw [HAL.out]
          rintro e w5 ⟨v5, rfl, hO5, hb5⟩
          obtain ⟨aa, an, ac, rfl, hna⟩ := hO5.shape'
          have HP5 := hid (hO5.pr (S := fun _ => True) (fun _ _ _ _ => trivial))
          have HQ5 := hid ((HP4.out.below (below_drewN _ q)).below hb5)
          have HB5 := hid (bthn (bthn HB4.out (below_drewN _ q)) hb5)
          clear hO5 hb5 HB4 HP4 k4
          go_wp2_with fail
          refine (samePairs_any _ _ aa la an ln ac lc l l _ HP5.out HQ5.out).mono ?_
          rw [decide_eq_true (rfl : l = l)]
          rintro e w6 ⟨rfl, hb6⟩
          have HB6 := hid (bthn HB5.out hb6)
          clear hb6 HB5 HP5 HQ5
          by_cases hz : ln = 0
          · have hd : d = 0 := HD0.out.2 (by rw [← HL.out]; exact hz)
            subst hz hd
            clear HD0 HD2 HND hlt'
            go_wp2
            go_ret
            exact ⟨rfl, HB6.out⟩
          · have hdz : d ≠ 0 := fun e => hz (by rw [HL.out]; exact HD0.out.1 e)
            have e1 : ((d : Int) == 0) = false := by simp; omega
            have e2 : ((ln : Int) == 0) = false := by simp; omega
            by_cases h2 : d < 2
            · have h2' : (d : Int) < 2 := by omega
              clear hlt hlt' hj
              go_wp2
              go_ret
              exact ⟨rfl, HB6.out⟩
            · have h2' : ¬ (d : Int) < 2 := by omega
              have h3' : (P : Int) ≤ (ln : Int) := by have := HND.out (by omega); omega
              clear hlt hlt' hj
              go_wp2
              go_ret
              exact ⟨rfl, HB6.out⟩
end Go.Proofs.Ytjplocdjbfpcgaa
/-
  The law FnEmpty answers true at every slice of bytes, and writes nothing that was there.
-/
namespace Go.Proofs.Ytjplocdjbfpcgaa
open Go.RowKit
theorem TRow.nrS {w w' : World} {v : Value} {ms : List NB} (h : TRow w w' v ms) : Nr w' (fun y => w.heap.size ≤ y) v ms := by
  obtain ⟨V, h1, h2, h3⟩ := h
  exact h1.nrS h2 h3
/-- How far the keys are taken out: now's box is nb. -/
structure Em (w wr : World) (tb nb : Nat) (la : Option Addr) (ln lc : Nat) (l : List PB) (ta : Option Addr) (tn tc : Nat) (ns : List NB) (a' : Option Addr) (n' c' : Nat) (ns' : List NB) : Prop where
  be : Below w.heap.size w wr
  pr : Pr wr (fun y => y ≠ nb) (.slice la ln lc) l
  bt : Bk wr tb 25 [.slice ta tn tc]
  nt : Nr wr (fun y => y ≠ nb) (.slice ta tn tc) ns
  bn : Bk wr nb 25 [.slice a' n' c']
  nn : Nr wr (fun y => y ≠ nb) (.slice a' n' c') ns'
  ne : tb ≠ nb
  lo : w.heap.size ≤ nb
theorem Em.below {w wr v : World} {tb nb : Nat} {la : Option Addr} {ln lc : Nat} {l : List PB} {ta : Option Addr} {tn tc : Nat} {ns : List NB} {a' : Option Addr} {n' c' : Nat} {ns' : List NB} (h : Em w wr tb nb la ln lc l ta tn tc ns a' n' c' ns') (hb : Below wr.heap.size wr v) : Em w v tb nb la ln lc l ta tn tc ns a' n' c' ns' :=
  ⟨bthn h.be hb, h.pr.below hb, h.bt.below hb, h.nt.below hb, h.bn.below hb, h.nn.below hb, h.ne, h.lo⟩
theorem Em.put {w wr : World} {tb nb : Nat} {la : Option Addr} {ln lc : Nat} {l : List PB} {ta : Option Addr} {tn tc : Nat} {ns : List NB} {a' : Option Addr} {n' c' : Nat} {ns' : List NB} (h : Em w wr tb nb la ln lc l ta tn tc ns a' n' c' ns') {a2 : Option Addr} {n2 c2 : Nat} {ns2 : List NB} (hN : Nr wr (fun y => y ≠ nb) (.slice a2 n2 c2) ns2) : Em w (wr.setCell ⟨nb, 0, none⟩ (.slice a2 n2 c2)) tb nb la ln lc l ta tn tc ns a2 n2 c2 ns2 := by
  have ho : Only (fun y => y = nb) wr (wr.setCell ⟨nb, 0, none⟩ (.slice a2 n2 c2)) := only_set (R := fun y => y = nb) rfl _
  exact ⟨h.be.setCell h.lo _, Rw.to h.pr ho (fun y hy _ e => hy e), h.bt.to ho h.ne, h.nt.to ho (fun y hy _ e => hy e), h.bn.set 0 _, hN.to ho (fun y hy _ e => hy e), h.ne, h.lo⟩
def EmI (ns : List NB) (l : List PB) (ns' : List NB) (j : Nat) : Prop := ((okT ns).isSome = false ∧ l = []) ∨ ((okT ns).isSome = true ∧ ∃ t, ns' = layT t ∧ RootI t (l.drop j))
theorem emI_new (ns : List NB) : EmI ns (alV ns) ns 0 := by
  cases h : okT ns with
  | none => exact .inl ⟨by rw [h]; rfl, by unfold alV; rw [h]⟩
  | some t =>
    refine .inr ⟨by rw [h]; rfl, t, (okT_layT h).symm, ?_⟩
    have : alV ns = t.all := by unfold alV; rw [h]
    rw [List.drop_zero, this]
    exact okT_root h
theorem EmI.step {ns : List NB} {l : List PB} {ns' : List NB} {j : Nat} (h : EmI ns l ns' j) (hj : j < l.length) : ∃ ms, dropV ns' (pAtB l j).1 = some ms ∧ EmI ns l ms (j + 1) ∧ (alV ms).length = l.length - (j + 1) := by
  rcases h with ⟨_, rfl⟩ | ⟨h0, t, rfl, g⟩
  · exact absurd hj (Nat.not_lt_zero _)
  · obtain ⟨h1, h2⟩ := drop_next hj g
    exact ⟨_, h1, .inr ⟨h0, _, rfl, h2⟩, by rw [h2.alV, List.length_drop]⟩
theorem EmI.last {ns : List NB} {l : List PB} {ns' : List NB} {j : Nat} (h : EmI ns l ns' j) (hj : l.length ≤ j) (ho : (okT ns).isSome = true) : ns' = [] := by
  rcases h with ⟨h0, _⟩ | ⟨_, t, rfl, g⟩
  · rw [ho] at h0; cases h0
  · rw [List.drop_of_length_le hj] at g
    exact g.none
set_option maxHeartbeats 8000000 in
set_option maxRecDepth 20000 in
theorem lawFEmpty_walk (a : Option Addr) (n c : Nat) (z0 : List Int) (w : World) (w0 : IsRow .u8 w a n c z0) :
    Calls Try.prog 5 #[.slice a n c] w fun e w' => e = .returned (.bool true) ∧ Below w.heap.size w w' := by
  by_cases hbig : 1048576 < n
  · have hb' : (1048576 : Int) < (n : Int) := by omega
    clear w0
    go_enter Try.func5, Try.ntmps5
    go_wp2
    go_ret
    exact ⟨rfl, Below.refl _ _⟩
  · have hrd := rd_of_row w0 (by omega)
    generalize z0.take n = zs at hrd
    have hns : ¬ (1048576 : Int) < (n : Int) := by omega
    clear w0
    have HR : Hid (Rd w a n c zs) := hrd
    clear hrd
    go_enter Try.func5, Try.ntmps5
    go_wp2_with fail
    refine (drawTreeAll_any a n c zs _ HR.out (by omega)).mono ?_
    rintro e w1 ⟨ta, tn, tc, ns, rfl, hN1, hs1, hb1⟩
    have HB1 := hid (bthn hb1 (below_alloc w1 (.cells #[.slice ta tn tc] 25)))
    have HN1 := hid (hN1.below (below_alloc w1 (.cells #[.slice ta tn tc] 25)))
    have K1 := hid (Bk.new w1 25 [.slice ta tn tc])
    have HS := hid hs1
    clear hN1 hs1 hb1 HR
    have t0 := K1.out.cell (j := 0) rfl
    go_wp2_with fail
    refine (implTreeAll_any _ ta tn tc ns _ HN1.out).mono ?_
    generalize w1.alloc (.cells #[.slice ta tn tc] 25) = U1 at *
    generalize w1.heap.size = tb at *
    rintro e w2 ⟨v2, rfl, hO2, hb2⟩
    obtain ⟨la, ln, lc, rfl, hln⟩ := hO2.shape'
    have HP2 := hid (hO2.pr (S := fun _ => True) (fun _ _ _ _ => trivial))
    have HB2 := hid (bthn HB1.out hb2)
    have HN2 := hid (HN1.out.below hb2)
    have K2 := hid (K1.out.below hb2)
    have HLN := hid (alV_len ns)
    clear hO2 hb2 HB1 HN1 K1 t0
    have t0 := K2.out.cell (j := 0) rfl
    go_wp2_with fail
    refine (specTreeAll_any ns HS.out.2 HS.out.1 _ ta tn tc _ HN2.out).mono ?_
    rintro e w3 ⟨v3, rfl, hO3, hb3⟩
    obtain ⟨sa, sn, sc, rfl, hsn⟩ := hO3.shape'
    have hne : ((ln : Int) != (sn : Int)) = false := by rw [hln.out, hsn.out]; simp
    have HEI := hid (emI_new ns)
    have hl2 : ln ≤ 200 := by rw [hln.out]; exact HLN.out
    have K3 := hid (K2.out.below hb3)
    have HE : Hid (Em w (w3.alloc (.cells #[.slice ta tn tc] 25)) tb w3.heap.size la ln lc (alV ns) ta tn tc ns ta tn tc ns) := by
      have ba := below_alloc w3 (.cells #[.slice ta tn tc] 25)
      have hlt := K3.out.lt
      have hp : Pr w3 (fun y => y ≠ w3.heap.size) (.slice la ln lc) (alV ns) := Rw.mono (HP2.out.below hb3) (fun y _ hy => by omega)
      have hn : Nr w3 (fun y => y ≠ w3.heap.size) (.slice ta tn tc) ns := (HN2.out.below hb3).mono (fun y _ hy => by omega)
      exact ⟨bthn (bthn HB2.out hb3) ba, Rw.below hp ba, K3.out.below ba, hn.below ba, Bk.new w3 25 [.slice ta tn tc], hn.below ba, by omega, (bthn HB2.out hb3).size⟩
    have t3 := K3.out.cell (j := 0) rfl
    clear hO3 hb3 HP2 HB2 HN2 K2 K3 HLN t0
    generalize alV ns = l at *
    go_wp2_with fail
    generalize w3.alloc (.cells #[.slice ta tn tc] 25) = U3 at *
    generalize w3.heap.size = nb at *
    clear t3
    go_loopw [26] (fun i wr => ∃ (j : Nat) (a' : Option Addr) (n' c' : Nat) (ns' : List NB), j ≤ ln ∧ i = .int .i64 j ∧ Hid (Em w wr tb nb la ln lc l ta tn tc ns a' n' c' ns') ∧ Hid (EmI ns l ns' j)) (fun i _ => ln - (intOf i).toNat)
    case atStart => exact ⟨0, _, _, _, _, Nat.zero_le _, rfl, HE.out, HEI.out⟩
    case round =>
      obtain ⟨j, a', n', c', ns', hj, rfl, E0, I0⟩ := hrel
      clear HE HEI
      by_cases hlt : j < ln
      · have hlt' : (j : Int) < (ln : Int) := by omega
        obtain ⟨ms, hdr, hI1, hal⟩ := I0.out.step (by rw [← hln.out]; exact hlt)
        obtain ⟨pb, off, hla, -, -, hc⟩ := E0.out.pr.at (by omega)
        subst hla
        have m0 := (hc j hlt).1
        have m1 := (hc j hlt).2
        have HDR := hid hdr
        have HI1 := hid hI1
        have HAL := hid hal
        clear hc hdr hI1 hal I0
        generalize (pAtB l j).1 = pk at *
        generalize (pAtB l j).2 = pv at *
        have E1 : Hid (Em w (wr.alloc (.cells #[.string pk, .string pv] 35)) tb nb (some ⟨pb, off, none⟩) ln lc l ta tn tc ns a' n' c' ns') := E0.out.below (below_alloc _ _)
        have q0 := E1.out.bn.cell (j := 0) rfl
        have HZ : Hid (nb < wr.heap.size) := E0.out.bn.lt
        clear E0
        go_wp2_with fail
        refine (implTreeDrop_any _ a' n' c' ns' pk _ E1.out.nn).mono ?_
        generalize hU : wr.alloc (.cells #[.string pk, .string pv] 35) = U at *
        have HZU : Hid (nb < U.heap.size) := by have := HZ.out; show _ < _; rw [← hU]; simp; omega
        clear hU
        rw [HDR.out]
        rintro e w4 ⟨v4, rfl, hT4, hb4⟩
        obtain ⟨a2, n2, c2, rfl, -⟩ := hT4.shape
        have HT4 : Hid (Nr w4 (fun y => y ≠ nb) (.slice a2 n2 c2) ms) := hT4.nrS.mono (fun y hy _ => by have := HZU.out; omega)
        have E4 : Hid (Em w (w4.alloc (.cells #[.slice a2 n2 c2] 25)) tb nb (some ⟨pb, off, none⟩) ln lc l ta tn tc ns a' n' c' ns') := (E1.out.below hb4).below (below_alloc _ _)
        have K4 := hid (Bk.new w4 25 [.slice a2 n2 c2])
        have HN4 := hid (HT4.out.below (below_alloc w4 (.cells #[.slice a2 n2 c2] 25)))
        clear hT4 hb4 HT4 E1 q0 HZ
        have b4 := K4.out.cell (j := 0) rfl
        go_wp2_with fail
        refine (implTreeAll_any _ a2 n2 c2 ms _ HN4.out).mono ?_
        generalize w4.alloc (.cells #[.slice a2 n2 c2] 25) = U4 at *
        generalize w4.heap.size = xb at *
        rintro e w5 ⟨v5, rfl, hO5, hb5⟩
        obtain ⟨fa, fn, fc, rfl, hfn⟩ := hO5.shape'
        have hfn2 : (fn : Int) = (ln : Int) - 1 - (j : Int) := by rw [hfn.out, HAL.out, ← hln.out]; omega
        have hcmp : ((fn : Int) != (ln : Int) - 1 - (j : Int)) = false := by rw [hfn2]; simp
        have E5 := hid (E4.out.below hb5)
        have K5 := hid (K4.out.below hb5)
        have HN5 := hid (HN4.out.below hb5)
        have E6 := hid (E5.out.put HN5.out)
        clear hO5 hb5 E4 K4 HN4 b4 hfn hfn2
        have b5 := K5.out.cell (j := 0) rfl
        have q5 := E5.out.bn.cell (j := 0) rfl
        have f5 := E5.out.bn.free 0
        clear E5 K5 HN5
        go_wp2
        go_roundw
        case rel => exact ⟨j + 1, a2, n2, c2, ms, by omega, by go_num, E6.out, HI1.out⟩
        case measure => simp [intOf]; omega
      · have hlt' : ¬ (j : Int) < (ln : Int) := by omega
        have HEND : Hid ((okT ns).isSome = true → ns' = []) := fun ho => I0.out.last (by rw [← hln.out]; omega) ho
        have HSP := hid (spOk_eq ns)
        have hn' : Hid (n' = ns'.length) := E0.out.nn.len.1
        cases hok : (okT ns).isSome with
        | false =>
          have HIO : Hid (∀ v, Nr v (fun y => y ≠ nb) (.slice ta tn tc) ns → Calls Try.prog 15 #[.agg #[.slice ta tn tc]] v fun e w' => e = .returned (.bool false) ∧ Below v.heap.size v w') := fun v hv => hok ▸ implTreeOk_any _ ta tn tc ns v hv
          have HSO : Hid (∀ v, Nr v (fun y => y ≠ nb) (.slice ta tn tc) ns → Calls Try.prog 23 #[.agg #[.slice ta tn tc]] v fun e w' => e = .returned (.bool false) ∧ Below v.heap.size v w') := fun v hv => by
            have := specTreeOk_any ns HS.out.2 HS.out.1 _ ta tn tc v hv
            rwa [HSP.out, hok] at this
          clear HSP hok HEND I0 hn'
          have E1 := hid (E0.out.below (below_drew _))
          clear E0
          have c0 := E1.out.bt.cell (j := 0) rfl
          have n0 := E1.out.bn.cell (j := 0) rfl
          go_wp2_with fail
          first | go_region_with (first
            | (go_at_call 15; refine (HIO.out _ E1.out.nt).mono ?_; rintro e v1 ⟨rfl, hb1⟩; have E2 := E1.out.below hb1; have c1 := E2.bt.cell (j := 0) rfl; have n1 := E2.bn.cell (j := 0) rfl)
            | (go_at_call 23; refine (HSO.out _ E3.nt).mono ?_; rintro e v3 ⟨rfl, hb3⟩; have E4 := E3.below hb3; have c3 := E4.bt.cell (j := 0) rfl; have n3 := E4.bn.cell (j := 0) rfl)
            | (go_at_call 23; refine (HSO.out _ E2.nt).mono ?_; rintro e v2 ⟨rfl, hb2⟩; have E3 := E2.below hb2; have c2 := E3.bt.cell (j := 0) rfl; have n2 := E3.bn.cell (j := 0) rfl)) | fail
          all_goals
            have HB9 := hid E4.be
            clear E2 E3 E4 HIO HSO
            go_wp2
            go_ret
            exact ⟨rfl, HB9.out⟩
        | true =>
          have HIO : Hid (∀ v, Nr v (fun y => y ≠ nb) (.slice ta tn tc) ns → Calls Try.prog 15 #[.agg #[.slice ta tn tc]] v fun e w' => e = .returned (.bool true) ∧ Below v.heap.size v w') := fun v hv => hok ▸ implTreeOk_any _ ta tn tc ns v hv
          have HSO : Hid (∀ v, Nr v (fun y => y ≠ nb) (.slice ta tn tc) ns → Calls Try.prog 23 #[.agg #[.slice ta tn tc]] v fun e w' => e = .returned (.bool true) ∧ Below v.heap.size v w') := fun v hv => by
            have := specTreeOk_any ns HS.out.2 HS.out.1 _ ta tn tc v hv
            rwa [HSP.out, hok] at this
          have hz : n' = 0 := by rw [hn'.out, HEND.out hok]; rfl
          subst hz
          clear HSP hok HEND I0 hn'
          have E1 := hid (E0.out.below (below_drew _))
          clear E0
          have c0 := E1.out.bt.cell (j := 0) rfl
          have n0 := E1.out.bn.cell (j := 0) rfl
          go_wp2_with fail
          go_region_with (first
            | (go_at_call 15; refine (HIO.out _ E1.out.nt).mono ?_; rintro e v1 ⟨rfl, hb1⟩; have E2 := E1.out.below hb1; have c1 := E2.bt.cell (j := 0) rfl; have n1 := E2.bn.cell (j := 0) rfl)
            | (go_at_call 23; refine (HSO.out _ E3.nt).mono ?_; rintro e v3 ⟨rfl, hb3⟩; have E4 := E3.below hb3; have c3 := E4.bt.cell (j := 0) rfl; have n3 := E4.bn.cell (j := 0) rfl)
            | (go_at_call 23; refine (HSO.out _ E2.nt).mono ?_; rintro e v2 ⟨rfl, hb2⟩; have E3 := E2.below hb2; have c2 := E3.bt.cell (j := 0) rfl; have n2 := E3.bn.cell (j := 0) rfl))
          all_goals
            have HB9 := hid E4.be
            clear E2 E3 E4 HIO HSO
            go_wp2
            go_ret
            exact ⟨rfl, HB9.out⟩
end Go.Proofs.Ytjplocdjbfpcgaa
