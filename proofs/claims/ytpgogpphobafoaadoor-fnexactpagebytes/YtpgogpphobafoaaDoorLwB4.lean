/-
  The law FnExactPageBytes answers true at every page.
-/
import Derived.Test.YtpgogpphobafoaaDoorLwP
import Derived.Test.YtpgogpphobafoaaDoorPgW
import Derived.Test.YtpgogpphobafoaaDoorPgM
import Derived.Test.YtpgogpphobafoaaDoorLwM
namespace Go.Proofs.YtpgogpphobafoaaDoor
open Go.RowKit
theorem Rd.to {w w' : World} {R : Nat → Prop} {a : Option Addr} {n c : Nat} {zs : List Int} (h : Rd w a n c zs) (ho : Only R w w') (hR : ∀ x, a = some x → ¬ R x.block) : Rd w' a n c zs := by
  obtain ⟨h1, h2, h3, h30, h4, h5⟩ := h
  refine ⟨h1, h2, h3, h30, h4, fun hp => ?_⟩
  obtain ⟨b, off, rfl, hb, hc⟩ := h5 hp
  refine ⟨b, off, rfl, Nat.lt_of_lt_of_le hb ho.size, fun i hi => ?_⟩
  rw [World.cell?_of_block (w := w) (a := ⟨b, off + i, none⟩) (ho.block b hb (hR _ rfl))]
  exact hc i hi
theorem Wb.to {w w' : World} {R : Nat → Prop} {a : Option Addr} {n : Nat} (h : Wb w a n) (ho : Only R w w') (hR : ∀ x, a = some x → 0 < n → x.block < w.heap.size ∧ ¬ R x.block) : Wb w' a n := by
  intro x hx i hi
  obtain ⟨h1, h2⟩ := hR x hx (by omega)
  rw [World.frozen?_of_block (w := w) (a := ⟨x.block, x.off + i, none⟩) (ho.block x.block h1 h2)]
  exact h x hx i hi
theorem kw_bk {w : World} {S : Nat → Prop} {g n : Nat} {T : TypeId} {xs : List Value} {K : Value → Prop} (h : Bk w g T xs) (hn : n = xs.length) (hb : n ≤ 1048576) (hx : ∀ u ∈ xs, K u) (hS : S g) : Kw w S (.slice (some ⟨g, 0, none⟩) n n) n n K := by
  have := kw_of (S := fun y => y = g) (S' := S) (h.rw (n := n) (c := n) (Nat.le_refl _) (by omega) (fun e => List.eq_nil_of_length_eq_zero (by omega)) (fun y => y = g) rfl) hx (fun b e _ => by subst e; exact ⟨hS, h.uf⟩)
  rwa [← hn] at this
theorem pg_facts (p : PG) : (∀ i : Nat, 0 ≤ ((pgBytes p).getD [])[i]?.getD 0 ∧ ((pgBytes p).getD [])[i]?.getD 0 ≤ 255) ∧ ((pgBytes p).getD []).length ≤ 4096 := by
  unfold pgBytes
  split
  · rename_i h
    have hF := pgOk_facts h
    have hl := pgRaw_len hF
    refine ⟨byte_at ?_, ?_⟩
    · rw [Option.getD_some, pgFull]
      exact byte_append (pgBody_byte hF _ (Nat.le_refl _)) (fun z hz => by have := List.eq_of_mem_replicate hz; omega)
    · rw [Option.getD_some, pgFull, List.length_append, List.length_replicate]
      omega
  · simp
set_option maxHeartbeats 8000000 in
set_option maxRecDepth 20000 in
theorem lawPageBytes_walk (ka : Option Addr) (kn kc : Nat) (va : Option Addr) (vn vc : Nat) (ia : Option Addr) (jn ic : Nat) (p : PG) (w : World) (h : Pgr w (fun _ => True) ka kn kc va vn vc ia jn ic p ∧ szOkS p.keys ∧ szOkS p.vals)
    (he : Err w 1) (_hn : Err w 2) (he2 : Err w 0) (_l1 : 1 < w.heap.size) (_l2 : 2 < w.heap.size) (_l3 : 0 < w.heap.size) :
    Calls Tryd.prog 3 #[.agg #[.slice ka kn kc, .slice va vn vc, .slice ia jn ic]] w fun e w' => e = .returned (.bool true) ∧ Below w.heap.size w w' := by
  have X0 := hid (PX.start h.1)
  have NK := hid (Rw.len h.1.hk).1
  have NV := hid (Rw.len h.1.hv).1
  have NI := hid (Rw.len h.1.hi).1
  have HZ := hid h.2
  have HE := hid he
  have HE2 := hid he2
  clear h he he2 _hn _l1 _l2 _l3
  go_enter Tryd.func3, Tryd.ntmps3
  go_wp2_with fail
  refine (szPage_any _ ka va ia kn kc vn vc jn ic p _ _ X0.out.hA.hk X0.out.hA.hv X0.out.hA.hi HZ.out.1 HZ.out.2 (by omega) (by omega)).mono ?_
  generalize w.alloc (.cells #[.slice ka kn kc, .slice va vn vc, .slice ia jn ic] 25) = U at *
  rintro e w1 ⟨⟨x, rfl, hx1, hx2, hx3⟩, hb⟩
  have X1 := hid (X0.out.below hb)
  have HX := hid hx3
  clear hb hx3 X0 HZ
  by_cases hneg : x < 0
  · go_wp2
    go_ret
    exact ⟨rfl, X1.out.bel⟩
  · have m0 := (HX.out (by omega)).1
    have m1 := (HX.out (by omega)).2.1
    have m2 := (HX.out (by omega)).2.2
    clear HX
    have HS : Hid (∀ (g0 g1 g2 : Nat) (u : World), PC u g0 g1 g2 p → Calls Tryd.prog 8 #[.agg #[.slice (some ⟨g0, 0, none⟩) kn kn, .slice (some ⟨g1, 0, none⟩) vn vn, .slice (some ⟨g2, 0, none⟩) jn jn]] u fun e w' => Put u (pgBytes p) e w') := fun g0 g1 g2 u hc => specPageBytes_any (fun _ => True) _ _ _ _ _ _ _ _ _ p u (hc.pgr NK.out NV.out NI.out m0 m1 m2 trivial trivial trivial)
    have HI : Hid (∀ (g0 g1 g2 : Nat) (u : World), PC u g0 g1 g2 p → Err u 1 → Err u 0 → Calls Tryd.prog 10 #[.agg #[.slice (some ⟨g0, 0, none⟩) kn kn, .slice (some ⟨g1, 0, none⟩) vn vn, .slice (some ⟨g2, 0, none⟩) jn jn]] u fun e w' => Put u (pgBytes p) e w') := fun g0 g1 g2 u hc h1 h2 => implPageBytes_any (fun _ => True) _ _ _ _ _ _ _ _ _ p u (hc.pgr NK.out NV.out NI.out m0 m1 m2 trivial trivial trivial) h1 h2
    have HF := hid (pg_facts p)
    generalize pgBytes p = o at HS HI HF
    have hbb : (o.isSome != o.isSome) = false := by simp
    have HL : Hid ((o.getD []).length ≤ 4096) := HF.out.2
    have HV : Hid (∀ (w w' : World) (e : Ending), Put w o e w' → ∃ a c, e = .returned (.tuple #[.slice a (o.getD []).length c, .bool o.isSome]) ∧ Rd w' a (o.getD []).length c (o.getD []) ∧ (∀ x, a = some x → w.heap.size ≤ x.block) ∧ Wb w' a (o.getD []).length ∧ Below w.heap.size w w') := fun w w' e h => h.see HF.out.1 HF.out.2
    generalize o.getD [] = out at *
    generalize o.isSome = bo at *
    generalize out.length = L at *
    clear HF
    have hl := HL.out
    obtain ⟨x0, x1, x2⟩ := X1.out.cells
    go_wp2_with fail
    refine (toPage_any _ ka va ia kn kc vn vc jn ic p _ X1.out.hA.hk X1.out.hA.hv X1.out.hA.hi m0 m1 m2).mono ?_
    rintro e w2 ⟨g0, g1, g2, rfl, -, -, -, k0, k1, k2, hb⟩
    have X2 := hid (X1.out.below hb)
    have C2 : Hid (PC w2 g0 g1 g2 p) := ⟨k0, k1, k2⟩
    clear hb X1 k0 k1 k2 x0 x1 x2
    go_wp2_with fail
    refine (HS.out g0 g1 g2 w2 C2.out).mono ?_
    intro e w3 hp
    obtain ⟨a0, c0, rfl, hr0, -, -, hb3⟩ := HV.out _ _ _ hp
    have RW := hid hr0
    have X3 := hid (X2.out.below hb3)
    clear hp hr0 hb3 X2 C2 HS
    obtain ⟨x0, x1, x2⟩ := X3.out.cells
    go_wp2_with fail
    refine (toPage_any _ ka va ia kn kc vn vc jn ic p _ X3.out.hA.hk X3.out.hA.hv X3.out.hA.hi m0 m1 m2).mono ?_
    rintro e w4 ⟨h0, h1, h2, rfl, z0, z1, z2, k0, k1, k2, hb4⟩
    have X4 := hid (X3.out.below hb4)
    have D4 := hid hb4
    have C4 : Hid (PC w4 h0 h1 h2 p) := ⟨k0, k1, k2⟩
    have HLO : Hid (∀ y, (y = h0 ∨ y = h1 ∨ y = h2) → w3.heap.size ≤ y ∧ y < w4.heap.size) := by
      rintro y (rfl | rfl | rfl)
      · exact ⟨z0, k0.lt⟩
      · exact ⟨z1, k1.lt⟩
      · exact ⟨z2, k2.lt⟩
    have HX3 : Hid (w.heap.size < w3.heap.size) := X3.out.kA.lt
    clear hb4 X3 k0 k1 k2 x0 x1 x2 z0 z1 z2
    have hb5 := below_new (o := .cells #[.slice (some ⟨h0, 0, none⟩) kn kn, .slice (some ⟨h1, 0, none⟩) vn vn, .slice (some ⟨h2, 0, none⟩) jn jn] 30) (w := w4) (Below.refl _ _)
    have X5 := hid (X4.out.below hb5)
    have D5 := hid (btw D4.out hb5)
    have C5 := hid (C4.out.below hb5)
    have K5 := hid (Bk.new w4 30 [.slice (some ⟨h0, 0, none⟩) kn kn, .slice (some ⟨h1, 0, none⟩) vn vn, .slice (some ⟨h2, 0, none⟩) jn jn])
    have S45 : Hid (w4.heap.size ≤ (w4.alloc (.cells #[.slice (some ⟨h0, 0, none⟩) kn kn, .slice (some ⟨h1, 0, none⟩) vn vn, .slice (some ⟨h2, 0, none⟩) jn jn] 30)).heap.size) := hb5.size
    clear hb5 X4 C4
    go_wp2_with fail
    refine (HI.out h0 h1 h2 _ C5.out (HE.out.below X5.out.bel HE.out.lt) (HE2.out.below X5.out.bel HE2.out.lt)).mono ?_
    generalize w4.alloc (.cells #[.slice (some ⟨h0, 0, none⟩) kn kn, .slice (some ⟨h1, 0, none⟩) vn vn, .slice (some ⟨h2, 0, none⟩) jn jn] 30) = w5 at *
    intro e w6 hp
    obtain ⟨a1, c1, rfl, hr1, hB1, hwb1, hb6⟩ := HV.out _ _ _ hp
    have X6 := hid (X5.out.below hb6)
    have D6 := hid (btw D5.out hb6)
    have C6 := hid (C5.out.below hb6)
    have K6 := hid (K5.out.below hb6)
    have G6 := hid hr1
    have GB := hid hB1
    have GW := hid hwb1
    clear hp hr1 hB1 hwb1 hb6 X5 C5 K5 D4 D5
    go_wp2_with fail
    refine (eqByteS_same a1 a0 L L c1 c0 out _ G6.out (RW.out.kept D6.out)).mono ?_
    rintro e w7 ⟨rfl, q7, hw7⟩
    have b7 := hid (show Below w6.heap.size w6 w7 by rw [hw7]; exact Below.drewN' (Below.refl _ _) q7)
    have X7 := hid (X6.out.below b7.out)
    have D7 := hid (btw D6.out b7.out)
    have C7 := hid (C6.out.below b7.out)
    have K7 := hid (K6.out.below b7.out)
    have G7 := hid (G6.out.kept b7.out)
    have GW7 := hid (GW.out.below b7.out G6.out.lt)
    clear hw7 b7 X6 D6 C6 K6 G6 GW
    obtain ⟨x0, x1, x2⟩ := X7.out.cells
    have y0 := K7.out.cell (j := 0) rfl
    have y1 := K7.out.cell (j := 1) rfl
    have y2 := K7.out.cell (j := 2) rfl
    have X8 := hid (X7.out.below (below_drew _))
    have C8 := hid (C7.out.below (below_drew _))
    have K8 := hid (K7.out.below (below_drew _))
    go_wp2_with fail
    go_cut [45] (fun x v => x = .bool false ∧ Hid (Below w7.heap.size w7 v))
    case first =>
      go_region_with (first
        | (go_at_call 9; refine (toPage_any _ ka va ia kn kc vn vc jn ic p _ X8.out.hA.hk X8.out.hA.hv X8.out.hA.hi m0 m1 m2).mono ?_; rintro e w8 ⟨f0, f1, f2, rfl, -, -, -, k0, k1, k2, hb8⟩; have z0 := (K8.out.below hb8).cell (j := 0) rfl; have z1 := (K8.out.below hb8).cell (j := 1) rfl; have z2 := (K8.out.below hb8).cell (j := 2) rfl)
        | (go_at_call 12; refine (eqPage_any (fun _ => True) (fun _ => True) _ _ _ _ _ _ _ _ _ _ _ _ _ _ _ _ _ _ p p _ ((C8.out.below hb8).pgr NK.out NV.out NI.out m0 m1 m2 trivial trivial trivial).hk ((C8.out.below hb8).pgr NK.out NV.out NI.out m0 m1 m2 trivial trivial trivial).hv ((C8.out.below hb8).pgr NK.out NV.out NI.out m0 m1 m2 trivial trivial trivial).hi ((PC.mk k0 k1 k2).pgr NK.out NV.out NI.out m0 m1 m2 trivial trivial trivial).hk ((PC.mk k0 k1 k2).pgr NK.out NV.out NI.out m0 m1 m2 trivial trivial trivial).hv ((PC.mk k0 k1 k2).pgr NK.out NV.out NI.out m0 m1 m2 trivial trivial trivial).hi).mono ?_; rintro e w9 ⟨rfl, hb9⟩))
      all_goals (go_wp2_with fail; go_meet)
      all_goals exact ⟨by simp, btw (btw (below_drew _) hb8) hb9⟩
    case rest =>
      obtain ⟨rfl, HBF⟩ := hcut
      rename_i w9
      have X9 := hid (X7.out.below HBF.out)
      have D9 := hid (btw D7.out HBF.out)
      have C9 := hid (C7.out.below HBF.out)
      have K9 := hid (K7.out.below HBF.out)
      have G9 := hid (G7.out.kept HBF.out)
      have GW9 := hid (GW7.out.below HBF.out G7.out.lt)
      clear HBF X7 X8 C7 C8 K7 K8 D7 G7 GW7 x0 x1 x2 y0 y1 y2
      have y0 := K9.out.cell (j := 0) rfl
      have y1 := K9.out.cell (j := 1) rfl
      have y2 := K9.out.cell (j := 2) rfl
      go_wp2_with fail
      refine (markPage_any (fun y => y = h0 ∨ y = h1 ∨ y = h2) _ kn kn _ vn vn _ jn jn 1 _ (kw_bk C9.out.k0 (by simpa using NK.out) m0 (fun u hu => by simp at hu; obtain ⟨s, _, rfl⟩ := hu; exact ⟨s, rfl⟩) (.inl rfl)) (kw_bk C9.out.k1 (by simpa using NV.out) m1 (fun u hu => by simp at hu; obtain ⟨s, _, rfl⟩ := hu; exact ⟨s, rfl⟩) (.inr (.inl rfl))) (kw_bk C9.out.k2 (by simpa using NI.out) m2 (fun u hu => by simp at hu; obtain ⟨s, _, rfl⟩ := hu; exact ⟨s, rfl⟩) (.inr (.inr rfl))) m0 m1 m2 (by omega) (by omega)).mono ?_
      rintro e w10 ⟨rfl, hmk⟩
      have ho := hmk.only
      have X10 := hid (X9.out.only ho (fun b hb => by have := HLO.out b hb; have := HX3.out; omega))
      have D10 : Hid (Below w3.heap.size w3 w10) := D9.out.trans (ho.below D9.out.size (fun b hb hr => by have := HLO.out b hr; omega))
      have hng : ∀ x, a1 = some x → ¬ (x.block = h0 ∨ x.block = h1 ∨ x.block = h2) := by
        intro x hx hr
        have h5 := GB.out x hx
        have h6 := HLO.out _ hr
        have h7 := S45.out
        omega
      have G10 := hid (G9.out.to ho hng)
      have GW10 := hid (GW9.out.to ho (fun x hx hp => ⟨G9.out.lt x hx hp, hng x hx⟩))
      clear hmk ho hng X9 D9 C9 K9 G9 GW9 y0 y1 y2
      have hk1 : ¬ ((1 + kn + vn + jn : Nat) : Int) < 0 := by omega
      generalize 1 + kn + vn + jn = kk at *
      go_wp2_with fail
      refine (eqByteS_same a1 a0 L L c1 c0 out _ G10.out (RW.out.kept D10.out)).mono ?_
      rintro e w11 ⟨rfl, q11, hw11⟩
      have b11 := hid (show Below w10.heap.size w10 w11 by rw [hw11]; exact Below.drewN' (Below.refl _ _) q11)
      have X11 := hid (X10.out.below b11.out)
      have D11 := hid (btw D10.out b11.out)
      have G11 := hid (G10.out.kept b11.out)
      have GW11 := hid (GW10.out.below b11.out G10.out.lt)
      clear hw11 b11 X10 D10 G10 GW10
      go_wp2_with fail
      refine (mark_any a1 L c1 out 1 _ G11.out GW11.out (by omega) (by omega)).mono ?_
      rintro e w12 ⟨rfl, hm12, hg12⟩
      have M12 := hid hm12
      have ho : Only (fun y => a1.map (·.block) = some y) w11 w12 := only_of_grown hg12 (fun k e => e)
      have hrow : ∀ k, a1.map (·.block) = some k → w3.heap.size ≤ k := by
        intro k hk
        cases a1 with
        | none => cases hk
        | some x =>
          simp at hk
          rw [← hk]
          have h5 := GB.out x rfl
          have h6 := HLO.out h0 (.inl rfl)
          have h7 := S45.out
          omega
      have X12 := hid (X11.out.only ho (fun b hb => by have := hrow b hb; have := HX3.out; omega))
      have D12 : Hid (Below w3.heap.size w3 w12) := D11.out.trans (ho.below D11.out.size (fun b hb hr => by have := hrow b hr; omega))
      clear hm12 hg12 ho hrow X11 D11 G11 GW11
      go_wp2_with fail
      refine (held_any a1 L c1 1 _ M12.out (by omega) (by omega)).mono ?_
      rintro e w12' ⟨rfl, rfl⟩
      have hk2 : ¬ (1 + (L : Int)) < 0 := by omega
      have hk3 : ((1 + (L : Int)) != (1 + (L : Int))) = false := by simp
      obtain ⟨x0, x1, x2⟩ := X12.out.cells
      go_wp2_with fail
      refine (toPage_any _ ka va ia kn kc vn vc jn ic p _ X12.out.hA.hk X12.out.hA.hv X12.out.hA.hi m0 m1 m2).mono ?_
      rintro e w13 ⟨f0, f1, f2, rfl, -, -, -, k0, k1, k2, hb13⟩
      have X13 := hid (X12.out.below hb13)
      have F13 := hid hb13
      have C13 : Hid (PC w13 f0 f1 f2 p) := ⟨k0, k1, k2⟩
      clear hb13 k0 k1 k2 x0 x1 x2
      go_wp2_with fail
      refine (HI.out f0 f1 f2 _ C13.out (HE.out.below X13.out.bel HE.out.lt) (HE2.out.below X13.out.bel HE2.out.lt)).mono ?_
      intro e w14 hp
      obtain ⟨a2, c2, rfl, hr2, -, -, hb14⟩ := HV.out _ _ _ hp
      have R14 := hid hr2
      have F14 := hid (btw F13.out hb14)
      have D14 := hid (btw D12.out F14.out)
      clear hp hr2 hb14 F13 X13 C13
      go_wp2_with fail
      refine (eqByteS_same a2 a0 L L c2 c0 out _ R14.out (RW.out.kept D14.out)).mono ?_
      rintro e w15 ⟨rfl, q15, hw15⟩
      have b15 := hid (show Below w14.heap.size w14 w15 by rw [hw15]; exact Below.drewN' (Below.refl _ _) q15)
      have F15 := hid (btw F14.out b15.out)
      have B15 := hid (btw X12.out.bel F15.out)
      clear hw15 b15
      go_wp2_with fail
      refine (held_any a1 L c1 1 _ (M12.out.kept F15.out) (by omega) (by omega)).mono ?_
      rintro e w15' ⟨rfl, rfl⟩
      go_wp2
      go_ret
      exact ⟨rfl, B15.out⟩
end Go.Proofs.YtpgogpphobafoaaDoor

