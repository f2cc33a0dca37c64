/-
  spec.TreeScan.
-/
import Derived.Test.YtbaggkfgnjenoaaAllV
import Derived.Test.YtbaggkfgnjenoaaSc
import Derived.Test.YtbaggkfgnjenoaaBs
namespace Go.Proofs.Ytbaggkfgnjenoaa
open Go.RowKit
theorem wpList_append_pair1 {w : World} {ops : Array Oper} {rest : List Oper} {o : Oper} {a : Act} {Q : Exit → Act → World → Prop} (hgd : o.guard = none) (s x : Operand)
    (ho : o.op = .call { callee := .builtin .append, args := #[s, x], argTypes := #[66, 66] }) (base : Nat) (v : Value) (l : List PB) (hs : a.eval s = v) (hown : Ow w base v l)
    (g : Nat) (y z : ByteArray) (hx : a.eval x = .slice (some ⟨g, 0, none⟩) 1 1) (hB : Bk w g 69 [.string y, .string z]) (hb : l.length ≤ 1048576) (hbase : base ≤ w.heap.size)
    (h : ∀ a' n' c' w', Ow w' base (.slice a' n' c') (l ++ [(y, z)]) → w.grownBy w' v.ownBlock → ((Value.slice a' n' c').ownBlock = v.ownBlock ∨ (Value.slice a' n' c').ownBlock = some w.heap.size) → wpList Try.prog ops Q rest (a.put o.dst (.slice a' n' c')) w') : wpList Try.prog ops Q (o :: rest) a w := by
  obtain ⟨i, hi, hz, hsz, hby⟩ := info_of infoPairI
  refine wpList_append_row_at hgd s x 66 ho base 69 i _ 2 32 Try.underlying66 hi hz hsz hby rfl (by decide) v l.length (pcs l) hs hown (fun _ => True) _ 1 [.string y, .string z] hx (hB.rw (Nat.le_refl _) (by omega) (fun h => by omega) _ trivial) rfl
    (by intro u hu; simp at hu; rcases hu with rfl | rfl <;> rfl) (by unfold maxLen; omega) (by omega) hbase ?_
  intro v' w' k1 k2 k3
  obtain ⟨a', c', rfl⟩ := own_shape k1
  refine h a' _ c' w' ?_ k2 k3
  unfold Ow
  rw [List.length_append, pcs_append]
  exact k1
set_option maxHeartbeats 8000000 in
theorem specTreeScan_any (ns : List NB) (hlen : ns.length ≤ 1048576) (hsm : smallN ns) (S : Nat → Prop) (an : Option Addr) (nn cn : Nat) (lo hi : ByteArray) (most : Int) (back : Bool) (w : World) (hN : Nr w S (.slice an nn cn) ns) :
    Calls Try.prog 31 #[.agg #[.slice an nn cn], .agg #[.string lo, .string hi], .int .i64 most, .bool back] w fun e w' => OwPost (scV (alV ns) lo hi most back) w e w' := by
  have HLS := hid (And.intro hlen hsm)
  have h1 := hN.len.2.1
  have h2 := hN.len.2.2
  have HBU : Hid (Below w.heap.size w (((w.alloc (.cells #[.slice an nn cn] 63)).alloc (.cells #[.string lo, .string hi] 29)).alloc (.cells #[] 69))) := below_new (below_new (below_new (Below.refl _ _)))
  have H0 := hid (hN.below HBU.out)
  have K0 : Hid (Bk (((w.alloc (.cells #[.slice an nn cn] 63)).alloc (.cells #[.string lo, .string hi] 29)).alloc (.cells #[] 69)) w.heap.size 63 [.slice an nn cn]) := ((Bk.new w 63 [.slice an nn cn]).alloc _).alloc _
  have KR : Hid (Bk (((w.alloc (.cells #[.slice an nn cn] 63)).alloc (.cells #[.string lo, .string hi] 29)).alloc (.cells #[] 69)) (w.heap.size + 1) 29 [.string lo, .string hi]) := by
    have := (Bk.new (w.alloc (.cells #[.slice an nn cn] 63)) 29 [.string lo, .string hi]).alloc (.cells #[] 69)
    show Bk _ _ _ _
    simpa using this
  have HO : Hid (Ow (((w.alloc (.cells #[.slice an nn cn] 63)).alloc (.cells #[.string lo, .string hi] 29)).alloc (.cells #[] 69)) (w.heap.size + 2) (.slice (some ⟨w.heap.size + 2, 0, none⟩) 0 0) []) := by
    have := ow_new ((w.alloc (.cells #[.slice an nn cn] 63)).alloc (.cells #[.string lo, .string hi] 29)) (w.heap.size + 2) (by simp)
    show Ow _ _ _ _
    simpa using this
  have HUZ : Hid (w.heap.size + 2 ≤ (((w.alloc (.cells #[.slice an nn cn] 63)).alloc (.cells #[.string lo, .string hi] 29)).alloc (.cells #[] 69)).heap.size) := by show _ ≤ _; simp
  clear hN hlen hsm
  go_enter Try.func31, Try.ntmps31
  have c0 := K0.out.cell (j := 0) rfl
  go_wp2_with fail
  refine (specTreeAll_any ns HLS.out.1 HLS.out.2 S an nn cn _ H0.out).mono ?_
  generalize ((w.alloc (.cells #[.slice an nn cn] 63)).alloc (.cells #[.string lo, .string hi] 29)).alloc (.cells #[] 69) = U at *
  rintro e w1 ⟨vl, rfl, hO, hb⟩
  obtain ⟨a, n, c, hv, hn⟩ := hO.shape'
  subst hv
  have hnl : n ≤ 200 := by rw [hn.out]; exact alV_len ns
  have HNL : Hid ((alV ns).length = n) := hn.out.symm
  obtain ⟨B, hB⟩ : ∃ B, B = w.heap.size + 2 := ⟨_, rfl⟩
  have HBL : Hid (w.heap.size < B ∧ w.heap.size + 1 < B) := ⟨by omega, by omega⟩
  have HB1 : Hid (Below B U w1) := by rw [hB]; exact hb.mono HUZ.out
  have HO1 : Hid (Ow w1 B (.slice (some ⟨w.heap.size + 2, 0, none⟩) 0 0) []) := by rw [hB]; exact HO.out.kept hb
  have HP1 : Hid (Pr w1 (fun b => (Value.slice (some ⟨w.heap.size + 2, 0, none⟩) 0 0).ownBlock ≠ some b) (.slice a n c) (alV ns)) := hO.pr (fun k _ h1 _ e => by
    have h3 := (World.ownsRow.lt HO.out k e).2
    omega)
  have KR1 := hid (KR.out.below hb)
  have hnc := (Rw.len HP1.out).2
  rw [← hB] at HUZ
  clear hb hO c0 H0 K0 KR HO hB hn
  generalize hll : alV ns = l at *
  have HLE := hid hll
  clear hll
  generalize hgz : w.heap.size + 2 = z2 at *
  clear hgz
  go_wp2_with fail
  go_loopw [9, 18] (fun x i wr => ∃ (j : Nat) (av : Option Addr) (nv cv : Nat), j ≤ n ∧ i = .int .i64 j ∧ x = .slice av nv cv ∧ Hid (nv = (scJ l lo hi most back j).length) ∧ Hid (Ow wr B (.slice av nv cv) (scJ l lo hi most back j)) ∧ Hid (Pr wr (fun b => (Value.slice av nv cv).ownBlock ≠ some b) (.slice a n c) l) ∧ Hid (Bk wr (w.heap.size + 1) 29 [.string lo, .string hi]) ∧ Hid (Below B U wr)) (fun _ i _ => n - (intOf i).toNat)
  case atStart => exact ⟨0, _, 0, 0, Nat.zero_le _, rfl, rfl, by show _ = _; simp [scJ], by show Ow _ _ _ _; simpa [scJ] using HO1.out, HP1.out, KR1.out, HB1.out⟩
  case round =>
    obtain ⟨j, av, nv, cv, hj, rfl, rfl, HNV, HO2, HP2, KR2, HB2⟩ := hrel
    by_cases hlt : j < n
    · have hlt' : (j : Int) < (n : Int) := by omega
      have hj0 : (0 : Int) ≤ (j : Int) := by omega
      have hnv : nv ≤ 200 := by rw [HNV.out]; have := scJ_le l lo hi most back j; have := HNL.out; omega
      have hcv := (Rw.len (HO2.out.pr (S := fun _ => True) (fun _ _ _ _ => trivial))).2
      obtain ⟨b, off, hab, _, _, _⟩ := Rw.at HP2.out (by omega)
      subst hab
      obtain ⟨d0, d1⟩ := Pr.cells HP2.out (i := j) (by have := HNL.out; omega)
      cases back with
      | false =>
        have HPJ : Hid (pAtB (dirL false l) j = ((pAtB l j).1, (pAtB l j).2)) := rfl
        have hb := below_new (o := .cells #[.string (pAtB l j).1, .string (pAtB l j).2] 69) (w := wr) (Below.refl _ _)
        have HO3 := hid (HO2.out.kept hb)
        have HP3 := hid (HP2.out.below hb)
        have KR3 := hid (KR2.out.below hb)
        have KP3 := hid (Bk.new wr 69 [.string (pAtB l j).1, .string (pAtB l j).2])
        have HB3 := hid (Below.then' HB2.out hb HUZ.out)
        clear hb HO2 HP2 KR2 HB2
        generalize (pAtB l j).1 = kk at *
        generalize (pAtB l j).2 = vv at *
        have HD : Hid (scJ l lo hi most false (j + 1) = if ((scJ l lo hi most false j).length : Int) < most ∧ rHas lo hi kk = true then scJ l lo hi most false j ++ [(kk, vv)] else scJ l lo hi most false j) := by
          have := scJ_step l lo hi most false j (by have := HNL.out; omega)
          rw [HPJ.out] at this
          exact this
        by_cases hm : (nv : Int) < most
        · have r0 := KR3.out.cell (j := 0) rfl
          have r1 := KR3.out.cell (j := 1) rfl
          have p0 := KP3.out.cell (j := 0) rfl
          have HRH := hid (fun v => specRangeHas_any lo hi kk v)
          simp only [rng] at HRH
          go_wp2_with fail
          refine (HRH.out _).mono ?_
          rintro e w5 ⟨rfl, hb⟩
          have HO5 := hid (HO3.out.kept hb)
          have HP5 := hid (HP3.out.below hb)
          have KR5 := hid (KR3.out.below hb)
          have KP5 := hid (KP3.out.below hb)
          have HB5 := hid (Below.then' HB3.out hb HUZ.out)
          have HG5 := hid hb.size
          clear hb r0 r1 p0 HO3 HP3 KR3 KP3 HB3
          cases hh : rHas lo hi kk with
          | false =>
            have HD2 : Hid (scJ l lo hi most false (j + 1) = scJ l lo hi most false j) := by have := HD.out; rw [hh] at this; show _ = _; simpa using this
            clear hh
            go_wp2
            go_roundw
            case rel => exact ⟨j + 1, av, nv, cv, by omega, by go_num, rfl, by rw [HD2.out]; exact HNV.out, by rw [HD2.out]; exact HO5.out, HP5.out, KR5.out, HB5.out⟩
            case measure => simp [intOf]; omega
          | true =>
            have HD2 : Hid (scJ l lo hi most false (j + 1) = scJ l lo hi most false j ++ [(kk, vv)]) := by
              have := HD.out
              rw [hh, if_pos ⟨by rw [← HNV.out]; exact hm, rfl⟩] at this
              exact this
            clear hh
            have p0 := KP5.out.cell (j := 0) rfl
            have p1 := KP5.out.cell (j := 1) rfl
            have hb := below_new (o := .cells #[.string kk, .string vv] 69) (w := w5) (Below.refl _ _)
            have KS6 := hid (Bk.new w5 69 [.string kk, .string vv])
            have HO6 := hid (HO5.out.kept hb)
            have HP6 := hid (HP5.out.below hb)
            have KR6 := hid (KR5.out.below hb)
            have HB6 := hid (Below.then' HB5.out hb HUZ.out)
            clear hb HO5 HP5 KR5 KP5 HB5
            go_wp2_with (at_builtin; refine wpList_append_pair1 rfl _ _ rfl B _ (scJ l lo hi most false j) rfl HO6.out w5.heap.size kk vv rfl KS6.out ?q1 ?q2 ?_)
            case q1 => have := scJ_le l lo hi most false j; have := HNL.out; omega
            case q2 => have h1 := HB6.out.size; have h2 := HUZ.out; omega
            intro a7 n7 c7 w7 hO7 hg7 hown7
            have HB7 : Hid (Below B U w7) := HB6.out.trans (grown_belowB HO6.out hg7 (by have h1 := HB6.out.size; have h2 := HUZ.out; omega))
            have hon := only_of_grown hg7 (R := fun b => (Value.slice av nv cv).ownBlock = some b) (fun k hk => hk)
            have HP7 : Hid (Pr w7 (fun b => (Value.slice a7 n7 c7).ownBlock ≠ some b) (.slice (some ⟨b, off, none⟩) n c) l) := by
              refine Rw.mono (R := fun b => (Value.slice a7 n7 c7).ownBlock ≠ some b) (Rw.to (S := fun b => (Value.slice av nv cv).ownBlock ≠ some b ∧ b < (w5.alloc (.cells #[.string kk, .string vv] 69)).heap.size) (Rw.mono HP6.out (fun b h1 h2 => ⟨h1, h2⟩)) hon (fun b hb _ hr => hb.1 hr)) (fun b hb _ => ?_)
              rcases hown7 with e | e
              · rw [e]; exact hb.1
              · rw [e]; intro h; cases h; exact absurd hb.2 (by simp)
            have KR7 : Hid (Bk w7 (w.heap.size + 1) 29 [.string lo, .string hi]) := KR6.out.to hon (by
              intro h
              have := World.ownsRow.lt HO6.out _ h
              have := HBL.out
              omega)
            have HO7 : Hid (Ow w7 B (.slice a7 n7 c7) (scJ l lo hi most false j ++ [(kk, vv)])) := hO7
            obtain ⟨_, _, _, hsh, HN7⟩ := hO7.shape'
            cases hsh
            clear hO7 hg7 hown7 hon HO6 HP6 KR6 HB6 KS6 p0 p1
            generalize hdj : scJ l lo hi most false j ++ [(kk, vv)] = dj at *
            clear hdj
            go_wp2
            go_roundw
            case rel => exact ⟨j + 1, a7, n7, c7, by omega, by go_num, rfl, by rw [HD2.out]; exact HN7.out, by rw [HD2.out]; exact HO7.out, HP7.out, KR7.out, HB7.out⟩
            case measure => simp [intOf]; omega
        · have HD2 : Hid (scJ l lo hi most false (j + 1) = scJ l lo hi most false j) := by
            have := HD.out
            rw [if_neg (by rw [← HNV.out]; exact fun h => hm h.1)] at this
            exact this
          go_wp2
          go_roundw
          case rel => exact ⟨j + 1, av, nv, cv, by omega, by go_num, rfl, by rw [HD2.out]; exact HNV.out, by rw [HD2.out]; exact HO3.out, HP3.out, KR3.out, HB3.out⟩
          case measure => simp [intOf]; omega
      | true =>
        have HPJ : Hid (pAtB (dirL true l) j = ((pAtB l (n - 1 - j)).1, (pAtB l (n - 1 - j)).2)) := by
          show _ = _
          rw [dirL_at l j (by have := HNL.out; omega), HNL.out]
        have hjn : (n : Int) - 1 - (j : Int) = ((n - 1 - j : Nat) : Int) := by omega
        obtain ⟨f0, f1⟩ := Pr.cells HP2.out (i := n - 1 - j) (by have := HNL.out; omega)
        have hq : ((n - 1 - j : Nat) : Int) < (n : Int) := by omega
        generalize n - 1 - j = q at *
        have hb := below_new (o := .cells #[.string (pAtB l j).1, .string (pAtB l j).2] 69) (w := wr) (Below.refl _ _)
        have KP2 := hid (Bk.new wr 69 [.string (pAtB l j).1, .string (pAtB l j).2])
        have g0 : (wr.alloc (.cells #[.string (pAtB l j).1, .string (pAtB l j).2] 69)).cell? ⟨b, off + q * 2, none⟩ = some (.string (pAtB l q).1) := by rw [hb.cell (p := ⟨b, off + q * 2, none⟩) (block_lt f0)]; exact f0
        have g1 : (wr.alloc (.cells #[.string (pAtB l j).1, .string (pAtB l j).2] 69)).cell? ⟨b, off + q * 2 + 1, none⟩ = some (.string (pAtB l q).2) := by rw [hb.cell (p := ⟨b, off + q * 2 + 1, none⟩) (block_lt f1)]; exact f1
        have hbs := below_new (o := .cells #[.string (pAtB l q).1, .string (pAtB l q).2] 69) (w := wr) (Below.refl _ _)
        have HO3 := hid (HO2.out.kept hbs)
        have HP3 := hid (HP2.out.below hbs)
        have KR3 := hid (KR2.out.below hbs)
        have KP3 := hid (Bk.new wr 69 [.string (pAtB l q).1, .string (pAtB l q).2])
        have HB3 := hid (Below.then' HB2.out hbs HUZ.out)
        have w0 := KP2.out.cell (j := 0) rfl
        have w1' := KP2.out.cell (j := 1) rfl
        have z0 := KP2.out.free 0
        have z1 := KP2.out.free 1
        clear hb hbs HO2 HP2 KR2 HB2 KP2 f0 f1
        generalize (pAtB l j).1 = k0 at *
        generalize (pAtB l j).2 = v0 at *
        generalize (pAtB l q).1 = kk at *
        generalize (pAtB l q).2 = vv at *
        have HD : Hid (scJ l lo hi most true (j + 1) = if ((scJ l lo hi most true j).length : Int) < most ∧ rHas lo hi kk = true then scJ l lo hi most true j ++ [(kk, vv)] else scJ l lo hi most true j) := by
          have := scJ_step l lo hi most true j (by have := HNL.out; omega)
          rw [HPJ.out] at this
          exact this
        by_cases hm : (nv : Int) < most
        · have r0 := KR3.out.cell (j := 0) rfl
          have r1 := KR3.out.cell (j := 1) rfl
          have p0 := KP3.out.cell (j := 0) rfl
          have HRH := hid (fun v => specRangeHas_any lo hi kk v)
          simp only [rng] at HRH
          go_wp2_with fail
          refine (HRH.out _).mono ?_
          rintro e w5 ⟨rfl, hb⟩
          have HO5 := hid (HO3.out.kept hb)
          have HP5 := hid (HP3.out.below hb)
          have KR5 := hid (KR3.out.below hb)
          have KP5 := hid (KP3.out.below hb)
          have HB5 := hid (Below.then' HB3.out hb HUZ.out)
          have HG5 := hid hb.size
          clear hb r0 r1 p0 HO3 HP3 KR3 KP3 HB3
          cases hh : rHas lo hi kk with
          | false =>
            have HD2 : Hid (scJ l lo hi most true (j + 1) = scJ l lo hi most true j) := by have := HD.out; rw [hh] at this; show _ = _; simpa using this
            clear hh
            go_wp2
            go_roundw
            case rel => exact ⟨j + 1, av, nv, cv, by omega, by go_num, rfl, by rw [HD2.out]; exact HNV.out, by rw [HD2.out]; exact HO5.out, HP5.out, KR5.out, HB5.out⟩
            case measure => simp [intOf]; omega
          | true =>
            have HD2 : Hid (scJ l lo hi most true (j + 1) = scJ l lo hi most true j ++ [(kk, vv)]) := by
              have := HD.out
              rw [hh, if_pos ⟨by rw [← HNV.out]; exact hm, rfl⟩] at this
              exact this
            clear hh
            have p0 := KP5.out.cell (j := 0) rfl
            have p1 := KP5.out.cell (j := 1) rfl
            have hb := below_new (o := .cells #[.string kk, .string vv] 69) (w := w5) (Below.refl _ _)
            have KS6 := hid (Bk.new w5 69 [.string kk, .string vv])
            have HO6 := hid (HO5.out.kept hb)
            have HP6 := hid (HP5.out.below hb)
            have KR6 := hid (KR5.out.below hb)
            have HB6 := hid (Below.then' HB5.out hb HUZ.out)
            clear hb HO5 HP5 KR5 KP5 HB5
            go_wp2_with (at_builtin; refine wpList_append_pair1 rfl _ _ rfl B _ (scJ l lo hi most true j) rfl HO6.out w5.heap.size kk vv rfl KS6.out ?q1 ?q2 ?_)
            case q1 => have := scJ_le l lo hi most true j; have := HNL.out; omega
            case q2 => have h1 := HB6.out.size; have h2 := HUZ.out; omega
            intro a7 n7 c7 w7 hO7 hg7 hown7
            have HB7 : Hid (Below B U w7) := HB6.out.trans (grown_belowB HO6.out hg7 (by have h1 := HB6.out.size; have h2 := HUZ.out; omega))
            have hon := only_of_grown hg7 (R := fun b => (Value.slice av nv cv).ownBlock = some b) (fun k hk => hk)
            have HP7 : Hid (Pr w7 (fun b => (Value.slice a7 n7 c7).ownBlock ≠ some b) (.slice (some ⟨b, off, none⟩) n c) l) := by
              refine Rw.mono (R := fun b => (Value.slice a7 n7 c7).ownBlock ≠ some b) (Rw.to (S := fun b => (Value.slice av nv cv).ownBlock ≠ some b ∧ b < (w5.alloc (.cells #[.string kk, .string vv] 69)).heap.size) (Rw.mono HP6.out (fun b h1 h2 => ⟨h1, h2⟩)) hon (fun b hb _ hr => hb.1 hr)) (fun b hb _ => ?_)
              rcases hown7 with e | e
              · rw [e]; exact hb.1
              · rw [e]; intro h; cases h; exact absurd hb.2 (by simp)
            have KR7 : Hid (Bk w7 (w.heap.size + 1) 29 [.string lo, .string hi]) := KR6.out.to hon (by
              intro h
              have := World.ownsRow.lt HO6.out _ h
              have := HBL.out
              omega)
            have HO7 : Hid (Ow w7 B (.slice a7 n7 c7) (scJ l lo hi most true j ++ [(kk, vv)])) := hO7
            obtain ⟨_, _, _, hsh, HN7⟩ := hO7.shape'
            cases hsh
            clear hO7 hg7 hown7 hon HO6 HP6 KR6 HB6 KS6 p0 p1
            generalize hdj : scJ l lo hi most true j ++ [(kk, vv)] = dj at *
            clear hdj
            go_wp2
            go_roundw
            case rel => exact ⟨j + 1, a7, n7, c7, by omega, by go_num, rfl, by rw [HD2.out]; exact HN7.out, by rw [HD2.out]; exact HO7.out, HP7.out, KR7.out, HB7.out⟩
            case measure => simp [intOf]; omega
        · have HD2 : Hid (scJ l lo hi most true (j + 1) = scJ l lo hi most true j) := by
            have := HD.out
            rw [if_neg (by rw [← HNV.out]; exact fun h => hm h.1)] at this
            exact this
          go_wp2
          go_roundw
          case rel => exact ⟨j + 1, av, nv, cv, by omega, by go_num, rfl, by rw [HD2.out]; exact HNV.out, by rw [HD2.out]; exact HO3.out, HP3.out, KR3.out, HB3.out⟩
          case measure => simp [intOf]; omega
    · have hlt' : ¬ (j : Int) < (n : Int) := by omega
      have hjn : j = n := by omega
      have HE : Hid (scJ l lo hi most back j = scV l lo hi most back) := by show _ = _; rw [hjn, ← HNL.out]; exact scJ_end l lo hi most back
      go_wp2
      go_ret
      refine ⟨_, rfl, ?_, ?_⟩
      · rw [HLE.out, ← HE.out]; exact own_mono HO2.out (by have := HBL.out; omega)
      · exact HBU.out.trans (HB2.out.mono (by have := HBL.out; omega))
end Go.Proofs.Ytbaggkfgnjenoaa

