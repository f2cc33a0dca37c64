/-
  impl.TreeScan.
-/
import Derived.Test.YtbaggkfgnjenoaaRv
import Derived.Test.YtbaggkfgnjenoaaAllV
namespace Go.Proofs.Ytbaggkfgnjenoaa
open Go.RowKit
theorem filt_rev (lo hi : ByteArray) (l : List PB) (most : Int) : scV l lo hi most true = (hasF lo hi l).reverse.take most.toNat := by
  unfold scV dirL hasF
  simp
theorem pAtB_rev {f : List PB} {n x : Nat} (hn : n = f.length) (hx : x < n) : pAtB f.reverse x = pAtB f (n - 1 - x) := by
  rw [pAtB_lt (by simp; omega), pAtB_lt (by omega)]
  simp [hn]
theorem Rp.take {w : World} {base : Nat} {a : Option Addr} {m c : Nat} {f : List PB} (h : Rp w base (.slice a m c) f) {q : Nat} (hq : q ≤ m) : Rp w base (.slice a q c) (f.take q) := by
  obtain ⟨a', m', c', e, h1, h2, h3, h4, h5⟩ := h
  cases e
  refine ⟨a, q, c, rfl, by rw [List.length_take]; omega, by omega, h3, h4, fun hp => ?_⟩
  obtain ⟨b, h6, h7, T, xs, h8, h9⟩ := h5 (by omega)
  exact ⟨b, h6, h7, T, xs, h8, fun x hx => by rw [pAtB_take hx]; exact h9 x (by omega)⟩
theorem own_mono_rp {w : World} {base base' : Nat} {v : Value} {f : List PB} (h : Rp w base v f) (hb : base' ≤ base) : Rp w base' v f := by
  obtain ⟨a, m, c, h1, h2, h3, h4, h5, h6⟩ := h
  refine ⟨a, m, c, h1, h2, h3, h4, h5, fun hp => ?_⟩
  obtain ⟨b, h7, h8, h9⟩ := h6 hp
  exact ⟨b, h7, Nat.le_trans hb h8, h9⟩
set_option maxHeartbeats 4000000 in
/-- Rising pairs of one's own, scanned. -/
theorem scanPairs_any (a : Option Addr) (n c base : Nat) (l : List PB) (lo hi : ByteArray) (most : Int) (back : Bool) (w : World) (hO : Ow w base (.slice a n c) l) (hbase : base ≤ w.heap.size) (hnl : n ≤ 200) (hm : -9223372036854775808 ≤ most ∧ most ≤ 9223372036854775807) :
    Calls Try.prog 73 #[.slice a n c, .agg #[.string lo, .string hi], .int .i64 most, .bool back] w fun e w' => RpPost base (scV l lo hi most back) w e w' := by
  have HB1' : Hid (Below w.heap.size w (w.alloc (.cells #[.string lo, .string hi] 29))) := below_new (Below.refl _ _)
  have HB1 : Hid (Below base w (w.alloc (.cells #[.string lo, .string hi] 29))) := HB1'.out.mono hbase
  have HO1 := hid (hO.kept HB1'.out)
  have KR1 := hid (Bk.new w 29 [.string lo, .string hi])
  have HS1 : Hid (base ≤ (w.alloc (.cells #[.string lo, .string hi] 29)).heap.size) := Nat.le_trans hbase HB1'.out.size
  have HRB : Hid (∀ b, a = some ⟨b, 0, none⟩ → w.heap.size ≠ b) := by
    intro b e
    subst e
    have := (World.ownsRow.lt hO b rfl).2
    omega
  clear hO hbase
  by_cases hm1 : most < 1
  · have HE : Hid (scV l lo hi most back = []) := by show _ = _; rw [scV, show most.toNat = 0 by omega]; simp
    go_enter Try.func73, Try.ntmps73
    go_wp2
    go_ret
    exact ⟨none, 0, 0, rfl, by rw [HE.out]; exact (ow_nil _ _).rp, HB1.out⟩
  have hm1' : ¬ most < 1 := hm1
  go_enter Try.func73, Try.ntmps73
  go_wp2_with fail
  refine (delF_any a n c w.heap.size base l lo hi _ HO1.out HS1.out KR1.out HRB.out hnl).mono ?_
  generalize w.alloc (.cells #[.string lo, .string hi] 29) = w1 at *
  rintro e w2 ⟨a2, n2, c2, rfl, hrp, hb⟩
  have HB2 := hid (HB1.out.trans hb)
  have HR2 := hid hrp
  obtain ⟨_, _, _, hsh, hn2, hnc2, hc2, _, hro⟩ := hrp
  cases hsh
  have HN2 := hid hn2
  have hn2' : n2 ≤ 200 := by
    rw [hn2]
    refine Nat.le_trans (List.length_filter_le _ _) ?_
    have := (Rw.len (HO1.out.pr (S := fun _ => True) (fun _ _ _ _ => trivial))).1
    omega
  have HRO := hid hro
  have HSZ := hid hb.size
  clear hb hro hn2 KR1 HO1 HB1 HB1' HRB
  obtain ⟨q, hq⟩ : ∃ q : Nat, most = (q : Int) := ⟨most.toNat, by omega⟩
  subst hq
  have HQ : Hid (∀ f : List PB, (f.take (Int.toNat (q : Int))) = f.take q) := by
    intro f
    rw [Int.toNat_natCast]
  cases back with
  | false =>
    have HE : Hid (scV l lo hi (q : Int) false = (hasF lo hi l).take q) := by
      show _ = _
      rw [← HQ.out]
      rfl
    by_cases hqn : q ≤ n2
    · have hqn' : (q : Int) ≤ (n2 : Int) := by omega
      have hqc : (q : Int) ≤ (c2 : Int) := by omega
      have HR3 := hid (HR2.out.take hqn)
      go_wp2
      go_ret
      exact ⟨_, _, _, rfl, by rw [HE.out]; exact HR3.out, HB2.out⟩
    · have hqn' : ¬ (q : Int) ≤ (n2 : Int) := by omega
      have hqn'' : (n2 : Int) ≤ (q : Int) := by omega
      have HE2 : Hid ((hasF lo hi l).take q = hasF lo hi l) := List.take_of_length_le (by rw [← HN2.out]; omega)
      have hcc : (n2 : Int) ≤ (c2 : Int) := by omega
      go_wp2
      go_ret
      exact ⟨_, _, _, rfl, by rw [HE.out, HE2.out]; exact HR2.out, HB2.out⟩
  | true =>
    have HE : Hid (scV l lo hi (q : Int) true = (hasF lo hi l).reverse.take q) := by
      show _ = _
      rw [filt_rev, HQ.out]
    have HRV : Hid (Calls Try.prog 106 #[.slice a2 n2 c2] w2 fun e w' => e = .returned (.tuple #[]) ∧ Rp w' base (.slice a2 n2 c2) (hasF lo hi l).reverse ∧ Below base w2 w') := by
      show Calls _ _ _ _ _
      rcases Nat.eq_zero_or_pos n2 with h0 | hp
      · subst h0
        refine (rev0_any a2 c2 w2).mono ?_
        rintro e w3 ⟨rfl, rfl⟩
        have : hasF lo hi l = [] := List.eq_nil_of_length_eq_zero HN2.out.symm
        refine ⟨rfl, ?_, Below.refl _ _⟩
        rw [this]
        have h3 := HR2.out
        rw [this] at h3
        exact h3
      · obtain ⟨b, rfl, hbb, hrr⟩ := HRO.out hp
        refine (rev_any b n2 c2 _ w2 hrr hp hn2' hnc2 hc2).mono ?_
        rintro e w3 ⟨rfl, hr3, ho3⟩
        refine ⟨rfl, ⟨_, n2, c2, rfl, by rw [List.length_reverse]; exact HN2.out, hnc2, hc2, fun h => by (cases h), fun _ => ⟨b, rfl, hbb, ?_⟩⟩, ho3.below (by have h1 := HS1.out; have h2 := HSZ.out; omega) (fun y h1 h2 => by omega)⟩
        obtain ⟨T, xs, g1, g2⟩ := hr3
        exact ⟨T, xs, g1, fun x hx => by rw [pAtB_rev HN2.out hx]; exact g2 x hx⟩
    go_wp2_with fail
    refine HRV.out.mono ?_
    rintro e w3 ⟨rfl, hr3, hb3⟩
    have HB3 := hid (HB2.out.trans hb3)
    have HR3 := hid hr3
    clear hr3 hb3 HRV HRO
    by_cases hqn : q ≤ n2
    · have hqn' : (q : Int) ≤ (n2 : Int) := by omega
      have hqc : (q : Int) ≤ (c2 : Int) := by omega
      have HR4 := hid (HR3.out.take hqn)
      go_wp2
      go_ret
      exact ⟨_, _, _, rfl, by rw [HE.out]; exact HR4.out, HB3.out⟩
    · have hqn' : ¬ (q : Int) ≤ (n2 : Int) := by omega
      have hqn'' : (n2 : Int) ≤ (q : Int) := by omega
      have HE2 : Hid ((hasF lo hi l).reverse.take q = (hasF lo hi l).reverse) := List.take_of_length_le (by rw [List.length_reverse, ← HN2.out]; omega)
      have hcc : (n2 : Int) ≤ (c2 : Int) := by omega
      go_wp2
      go_ret
      exact ⟨_, _, _, rfl, by rw [HE.out, HE2.out]; exact HR3.out, HB3.out⟩
theorem only_of_below' {B : Nat} {w w' : World} (h : Below B w w') (_hB : B ≤ w.heap.size) : Only (fun y => B ≤ y) w w' := ⟨h.os, h.tape, h.output, h.size, fun b hb hn => h.block b (by omega)⟩
set_option maxHeartbeats 4000000 in
theorem implTreeScan_any (S : Nat → Prop) (an : Option Addr) (nn cn : Nat) (ns : List NB) (lo hi : ByteArray) (most : Int) (back : Bool) (w : World) (hN : Nr w S (.slice an nn cn) ns) (hm : -9223372036854775808 ≤ most ∧ most ≤ 9223372036854775807) :
    Calls Try.prog 30 #[.agg #[.slice an nn cn], .agg #[.string lo, .string hi], .int .i64 most, .bool back] w fun e w' => RpPost w.heap.size (scV (alV ns) lo hi most back) w e w' := by
  have h1 := hN.len.2.1
  have h2 := hN.len.2.2
  have HBU : Hid (Below w.heap.size w ((w.alloc (.cells #[.slice an nn cn] 63)).alloc (.cells #[.string lo, .string hi] 29))) := below_new (below_new (Below.refl _ _))
  have H0 := hid (hN.below HBU.out)
  have K0 : Hid (Bk ((w.alloc (.cells #[.slice an nn cn] 63)).alloc (.cells #[.string lo, .string hi] 29)) w.heap.size 63 [.slice an nn cn]) := (Bk.new w 63 [.slice an nn cn]).alloc _
  have R0 : Hid (Bk ((w.alloc (.cells #[.slice an nn cn] 63)).alloc (.cells #[.string lo, .string hi] 29)) (w.heap.size + 1) 29 [.string lo, .string hi]) := by
    have := Bk.new (w.alloc (.cells #[.slice an nn cn] 63)) 29 [.string lo, .string hi]
    show Bk _ _ _ _
    simpa using this
  have HUZ : Hid (w.heap.size + 1 < ((w.alloc (.cells #[.slice an nn cn] 63)).alloc (.cells #[.string lo, .string hi] 29)).heap.size) := R0.out.lt
  clear hN
  go_enter Try.func30, Try.ntmps30
  go_wp2_with fail
  generalize (w.alloc (.cells #[.slice an nn cn] 63)).alloc (.cells #[.string lo, .string hi] 29) = U at *
  refine wp_region_noPanic ?_
  refine wp_region_held_drew (S := fun v => v.cell? ⟨w.heap.size, 0, none⟩ = some (.slice an nn cn) ∧ v.cell? ⟨w.heap.size + 1, 0, none⟩ = some (.string lo) ∧ v.cell? ⟨w.heap.size + 1, 1, none⟩ = some (.string hi)) (by kernel_rfl) (⟨(K0.out.below (below_drew _)).cell (j := 0) rfl, (R0.out.below (below_drew _)).cell (j := 0) rfl, (R0.out.below (below_drew _)).cell (j := 1) rfl⟩) (fun hHeld => ?_)
  simp only [List.size_toArray, List.length_cons, List.length_nil, Array.replicate_succ, Array.replicate_zero, Nat.reduceAdd, List.push_toArray, List.nil_append, List.cons_append]
  refine wpAnyH_take (i := 0) (v := (.agg #[.slice an nn cn])) rfl (by kernel_rfl) (by kernel_rfl) (by kernel_rfl) (fun _ _ _ h => h) (Or.inl ⟨by rfl, ?_⟩) (by assumption) ?_
  · intro w hSw
    (try dsimp only at hSw)
    go_simp
  try simp only [List.getElem_toArray]
  try simp only [List.getElem_cons_succ]
  try simp only [List.getElem_cons_zero]
  try simp only [Act.put]
  try simp only [List.setIfInBounds_toArray]
  try simp only [List.set_cons_succ]
  try simp only [List.set_cons_zero]
  refine wpAnyH_take (i := 2) (v := (.agg #[.string lo, .string hi])) rfl (by kernel_rfl) (by kernel_rfl) (by kernel_rfl) (fun _ _ _ h => h) (Or.inl ⟨by rfl, ?_⟩) (by assumption) ?_
  · intro w hSw
    (try dsimp only at hSw)
    go_simp
  try simp only [List.getElem_toArray]
  try simp only [List.getElem_cons_succ]
  try simp only [List.getElem_cons_zero]
  try simp only [Act.put]
  try simp only [List.setIfInBounds_toArray]
  try simp only [List.set_cons_succ]
  try simp only [List.set_cons_zero]
  refine wpAnyH_take (i := 3) (v := (.int .i64 most)) rfl (by kernel_rfl) (by kernel_rfl) (by kernel_rfl) (fun _ _ _ h => h) (Or.inl ⟨by rfl, ?_⟩) (by assumption) ?_
  · intro w hSw
    (try dsimp only at hSw)
    go_simp
  try simp only [List.getElem_toArray]
  try simp only [List.getElem_cons_succ]
  try simp only [List.getElem_cons_zero]
  try simp only [Act.put]
  try simp only [List.setIfInBounds_toArray]
  try simp only [List.set_cons_succ]
  try simp only [List.set_cons_zero]
  refine wpAnyH_take (i := 4) (v := (.bool back)) rfl (by kernel_rfl) (by kernel_rfl) (by kernel_rfl) (fun _ _ _ h => h) (Or.inl ⟨by rfl, ?_⟩) (by assumption) ?_
  · intro w hSw
    (try dsimp only at hSw)
    go_simp
  try simp only [List.getElem_toArray]
  try simp only [List.getElem_cons_succ]
  try simp only [List.getElem_cons_zero]
  try simp only [Act.put]
  try simp only [List.setIfInBounds_toArray]
  try simp only [List.set_cons_succ]
  try simp only [List.set_cons_zero]
  refine wpAnyH_ready (rs := [1]) (by kernel_rfl) (by simp) ?_
  refine AllReadyH.cons rfl (fun K1 hK => ?_) AllReadyH.nil
  go_simp
  refine (implTreeAll_any S an nn cn ns _ (H0.out.below (below_drew _))).mono ?_
  rintro r w1 ⟨vl, rfl, hO, hb⟩
  obtain ⟨a, n, c, hv, hn⟩ := hO.shape'
  subst hv
  have hnl : n ≤ 200 := by rw [hn.out]; exact alV_len ns
  have K1' := hid ((K0.out.below (below_drew _)).below hb)
  have R1' := hid ((R0.out.below (below_drew _)).below hb)
  have B1' := hid (HBU.out.trans (((below_drew U).trans hb).mono HBU.out.size))
  have O1' : Hid (Ow w1 U.heap.size (.slice a n c) (alV ns)) := hO
  have S1' : Hid (U.heap.size ≤ w1.heap.size) := hb.size
  clear hO hb hn
  go_wp2_with fail
  refine hK.out _ _ ?_ (fun hHeld => ?_)
  · exact ⟨K1'.out.cell (j := 0) rfl, R1'.out.cell (j := 0) rfl, R1'.out.cell (j := 1) rfl⟩
  clear hK K1
  try simp only [List.getElem_toArray]
  try simp only [List.getElem_cons_succ]
  try simp only [List.getElem_cons_zero]
  try simp only [Act.put]
  try simp only [List.setIfInBounds_toArray]
  try simp only [List.set_cons_succ]
  try simp only [List.set_cons_zero]
  refine wpAnyH_ready (rs := [5]) (by kernel_rfl) (by simp) ?_
  refine AllReadyH.cons rfl (fun K1 hK => ?_) AllReadyH.nil
  go_simp
  refine (scanPairs_any a n c U.heap.size (alV ns) lo hi most back w1 O1'.out S1'.out hnl hm).mono ?_
  rintro r w2 ⟨a2, n2, c2, rfl, hrp, hb⟩
  have K2' := hid (K1'.out.to (only_of_below' hb S1'.out) (by have := HUZ.out; omega))
  have R2' := hid (R1'.out.to (only_of_below' hb S1'.out) (by have := HUZ.out; omega))
  have B2' := hid (B1'.out.trans (hb.mono HBU.out.size))
  have P2' := hid (own_mono_rp hrp HBU.out.size)
  clear hrp hb
  go_wp2_with fail
  refine hK.out _ _ ?_ (fun hHeld => ?_)
  · exact ⟨K2'.out.cell (j := 0) rfl, R2'.out.cell (j := 0) rfl, R2'.out.cell (j := 1) rfl⟩
  clear hK K1
  try simp only [List.getElem_toArray]
  try simp only [List.getElem_cons_succ]
  try simp only [List.getElem_cons_zero]
  try simp only [Act.put]
  try simp only [List.setIfInBounds_toArray]
  try simp only [List.set_cons_succ]
  try simp only [List.set_cons_zero]
  refine wpAnyH_take (i := 6) (v := (.slice a2 n2 c2)) rfl (by kernel_rfl) (by kernel_rfl) (by kernel_rfl) (fun _ _ _ h => h) (Or.inl ⟨by rfl, ?_⟩) (by assumption) ?_
  · intro w hSw
    (try dsimp only at hSw)
    go_simp
  try simp only [List.getElem_toArray]
  try simp only [List.getElem_cons_succ]
  try simp only [List.getElem_cons_zero]
  try simp only [Act.put]
  try simp only [List.setIfInBounds_toArray]
  try simp only [List.set_cons_succ]
  try simp only [List.set_cons_zero]
  refine wpAnyH_done (by kernel_rfl) ?_ _
  refine NoPanic.normal ?_
  go_wp2
  go_ret
  exact ⟨_, _, _, rfl, P2'.out, B2'.out⟩
end Go.Proofs.Ytbaggkfgnjenoaa

