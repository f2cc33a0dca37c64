/-
  The law FnExactMsgBytes answers true at every message.
-/
import Derived.Test.YtbonkheoeohaiaaDoorMb15
import Derived.Test.YtbonkheoeohaiaaDoorMb28
import Derived.Test.YtbonkheoeohaiaaDoorMb24
import Derived.Test.YtbonkheoeohaiaaDoorMb27
namespace Go.Proofs.YtbonkheoeohaiaaDoor
open Go.RowKit
set_option linter.unusedVariables false
theorem Rd.toM {w w' : World} {R : Nat → Prop} {a : Option Addr} {n c : Nat} {zs : List Int} (h : Rd w a n c zs) (ho : Only R w w') (hR : ∀ x, a = some x → ¬ R x.block) : Rd w' a n c zs := by
  obtain ⟨h1, h2, h3, h30, h4, h5⟩ := h
  refine ⟨h1, h2, h3, h30, h4, fun hp => ?_⟩
  obtain ⟨b, off, rfl, hb, hc⟩ := h5 hp
  refine ⟨b, off, rfl, Nat.lt_of_lt_of_le hb ho.size, fun i hi => ?_⟩
  rw [World.cell?_of_block (w := w) (a := ⟨b, off + i, none⟩) (ho.block b hb (hR _ rfl))]
  exact hc i hi
theorem Wb.toM {w w' : World} {R : Nat → Prop} {a : Option Addr} {n : Nat} (h : Wb w a n) (ho : Only R w w') (hR : ∀ x, a = some x → 0 < n → x.block < w.heap.size ∧ ¬ R x.block) : Wb w' a n := by
  intro x hx i hi
  obtain ⟨h1, h2⟩ := hR x hx (by omega)
  rw [World.frozen?_of_block (w := w) (a := ⟨x.block, x.off + i, none⟩) (ho.block x.block h1 h2)]
  exact h x hx i hi
theorem Put.seeM {w w' : World} {r : Option (List Int)} {e : Ending} (h : Put w r e w') (hb : ∀ i : Nat, 0 ≤ (r.getD [])[i]?.getD 0 ∧ (r.getD [])[i]?.getD 0 ≤ 255) (hl : (r.getD []).length ≤ 4096) :
    ∃ a c, e = .returned (.tuple #[.slice a (r.getD []).length c, .bool r.isSome]) ∧ Rd w' a (r.getD []).length c (r.getD []) ∧ (∀ x, a = some x → w.heap.size ≤ x.block) ∧ Wb w' a (r.getD []).length ∧ Below w.heap.size w w' := by
  obtain ⟨hbel, ⟨rfl, rfl⟩ | ⟨v, zs, rfl, rfl, ho⟩⟩ := h
  · exact ⟨none, 0, rfl, ⟨rfl, by simp, by omega, by simp, by simp, fun h => by simp at h⟩, (fun x hx => by cases hx), (fun x hx => by cases hx), hbel⟩
  · simp only [Option.getD_some] at hb hl ⊢
    obtain ⟨a, c, rfl, hrd, hB⟩ := ho.rd hb (by omega)
    exact ⟨a, c, rfl, hrd, hB, ho.wb rfl _, hbel⟩
theorem mg_facts (kd c e n sh nu st k : Int) (ky vl lo hi : ByteArray) (mo : Int) (bk : Bool) (cd : Int) (ps : List PB) (ys : Bool) : (∀ i : Nat, 0 ≤ ((mgBytes kd c e n sh nu st k ky vl lo hi mo bk cd ps ys).getD [])[i]?.getD 0 ∧ ((mgBytes kd c e n sh nu st k ky vl lo hi mo bk cd ps ys).getD [])[i]?.getD 0 ≤ 255) ∧ ((mgBytes kd c e n sh nu st k ky vl lo hi mo bk cd ps ys).getD []).length ≤ 4096 := by
  unfold mgBytes
  split
  · rename_i h
    have hF := mgOk_facts h
    have hl := hF.len bk ys
    exact ⟨byte_at (by rw [Option.getD_some]; exact hF.byte bk ys), by rw [Option.getD_some]; omega⟩
  · simp
set_option maxHeartbeats 16000000 in
set_option maxRecDepth 20000 in
theorem lawMsgBytes_walk (kd c e n sh nu st k : Int) (ky vl lo hi : ByteArray) (mo : Int) (bk : Bool) (cd : Int) (pa : Option Addr) (pn pc : Nat) (ps : List PB) (ys : Bool) (w : World) (h : (ky.size ≤ maxLen ∧ vl.size ≤ maxLen ∧ lo.size ≤ maxLen ∧ hi.size ≤ maxLen) ∧ Pr w (fun _ => True) (.slice pa pn pc) ps ∧ szOkP ps) :
    Calls Tryd.prog 4 #[.agg #[.int .i64 kd, .int .i64 c, .int .i64 e, .int .i64 n, .int .i64 sh, .int .i64 nu, .int .i64 st, .int .i64 k, .string ky, .string vl, .string lo, .string hi, .int .i64 mo, .bool bk, .int .i64 cd, .slice pa pn pc, .bool ys]] w fun e w' => e = .returned (.bool true) ∧ Below w.heap.size w w' := by
  unfold maxLen at h
  have X0 := hid (MX.start (kd := kd) (c := c) (e := e) (n := n) (sh := sh) (nu := nu) (st := st) (k := k) (ky := ky) (vl := vl) (lo := lo) (hi := hi) (mo := mo) (bk := bk) (cd := cd) (ys := ys) h.2.1)
  have HZ1 := hid h.2.2
  have HL1 := hid h.1
  have HNP := hid (Rw.len h.2.1).1
  clear h
  go_enter Tryd.func4, Tryd.ntmps4
  go_wp2_with (refine wpList_load_row rfl 45 _ rfl w.heap.size rfl 45 _ (0, 0) _ X0.out.kA Tryd.underlying45 rfl (by kernel_rfl) ?_)
  refine (szMsg_any _ ps kd c e n sh nu st k ky vl lo hi mo bk cd pa pn pc ys _ X0.out.hA HZ1.out HL1.out).mono ?_
  generalize w.alloc (.cells #[.int .i64 kd, .int .i64 c, .int .i64 e, .int .i64 n, .int .i64 sh, .int .i64 nu, .int .i64 st, .int .i64 k, .string ky, .string vl, .string lo, .string hi, .int .i64 mo, .bool bk, .int .i64 cd, .slice pa pn pc, .bool ys] 45) = U at *
  rintro r w1 ⟨⟨x, rfl, hx1, hx2, hx3⟩, hb⟩
  have X1 := hid (X0.out.below hb)
  clear hb X0
  by_cases hneg : x < 0
  · clear hx3
    go_wp2
    go_ret
    exact ⟨rfl, X1.out.bel⟩
  · have m0 := hx3 (by omega)
    clear hx3
    have HS : Hid (∀ (g0 : Nat) (u : World), Pr u (fun _ => True) (.slice (some ⟨g0, 0, none⟩) pn pn) ps → Calls Tryd.prog 10 #[.agg #[.int .i64 kd, .int .i64 c, .int .i64 e, .int .i64 n, .int .i64 sh, .int .i64 nu, .int .i64 st, .int .i64 k, .string ky, .string vl, .string lo, .string hi, .int .i64 mo, .bool bk, .int .i64 cd, .slice (some ⟨g0, 0, none⟩) pn pn, .bool ys]] u fun r w' => Put u (mgBytes kd c e n sh nu st k ky vl lo hi mo bk cd ps ys) r w') := fun g0 u hc => specMsgBytes_any (fun _ => True) ps kd c e n sh nu st k ky vl lo hi mo bk cd (some ⟨g0, 0, none⟩) pn pn ys u hc
    have HI : Hid (∀ (g0 : Nat) (u : World), Pr u (fun _ => True) (.slice (some ⟨g0, 0, none⟩) pn pn) ps → Calls Tryd.prog 7 #[.agg #[.int .i64 kd, .int .i64 c, .int .i64 e, .int .i64 n, .int .i64 sh, .int .i64 nu, .int .i64 st, .int .i64 k, .string ky, .string vl, .string lo, .string hi, .int .i64 mo, .bool bk, .int .i64 cd, .slice (some ⟨g0, 0, none⟩) pn pn, .bool ys]] u fun r w' => Put u (mgBytes kd c e n sh nu st k ky vl lo hi mo bk cd ps ys) r w') := fun g0 u hc => implMsgBytes_any (fun _ => True) ps kd c e n sh nu st k ky vl lo hi mo bk cd (some ⟨g0, 0, none⟩) pn pn ys u hc
    have HF := hid (mg_facts kd c e n sh nu st k ky vl lo hi mo bk cd ps ys)
    generalize mgBytes kd c e n sh nu st k ky vl lo hi mo bk cd ps ys = o at HS HI HF
    have hbb : (o.isSome != o.isSome) = false := by simp
    have HL : Hid ((o.getD []).length ≤ 4096) := HF.out.2
    have HV : Hid (∀ (w w' : World) (e : Ending), Put w o e w' → ∃ a c, e = .returned (.tuple #[.slice a (o.getD []).length c, .bool o.isSome]) ∧ Rd w' a (o.getD []).length c (o.getD []) ∧ (∀ x, a = some x → w.heap.size ≤ x.block) ∧ Wb w' a (o.getD []).length ∧ Below w.heap.size w w') := fun w w' e h => h.seeM HF.out.1 HF.out.2
    generalize o.getD [] = out at *
    generalize o.isSome = bo at *
    generalize out.length = L at *
    clear HF
    have hl := HL.out
    go_wp2_with (refine wpList_load_row rfl 45 _ rfl w.heap.size rfl 45 _ (0, 0) _ X1.out.kA Tryd.underlying45 rfl (by kernel_rfl) ?_)
    refine (toMsg_any _ ps kd c e n sh nu st k ky vl lo hi mo bk cd pa pn pc ys _ X1.out.hA m0).mono ?_
    rintro r w2 ⟨g0, rfl, hO, hb⟩
    have X2 := hid (X1.out.below hb)
    have C2 := hid hO
    clear hb X1 hO
    go_wp2_with fail
    refine (HS.out g0 w2 C2.out.r).mono ?_
    intro r w3 hp
    obtain ⟨a0, c0, rfl, hr0, -, -, hb3⟩ := HV.out _ _ _ hp
    have RW := hid hr0
    have X3 := hid (X2.out.below hb3)
    clear hp hr0 hb3 X2 C2 HS
    go_wp2_with (refine wpList_load_row rfl 45 _ rfl w.heap.size rfl 45 _ (0, 0) _ X3.out.kA Tryd.underlying45 rfl (by kernel_rfl) ?_)
    refine (toMsg_any _ ps kd c e n sh nu st k ky vl lo hi mo bk cd pa pn pc ys _ X3.out.hA m0).mono ?_
    rintro r w4 ⟨h0, rfl, hO, hb⟩
    have X4 := hid (X3.out.below hb)
    have D4 := hid hb
    have HX3 : Hid (w.heap.size < w3.heap.size) := X3.out.kA.lt
    have HO4 : Hid (w3.heap.size ≤ h0 ∧ h0 < w4.heap.size) := hO.lt rfl
    obtain ⟨B4, HB4⟩ : ∃ B4, w3.heap.size = B4 := ⟨_, rfl⟩
    rw [HB4] at hO
    have C4 := hid (MB9.new (kd := kd) (c := c) (e := e) (n := n) (sh := sh) (nu := nu) (st := st) (k := k) (ky := ky) (vl := vl) (lo := lo) (hi := hi) (mo := mo) (bk := bk) (cd := cd) (ys := ys) hO)
    clear hb X3 hO HB4
    have hb := below_new (o := .cells #[.int .i64 kd, .int .i64 c, .int .i64 e, .int .i64 n, .int .i64 sh, .int .i64 nu, .int .i64 st, .int .i64 k, .string ky, .string vl, .string lo, .string hi, .int .i64 mo, .bool bk, .int .i64 cd, .slice (some ⟨h0, 0, none⟩) pn pn, .bool ys] 31) (w := w4) (Below.refl _ _)
    have X5 := hid (X4.out.below hb)
    have D5 := hid (btR D4.out hb)
    have S45 : Hid (w4.heap.size ≤ (w4.alloc (.cells #[.int .i64 kd, .int .i64 c, .int .i64 e, .int .i64 n, .int .i64 sh, .int .i64 nu, .int .i64 st, .int .i64 k, .string ky, .string vl, .string lo, .string hi, .int .i64 mo, .bool bk, .int .i64 cd, .slice (some ⟨h0, 0, none⟩) pn pn, .bool ys] 31)).heap.size) := hb.size
    clear hb X4 D4
    go_wp2_with (first
      | (refine wpList_store_row rfl 31 _ _ rfl w4.heap.size _ rfl rfl 31 _ (heap_alloc_new w4 _) (by kernel_rfl) rfl rfl ?_; rw [World.setRow_alloc_new])
      | (refine wpList_load_row rfl 31 _ rfl w4.heap.size rfl 31 _ (0, 0) _ C4.out.box Tryd.underlying31 rfl (by kernel_rfl) ?_))
    refine (HI.out h0 _ C4.out.own.r).mono ?_
    generalize w4.alloc (.cells #[.int .i64 kd, .int .i64 c, .int .i64 e, .int .i64 n, .int .i64 sh, .int .i64 nu, .int .i64 st, .int .i64 k, .string ky, .string vl, .string lo, .string hi, .int .i64 mo, .bool bk, .int .i64 cd, .slice (some ⟨h0, 0, none⟩) pn pn, .bool ys] 31) = w5 at *
    generalize w4.heap.size = b4 at *
    intro r w6 hp
    obtain ⟨a1, c1, rfl, hr1, hB1, hwb1, hb6⟩ := HV.out _ _ _ hp
    have X6 := hid (X5.out.below hb6)
    have D6 := hid (btR D5.out hb6)
    have C6 := hid (C4.out.below hb6)
    have G6 := hid hr1
    have GB := hid hB1
    have GW := hid hwb1
    clear hp hr1 hB1 hwb1 hb6 X5 C4 D5
    go_wp2_with fail
    refine (eqByteS_same a1 a0 L L c1 c0 out _ G6.out (RW.out.kept D6.out)).mono ?_
    rintro r w7 ⟨rfl, q7, hw7⟩
    have b7 := hid (show Below w6.heap.size w6 w7 by rw [hw7]; exact Below.drewN' (Below.refl _ _) q7)
    have X7b := hid (X6.out.below b7.out)
    have D7 := hid (btR D6.out b7.out)
    have C7b := hid (C6.out.below b7.out)
    have G7 := hid (G6.out.kept b7.out)
    have GW7 := hid (GW.out.below b7.out G6.out.lt)
    clear hw7 b7 X6 D6 C6 G6 GW
    have X7 := hid (X7b.out.below (below_drew _))
    have C7 := hid (C7b.out.below (below_drew _))
    have D8 := hid (btR D7.out (below_drew w7))
    have G8 : Hid (Rd w7.drew a1 L c1 out) := G7.out
    have GW8 : Hid (Wb w7.drew a1 L) := GW7.out
    clear X7b C7b D7 G7 GW7
    go_wp2_with fail
    refine wp_region_noPanic ?_
    refine wp_region_held_drew (S := fun v => MX w v w.heap.size kd c e n sh nu st k ky vl lo hi mo bk cd pa pn pc ys ps ∧ MB9 v b4 B4 kd c e n sh nu st k ky vl lo hi mo bk cd (some ⟨h0, 0, none⟩) pn pn ys ps) (by kernel_rfl) (⟨X7.out, C7.out⟩) (fun hHeld => ?_)
    simp only [List.size_toArray, List.length_cons, List.length_nil, Array.replicate_succ, Array.replicate_zero, Nat.reduceAdd, List.push_toArray, List.nil_append, List.cons_append]
    refine wpAnyH_take (i := 0) (v := .agg #[.int .i64 kd, .int .i64 c, .int .i64 e, .int .i64 n, .int .i64 sh, .int .i64 nu, .int .i64 st, .int .i64 k, .string ky, .string vl, .string lo, .string hi, .int .i64 mo, .bool bk, .int .i64 cd, .slice (some ⟨h0, 0, none⟩) pn pn, .bool ys]) rfl (by kernel_rfl) (by kernel_rfl) (by kernel_rfl) (fun _ _ _ h => h) (Or.inl ⟨by rfl, ?_⟩) (by assumption) ?_
    · intro w hSw
      exact ex_load 31 _ rfl b4 rfl 31 _ (0, 0) _ hSw.2.box Tryd.underlying31 rfl (by kernel_rfl)
    try simp only [List.getElem_toArray]
    try simp only [List.getElem_cons_succ]
    try simp only [List.getElem_cons_zero]
    try simp only [Act.put]
    try simp only [List.setIfInBounds_toArray]
    try simp only [List.set_cons_succ]
    try simp only [List.set_cons_zero]
    refine wpAnyH_take (i := 1) (v := .agg #[.int .i64 kd, .int .i64 c, .int .i64 e, .int .i64 n, .int .i64 sh, .int .i64 nu, .int .i64 st, .int .i64 k, .string ky, .string vl, .string lo, .string hi, .int .i64 mo, .bool bk, .int .i64 cd, .slice pa pn pc, .bool ys]) rfl (by kernel_rfl) (by kernel_rfl) (by kernel_rfl) (fun _ _ _ h => h) (Or.inl ⟨by rfl, ?_⟩) (by assumption) ?_
    · intro w hSw
      exact ex_load 45 _ rfl _ rfl 45 _ (0, 0) _ hSw.1.kA Tryd.underlying45 rfl (by kernel_rfl)
    try simp only [List.getElem_toArray]
    try simp only [List.getElem_cons_succ]
    try simp only [List.getElem_cons_zero]
    try simp only [Act.put]
    try simp only [List.setIfInBounds_toArray]
    try simp only [List.set_cons_succ]
    try simp only [List.set_cons_zero]
    refine wpAnyH_ready (rs := [2]) (by kernel_rfl) (by simp) ?_
    refine AllReadyH.cons rfl (fun K1 hK => ?_) AllReadyH.nil
    go_simp
    refine (toMsg_any _ ps kd c e n sh nu st k ky vl lo hi mo bk cd pa pn pc ys _ hHeld.1.hA m0).mono ?_
    rintro r w8 ⟨f0, rfl, hO8, hb8⟩
    have hH8 := And.intro (hHeld.1.below hb8) (hHeld.2.below hb8)
    clear hHeld
    go_wp2_with fail
    refine hK.out _ _ ?_ (fun hHeld => ?_)
    · exact hH8
    clear hK K1
    try simp only [List.getElem_toArray]
    try simp only [List.getElem_cons_succ]
    try simp only [List.getElem_cons_zero]
    try simp only [Act.put]
    try simp only [List.setIfInBounds_toArray]
    try simp only [List.set_cons_succ]
    try simp only [List.set_cons_zero]
    refine wpAnyH_ready (rs := [3]) (by kernel_rfl) (by simp) ?_
    refine AllReadyH.cons rfl (fun K1 hK => ?_) AllReadyH.nil
    go_simp
    refine (eqMsg_same (fun _ => True) (fun _ => True) ps kd c e n sh nu st k ky vl lo hi mo bk cd _ _ _ ys _ _ _ _ hHeld.2.own.r hO8.r).mono ?_
    rintro r w9 ⟨rfl, hb9⟩
    have hH9 := And.intro (hHeld.1.below hb9) (hHeld.2.below hb9)
    clear hHeld
    go_wp2_with fail
    refine hK.out _ _ ?_ (fun hHeld => ?_)
    · exact hH9
    clear hK K1
    try simp only [List.getElem_toArray]
    try simp only [List.getElem_cons_succ]
    try simp only [List.getElem_cons_zero]
    try simp only [Act.put]
    try simp only [List.setIfInBounds_toArray]
    try simp only [List.set_cons_succ]
    try simp only [List.set_cons_zero]
    refine wpAnyH_take (i := 4) (v := .bool false) rfl (by kernel_rfl) (by kernel_rfl) (by kernel_rfl) (fun _ _ _ h => h) (Or.inl ⟨by rfl, ?_⟩) (by assumption) ?_
    · intro w hSw
      go_simp
    try simp only [List.getElem_toArray]
    try simp only [List.getElem_cons_succ]
    try simp only [List.getElem_cons_zero]
    try simp only [Act.put]
    try simp only [List.setIfInBounds_toArray]
    try simp only [List.set_cons_succ]
    try simp only [List.set_cons_zero]
    refine wpAnyH_done (by kernel_rfl) ?_ _
    refine NoPanic.normal ?_
    have D9 := hid (btR (btR D8.out hb8) hb9)
    have G9 := hid ((G8.out.kept hb8).kept hb9)
    have GW9 := hid ((GW8.out.below hb8 G8.out.lt).below hb9 (G8.out.kept hb8).lt)
    have X9 := hid hHeld.1
    have C9 := hid hHeld.2
    clear hHeld hb8 hb9 hO8 X7 C7 D8 G8 GW8
    go_wp2_with (refine wpList_load_row rfl 31 _ rfl b4 rfl 31 _ (0, 0) _ C9.out.box Tryd.underlying31 rfl (by kernel_rfl) ?_)
    refine (markMsg_any _ ps kd c e n sh nu st k ky vl lo hi mo bk cd (some ⟨h0, 0, none⟩) pn pn ys 1 _ C9.out.own m0 (by omega) (by omega)).mono ?_
    rintro r w10 ⟨rfl, hmk⟩
    have hbA := below_new (o := .cells #[.int .i64 kd, .int .i64 c, .int .i64 e, .int .i64 n, .int .i64 sh, .int .i64 nu, .int .i64 st, .int .i64 k, .string ky, .string vl, .string lo, .string hi, .int .i64 mo, .bool bk, .int .i64 cd, .slice (some ⟨h0, 0, none⟩) pn pn, .bool ys] 31) (w := w9) (Below.refl _ _)
    have ho := hmk.1.only
    have hR : ∀ y, (Value.slice (some ⟨h0, 0, none⟩) pn pn).ownBlock = some y → y = h0 := fun y hy => (Option.some.inj hy).symm
    have X10 := hid ((X9.out.below hbA).only ho (fun b hb => by have := hR b hb; have := HO4.out; have := HX3.out; omega))
    have D10 : Hid (Below w3.heap.size w3 w10) := (btR D9.out hbA).trans (ho.below (btR D9.out hbA).size (fun b hb hr => by have := hR b hr; have := HO4.out; omega))
    have hng : ∀ x, a1 = some x → ¬ (Value.slice (some ⟨h0, 0, none⟩) pn pn).ownBlock = some x.block := by
      intro x hx hr
      have h5 := GB.out x hx
      have h6 := HO4.out
      have h7 := S45.out
      have h8 := hR _ hr
      omega
    have G10 := hid ((G9.out.kept hbA).toM ho hng)
    have GW10 := hid ((GW9.out.below hbA G9.out.lt).toM ho (fun x hx hp => ⟨(G9.out.kept hbA).lt x hx hp, hng x hx⟩))
    clear hmk ho hng hbA hR X9 D9 C9 G9 GW9
    have hk1 : ¬ ((1 + pn * 2 : Nat) : Int) < 0 := by omega
    generalize 1 + pn * 2 = kk at *
    go_wp2_with fail
    refine (eqByteS_same a1 a0 L L c1 c0 out _ G10.out (RW.out.kept D10.out)).mono ?_
    rintro r w11 ⟨rfl, q11, hw11⟩
    have b11 := hid (show Below w10.heap.size w10 w11 by rw [hw11]; exact Below.drewN' (Below.refl _ _) q11)
    have X11 := hid (X10.out.below b11.out)
    have D11 := hid (btR D10.out b11.out)
    have G11 := hid (G10.out.kept b11.out)
    have GW11 := hid (GW10.out.below b11.out G10.out.lt)
    clear hw11 b11 X10 D10 G10 GW10
    go_wp2_with fail
    refine (mark_any a1 L c1 out 1 _ G11.out GW11.out (by omega) (by omega)).mono ?_
    rintro r w12 ⟨rfl, hm12, hg12⟩
    have M12 := hid hm12
    have ho : Only (fun y => a1.map (·.block) = some y) w11 w12 := only_of_grown hg12 (fun k e => e)
    have hrow : ∀ k, a1.map (·.block) = some k → w3.heap.size ≤ k := by
      intro k hk
      cases a1 with
      | none => cases hk
      | some x =>
        simp at hk
        rw [← hk]
        have h5 := GB.out x rfl
        have h6 := HO4.out
        have h7 := S45.out
        omega
    have X12 := hid (X11.out.only ho (fun b hb => by have := hrow b hb; have := HX3.out; omega))
    have D12 : Hid (Below w3.heap.size w3 w12) := D11.out.trans (ho.below D11.out.size (fun b hb hr => by have := hrow b hr; omega))
    clear hm12 hg12 ho hrow X11 D11 G11 GW11
    go_wp2_with fail
    refine (held_any a1 L c1 1 _ M12.out (by omega) (by omega)).mono ?_
    rintro r w12' ⟨rfl, rfl⟩
    have hk2 : ¬ (1 + (L : Int)) < 0 := by omega
    have hk3 : ((1 + (L : Int)) != (1 + (L : Int))) = false := by simp
    go_wp2_with (refine wpList_load_row rfl 45 _ rfl w.heap.size rfl 45 _ (0, 0) _ X12.out.kA Tryd.underlying45 rfl (by kernel_rfl) ?_)
    refine (toMsg_any _ ps kd c e n sh nu st k ky vl lo hi mo bk cd pa pn pc ys _ X12.out.hA m0).mono ?_
    rintro r w13 ⟨f1, rfl, hO, hb13⟩
    have X13 := hid (X12.out.below hb13)
    have F13 := hid hb13
    have C13 := hid hO
    clear hb13 hO
    go_wp2_with fail
    refine (HI.out f1 _ C13.out.r).mono ?_
    intro r w14 hp
    obtain ⟨a2, c2, rfl, hr2, -, -, hb14⟩ := HV.out _ _ _ hp
    have R14 := hid hr2
    have F14 := hid (btR F13.out hb14)
    have D14 := hid (btR D12.out F14.out)
    clear hp hr2 hb14 F13 X13 C13
    go_wp2_with fail
    refine (eqByteS_same a2 a0 L L c2 c0 out _ R14.out (RW.out.kept D14.out)).mono ?_
    rintro r w15 ⟨rfl, q15, hw15⟩
    have b15 := hid (show Below w14.heap.size w14 w15 by rw [hw15]; exact Below.drewN' (Below.refl _ _) q15)
    have F15 := hid (btR F14.out b15.out)
    have B15 := hid (btR X12.out.bel F15.out)
    clear hw15 b15
    go_wp2_with fail
    refine (held_any a1 L c1 1 _ (M12.out.kept F15.out) (by omega) (by omega)).mono ?_
    rintro r w15' ⟨rfl, rfl⟩
    go_wp2
    go_ret
    exact ⟨rfl, B15.out⟩
theorem lawMsgBytes_door (kd c e n sh nu st k : Int) (ky vl lo hi : ByteArray) (mo : Int) (bk : Bool) (cd : Int) (pa : Option Addr) (pn pc : Nat) (ps : List PB) (ys : Bool) (w : World) (h : (ky.size ≤ maxLen ∧ vl.size ≤ maxLen ∧ lo.size ≤ maxLen ∧ hi.size ≤ maxLen) ∧ Pr w (fun _ => True) (.slice pa pn pc) ps ∧ szOkP ps) (_e1 : Err w 1) (_e2 : Err w 0) (_l1 : 1 < w.heap.size) (_l2 : 0 < w.heap.size) :
    Calls Tryd.prog 4 #[.agg #[.int .i64 kd, .int .i64 c, .int .i64 e, .int .i64 n, .int .i64 sh, .int .i64 nu, .int .i64 st, .int .i64 k, .string ky, .string vl, .string lo, .string hi, .int .i64 mo, .bool bk, .int .i64 cd, .slice pa pn pc, .bool ys]] w fun e w' => e = .returned (.bool true) ∧ Below w.heap.size w w' := lawMsgBytes_walk kd c e n sh nu st k ky vl lo hi mo bk cd pa pn pc ps ys w h
end Go.Proofs.YtbonkheoeohaiaaDoor
