/-
  What the law's helpers do with operations and slices of operations: sizes summed, copied, held against each other.
-/
import Derived.Test.YtcpdedpgjaimkaaOpP
import Derived.Test.YtcpdedpgjaimkaaDkE
import Derived.Test.YtcpdedpgjaimkaaDkM
import Derived.Test.YtcpdedpgjaimkaaEdP
namespace Go.Proofs.Ytcpdedpgjaimkaa
open Go.RowKit
set_option linter.unusedVariables false
theorem ocs_set (ps : List (Bool × Int × Value)) (p : Bool × Int × Value) : ∀ j, j < ps.length → ocs (ps.set j p) = (((ocs ps).set (j * 3) (.bool p.1)).set (j * 3 + 1) (.int .i64 p.2.1)).set (j * 3 + 2) p.2.2 := by
  induction ps with
  | nil => intro j h; exact absurd h (Nat.not_lt_zero _)
  | cons q l ih =>
    intro j h
    cases j with
    | zero => rfl
    | succ j =>
      have := ih j (by simpa using h)
      rw [show (j + 1) * 3 = j * 3 + 3 by omega, show j * 3 + 3 + 1 = j * 3 + 1 + 3 by omega, show j * 3 + 3 + 2 = j * 3 + 2 + 3 by omega]
      show Value.bool q.1 :: .int .i64 q.2.1 :: q.2.2 :: ocs (l.set j p) = _
      rw [this]
      rfl
theorem yAt_set {V : List (Bool × Int × Value)} {p : Bool × Int × Value} {i : Nat} (h : i < V.length) : yAt (V.set i p) i = p := by simp [yAt, h]
theorem yAt_other {V : List (Bool × Int × Value)} {p : Bool × Int × Value} {i j : Nat} (h : i ≠ j) : yAt (V.set j p) i = yAt V i := by simp [yAt, Ne.symm h]
def sndY (x : Bool × Int × Value) : Value := x.2.2
def sndO (o : OW) : List Int := o.2.2
theorem uAt_mapY (U : List (Bool × Int × Value)) (i : Nat) : uAt (U.map sndY) i = (yAt U i).2.2 := by
  simp only [uAt, yAt, List.getElem?_map]
  cases U[i]? <;> rfl
theorem shAt_mapO (l : List OW) (i : Nat) : shAt (l.map sndO) i = (oAt l i).2.2 := by
  simp only [shAt, oAt, List.getElem?_map]
  cases l[i]? <;> rfl
theorem infoOpI : (Try.prog.info? 111).map (fun i => (i.zero, i.size, i.bytes)) = some (some (.agg #[.bool false, .int .i64 0, .slice none 0 0]), 3, 40) := by kernel_rfl
theorem load_op {w : World} {g : Nat} {x y z : Value} (c0 : w.cell? ⟨g, 0, none⟩ = some x) (c1 : w.cell? ⟨g, 1, none⟩ = some y) (c2 : w.cell? ⟨g, 2, none⟩ = some z) :
    (loadVar 111 ⟨g, 0, none⟩).run Try.prog w = .ok (.agg #[x, y, z]) w := by go_simp
theorem results_op {fn : Func} {p : Tmp} (h : fn.results = #[.cell p 111]) (tmps : Array Value) (w : World) (g : Nat) {x y z : Value} (hp : tmps.getD p undef = .pointer (some ⟨g, 0, none⟩))
    (c0 : w.cell? ⟨g, 0, none⟩ = some x) (c1 : w.cell? ⟨g, 1, none⟩ = some y) (c2 : w.cell? ⟨g, 2, none⟩ = some z) : (results fn tmps).run Try.prog w = .ok (.agg #[x, y, z]) w := by
  have hp' : tmps[p]?.getD undef = .pointer (some ⟨g, 0, none⟩) := by simpa using hp
  simp [results, h, hp', asAddr, load_op c0 c1 c2]
theorem made_ops (n : Nat) : madeCells (Value.agg #[.bool false, .int .i64 0, .slice none 0 0]).cells (n * 3) = (ocs (List.replicate n (false, 0, .slice none 0 0))).toArray := by
  apply Array.ext
  · simp [madeCells, ocs_length]
  · intro i h1 h2
    simp [ocs_length] at h2
    simp only [madeCells, List.getElem_toArray]
    have hq : yAt (List.replicate n ((false, 0, .slice none 0 0) : Bool × Int × Value)) (i / 3) = (false, 0, .slice none 0 0) := by simp [yAt, show i / 3 < n by omega]
    have h0 := ocs_at (List.replicate n ((false, 0, .slice none 0 0) : Bool × Int × Value)) (i / 3) (by simp; omega)
    rw [hq] at h0
    have h3 : i % 3 = 0 ∨ i % 3 = 1 ∨ i % 3 = 2 := by omega
    rcases h3 with e | e | e
    · have h4 := List.getElem?_eq_some_iff.1 (show (ocs (List.replicate n ((false, 0, .slice none 0 0) : Bool × Int × Value)))[i]? = some (.bool false) by rw [show i / 3 * 3 = i by omega] at h0; exact h0.1)
      rw [h4.2]
      simp [Value.cells, e]
    · have h4 := List.getElem?_eq_some_iff.1 (show (ocs (List.replicate n ((false, 0, .slice none 0 0) : Bool × Int × Value)))[i]? = some (.int .i64 0) by rw [show i / 3 * 3 + 1 = i by omega] at h0; exact h0.2.1)
      rw [h4.2]
      simp [Value.cells, e]
    · have h4 := List.getElem?_eq_some_iff.1 (show (ocs (List.replicate n ((false, 0, .slice none 0 0) : Bool × Int × Value)))[i]? = some (.slice none 0 0) by rw [show i / 3 * 3 + 2 = i by omega] at h0; exact h0.2.2)
      rw [h4.2]
      simp [Value.cells, e]
/-- A row of operations, all of it its own and apart, its bytes behind it. -/
structure OO (w : World) (g N n : Nat) (X : List (Bool × Int × Value)) (l : List OW) : Prop where
  len : X.length = n
  ll : n = l.length
  bk : Bk w g 111 (ocs X)
  sl : SL w (g + 1) n (X.map sndY) (l.map sndO)
  at' : ∀ i, i < n → (yAt X i).1 = (oAt l i).1 ∧ (yAt X i).2.1 = (oAt l i).2.1
  few : n ≤ 1048576
  top : g < N ∧ ∀ i, i < n → ∀ y, (yAt X i).2.2.ownBlock = some y → y < N
theorem SL.below {w w' : World} {B k : Nat} {V : List Value} {ss : List (List Int)} (h : SL w B k V ss) (hb : Below w.heap.size w w') : SL w' B k V ss := ⟨fun i hi => ⟨own_kept (h.own i hi).1 (only_of_below hb (fun _ => False)) (fun _ _ h => h), (h.own i hi).2⟩, h.apart⟩
theorem SL.to {w w' : World} {R : Nat → Prop} {B k : Nat} {V : List Value} {ss : List (List Int)} (h : SL w B k V ss) (o : Only R w w') (hR : ∀ y, B ≤ y → y < w.heap.size → ¬ R y) : SL w' B k V ss := ⟨fun i hi => ⟨own_kept (h.own i hi).1 o (fun y e => hR y (World.ownsRow.lt (h.own i hi).1 y e).1 (World.ownsRow.lt (h.own i hi).1 y e).2), (h.own i hi).2⟩, h.apart⟩
theorem OO.below {w w' : World} {g N n : Nat} {X : List (Bool × Int × Value)} {l : List OW} (h : OO w g N n X l) (hb : Below w.heap.size w w') : OO w' g N n X l := ⟨h.len, h.ll, h.bk.below hb, h.sl.below hb, h.at', h.few, h.top⟩
theorem OO.to {w w' : World} {R : Nat → Prop} {g N n : Nat} {X : List (Bool × Int × Value)} {l : List OW} (h : OO w g N n X l) (o : Only R w w') (hR : ∀ y, g ≤ y → y < N → ¬ R y) : OO w' g N n X l := ⟨h.len, h.ll, h.bk.to o (hR g (Nat.le_refl _) h.top.1), ⟨fun i hi => ⟨own_kept (h.sl.own i hi).1 o (fun y e => hR y (by have := (World.ownsRow.lt (h.sl.own i hi).1 y e).1; omega) (h.top.2 i hi y (by rw [uAt_mapY] at e; exact e))), (h.sl.own i hi).2⟩, h.sl.apart⟩, h.at', h.few, h.top⟩
theorem OO.opr {w : World} {g N n : Nat} {X : List (Bool × Int × Value)} {l : List OW} (h : OO w g N n X l) : Opr w (fun _ => True) (.slice (some ⟨g, 0, none⟩) n n) l := by
  have hll := h.ll
  subst hll
  have hf := h.few
  refine ⟨X, h.len, h.bk.rw (Nat.le_refl _) (by omega) (fun h0 => ?_) _ trivial, fun i hi => ⟨(h.at' i hi).1, (h.at' i hi).2, ?_⟩⟩
  · have : X = [] := List.eq_nil_of_length_eq_zero (by rw [h.len]; exact h0)
    rw [this]; rfl
  · have := h.sl.own i hi
    rw [uAt_mapY, shAt_mapO] at this
    exact by_ob this.1 this.2 (fun _ _ _ _ => trivial)
set_option maxHeartbeats 2000000 in
theorem szOp_any (s : Bool) (t : Int) (a : Option Addr) (n c : Nat) (left : Int) (w : World) (hc : n ≤ 9223372036854775807) (h0 : 0 ≤ left) (h1 : left ≤ 1048576) :
    Calls Try.prog 51 #[.agg #[.bool s, .int .i64 t, .slice a n c], .int .i64 left] w fun e w' => (∃ y : Int, e = .returned (.int .i64 y) ∧ y ≤ left ∧ -1 ≤ y ∧ (0 ≤ y → y + (n : Int) = left)) ∧ Below w.heap.size w w' := by
  have HB0 : Hid (Below w.heap.size w (w.alloc (.cells #[.bool s, .int .i64 t, .slice a n c] 106))) := below_new (Below.refl _ _)
  go_enter Try.func51, Try.ntmps51
  go_wp2_with fail
  refine (szWrite_any t a n c left _ hc h0 h1).mono ?_
  generalize w.alloc (.cells #[.bool s, .int .i64 t, .slice a n c] 106) = U at *
  rintro e w1 ⟨⟨y, rfl, hy1, hy2, hy3⟩, hb⟩
  have HB1 := hid (HB0.out.trans (hb.mono HB0.out.size))
  have HY := hid hy3
  clear hy3 hb
  by_cases hneg : y < 0
  · go_wp2
    go_ret
    exact ⟨⟨_, rfl, by omega, by omega, fun h => by omega⟩, HB1.out⟩
  · go_wp2
    go_ret
    exact ⟨⟨_, rfl, by omega, by omega, HY.out⟩, HB1.out⟩
set_option maxHeartbeats 2000000 in
theorem szOpS_at (S : Nat → Prop) (a : Option Addr) (n c : Nat) (ss : List OW) (left : Int) (w : World) (h : Opr w S (.slice a n c) ss) (h0 : 0 ≤ left) (h1 : left ≤ 1048576) :
    Calls Try.prog 13 #[.slice a n c, .int .i64 left] w fun e w' => (∃ x : Int, e = .returned (.int .i64 x) ∧ x ≤ left ∧ -1 ≤ x ∧ (0 ≤ x → x + ((n + offS (ss.map sndO) n : Nat) : Int) = left)) ∧ Below w.heap.size w w' := by
  obtain ⟨hn, hnc, hcc⟩ := h.len
  have HN := hid hn
  have H0 := hid h
  clear h hn
  by_cases hbig : left - (n : Int) < 0
  · go_enter Try.func13, Try.ntmps13
    go_wp2
    go_ret
    exact ⟨⟨_, rfl, by omega, by omega, fun h => by omega⟩, Below.refl _ _⟩
  · have hn2 : n ≤ 1048576 := by omega
    go_enter Try.func13, Try.ntmps13
    go_wp2
    go_loopw [1, 5] (fun x i wr => ∃ (k : Nat) (y : Int), k ≤ n ∧ i = .int .i64 k ∧ x = .int .i64 y ∧ 0 ≤ y ∧ y ≤ left ∧ Hid (y + ((n + offS (ss.map sndO) k : Nat) : Int) = left) ∧ Hid (Below w.heap.size w wr)) (fun _ i _ => n - (intOf i).toNat)
    case atStart => exact ⟨0, _, Nat.zero_le _, rfl, rfl, by omega, by omega, (by show _ = _; simp [offS]), Below.refl _ _⟩
    case round =>
      obtain ⟨k, y, hk, rfl, rfl, hy0, hy1, HS, HB⟩ := hrel
      by_cases hlt : k < n
      · have hlt' : (k : Int) < (n : Int) := by omega
        have HP := hid (H0.out.below HB.out)
        obtain ⟨b, off, rfl, _, hbw, hcell⟩ := HP.out.at (by omega)
        obtain ⟨ap, np, cp, cq, ct, c0, hp⟩ := hcell k hlt
        have l0 := hid hp.len.1
        have lc : np ≤ 9223372036854775807 := by have := hp.len.2; omega
        have HOF : Hid (offS (ss.map sndO) (k + 1) = offS (ss.map sndO) k + np) := by show _ = _; rw [offS, l0.out, shAt_mapO]
        clear hcell hbw HP hp
        generalize (oAt ss k).1 = qq at cq
        generalize (oAt ss k).2.1 = tt at ct
        go_wp2_with fail
        refine (szOp_any qq tt ap np cp y wr lc hy0 (by omega)).mono ?_
        rintro e w1 ⟨⟨z, rfl, hz1, hz2, hz3⟩, hb1⟩
        have HB1 := hid (HB.out.trans (hb1.mono HB.out.size))
        have HZ3 := hid hz3
        clear hb1 hz3
        by_cases hneg : z < 0
        · go_wp2
          go_ret
          exact ⟨⟨_, rfl, by omega, by omega, fun h => by omega⟩, HB1.out⟩
        · have HS1 : Hid (z + ((n + offS (ss.map sndO) (k + 1) : Nat) : Int) = left) := by
            have h2 := HZ3.out (by omega)
            have h3 := HS.out
            show _ = _
            rw [HOF.out]
            omega
          clear HOF HS HZ3
          go_wp2
          go_roundw
          case rel => exact ⟨k + 1, z, by omega, by go_num, rfl, by omega, by omega, HS1.out, HB1.out⟩
          case measure => simp [intOf]; omega
      · have hk' : k = n := by omega
        have HS1 : Hid (y + ((n + offS (ss.map sndO) n : Nat) : Int) = left) := by rw [hk'] at HS; exact HS.out
        clear hk' HS
        go_wp2
        go_ret
        exact ⟨⟨_, rfl, by omega, by omega, fun _ => HS1.out⟩, HB.out⟩
set_option maxHeartbeats 2000000 in
theorem eqOp_any (s s' : Bool) (t t' : Int) (a a' : Option Addr) (n n' c c' : Nat) (zs zs' : List Int) (w : World) (h : Rd w a n c zs) (h' : Rd w a' n' c' zs') :
    Calls Try.prog 66 #[.agg #[.bool s, .int .i64 t, .slice a n c], .agg #[.bool s', .int .i64 t', .slice a' n' c']] w fun e w' => e = .returned (.bool (decide (((s, t, zs) : OW) = (s', t', zs')))) ∧ Below w.heap.size w w' := by
  have HB0 : Hid (Below w.heap.size w ((w.alloc (.cells #[.bool s, .int .i64 t, .slice a n c] 111)).alloc (.cells #[.bool s', .int .i64 t', .slice a' n' c'] 111))) := below_new (below_new (Below.refl _ _))
  have HC := hid (eqWrite_any t t' a a' n n' c c' zs zs' _ (h.kept HB0.out) (h'.kept HB0.out))
  clear h h'
  by_cases hs : s = s'
  · subst hs
    have hs2 : (s != s) = false := by simp
    have HD : Hid (decide (((s, t, zs) : OW) = (s, t', zs')) = decide ((t, zs) = (t', zs'))) := by
      show _ = _
      by_cases e : (t, zs) = (t', zs')
      · rw [decide_eq_true e, decide_eq_true (by rw [Prod.mk.injEq]; exact ⟨rfl, e⟩)]
      · rw [decide_eq_false e, decide_eq_false (fun e2 => e (by rw [Prod.mk.injEq] at e2; exact e2.2))]
    go_enter Try.func66, Try.ntmps66
    go_wp2_with fail
    refine HC.out.mono ?_
    generalize (w.alloc (.cells #[.bool s, .int .i64 t, .slice a n c] 111)).alloc (.cells #[.bool s, .int .i64 t', .slice a' n' c'] 111) = U at *
    rintro e w1 ⟨rfl, hb1⟩
    have HB1 := hid (HB0.out.trans (hb1.mono HB0.out.size))
    clear hb1 HB0 HC
    by_cases he : (t, zs) = (t', zs')
    · have HE : Hid (decide (((s, t, zs) : OW) = (s, t', zs')) = true) := by show _ = _; rw [HD.out, decide_eq_true he]
      rw [decide_eq_true he]
      clear he HD
      go_wp2
      go_ret
      exact ⟨by rw [HE.out]; rfl, HB1.out⟩
    · have HE : Hid (decide (((s, t, zs) : OW) = (s, t', zs')) = false) := by show _ = _; rw [HD.out, decide_eq_false he]
      rw [decide_eq_false he]
      clear he HD
      go_wp2
      go_ret
      exact ⟨by rw [HE.out]; rfl, HB1.out⟩
  · have HE : Hid (decide (((s, t, zs) : OW) = (s', t', zs')) = false) := by show _ = _; simp [hs]
    clear HC
    cases s with
    | true =>
      cases s' with
      | true => exact absurd rfl hs
      | false =>
        clear hs
        go_enter Try.func66, Try.ntmps66
        go_wp2
        go_ret
        exact ⟨by rw [HE.out]; rfl, HB0.out⟩
    | false =>
      cases s' with
      | false => exact absurd rfl hs
      | true =>
        clear hs
        go_enter Try.func66, Try.ntmps66
        go_wp2
        go_ret
        exact ⟨by rw [HE.out]; rfl, HB0.out⟩
set_option maxHeartbeats 4000000 in
theorem eqOpS_at (S S' : Nat → Prop) (a a' : Option Addr) (n n' c c' : Nat) (l l' : List OW) (w : World) (h : Opr w S (.slice a n c) l) (h' : Opr w S' (.slice a' n' c') l') (hs : ∀ i, i < l.length → (oAt l i).2.2.length ≤ 1048576) (hs' : ∀ i, i < l'.length → (oAt l' i).2.2.length ≤ 1048576) :
    Calls Try.prog 19 #[.slice a n c, .slice a' n' c'] w fun e w' => e = .returned (.bool (decide (l = l'))) ∧ Below w.heap.size w w' := by
  obtain ⟨hn, hnc, hcc⟩ := h.len
  obtain ⟨hn', hnc', hcc'⟩ := h'.len
  have HN := hid hn
  have HN' := hid hn'
  have H0 := hid h
  have H0' := hid h'
  have HSM := hid hs
  have HSM' := hid hs'
  clear h h' hn hn' hs hs'
  by_cases hne : n = n'
  · subst hne
    have hz : ((n : Int) != (n : Int)) = false := by simp
    go_enter Try.func19, Try.ntmps19
    go_wp2
    go_loopw [5] (fun i wr => ∃ k : Nat, k ≤ n ∧ i = .int .i64 k ∧ Hid (Below w.heap.size w wr) ∧ Hid (l.take k = l'.take k)) (fun i _ => n - (intOf i).toNat)
    case atStart => exact ⟨0, Nat.zero_le _, rfl, Below.refl _ _, rfl⟩
    case round =>
      obtain ⟨k, hk, rfl, HB, HT⟩ := hrel
      by_cases hlt : k < n
      · have hlt' : (k : Int) < (n : Int) := by omega
        have HP := hid (H0.out.below HB.out)
        have HP' := hid (H0'.out.below HB.out)
        obtain ⟨b, off, rfl, _, hbw, hcell⟩ := HP.out.at (by omega)
        obtain ⟨b', off', rfl, _, hbw', hcell'⟩ := HP'.out.at (by omega)
        obtain ⟨ap, np, cp, cq, ct, c0, hp⟩ := hcell k hlt
        obtain ⟨ap', np', cp', dq, dt, d0, hp'⟩ := hcell' k hlt
        have hr := hp.rd (by rw [hp.len.1]; exact HSM.out k (by rw [← HN.out]; exact hlt))
        have hr' := hp'.rd (by rw [hp'.len.1]; exact HSM'.out k (by rw [← HN'.out]; exact hlt))
        have HC : Hid (∀ v, Below wr.heap.size wr v → Calls Try.prog 66 #[.agg #[.bool (oAt l k).1, .int .i64 (oAt l k).2.1, .slice ap np cp], .agg #[.bool (oAt l' k).1, .int .i64 (oAt l' k).2.1, .slice ap' np' cp']] v fun e w' => e = .returned (.bool (decide (oAt l k = oAt l' k))) ∧ Below v.heap.size v w') := fun v hv =>
          eqOp_any (oAt l k).1 (oAt l' k).1 (oAt l k).2.1 (oAt l' k).2.1 ap ap' np np' cp cp' (oAt l k).2.2 (oAt l' k).2.2 v (hr.kept hv) (hr'.kept hv)
        have HS : Hid (oAt l k = oAt l' k → l.take (k + 1) = l'.take (k + 1)) := by
          intro e
          have hl : k < l.length := by rw [← HN.out]; exact hlt
          have hl' : k < l'.length := by rw [← HN'.out]; exact hlt
          rw [List.take_succ_eq_append_getElem hl, List.take_succ_eq_append_getElem hl', HT.out]
          simp [oAt, hl, hl'] at e
          rw [e]
        have HF : Hid (oAt l k ≠ oAt l' k → decide (l = l') = false) := by
          intro e
          rw [decide_eq_false_iff_not]
          intro e'
          exact e (by rw [e'])
        have T0 := hid (kc0_6 cq ct c0 dq dt d0)
        clear hcell hcell' hbw hbw' HP HP' HT hp hp' hr hr' cq ct c0 dq dt d0 
        generalize oAt l k = cx1 at *
        generalize oAt l' k = cx2 at *
        by_cases he : cx1 = cx2
        · have HS1 := hid (HS.out he)
          rw [decide_eq_true he] at HC
          clear he HS HF
          go_wp2_with fail
          go_region_held3 (fun v => v.cell? ⟨b, off + k * 3, none⟩ = some (.bool cx1.1) ∧ v.cell? ⟨b, off + k * 3 + 1, none⟩ = some (.int .i64 cx1.2.1) ∧ v.cell? ⟨b, off + k * 3 + 2, none⟩ = some (.slice ap np cp) ∧ v.cell? ⟨b', off' + k * 3, none⟩ = some (.bool cx2.1) ∧ v.cell? ⟨b', off' + k * 3 + 1, none⟩ = some (.int .i64 cx2.2.1) ∧ v.cell? ⟨b', off' + k * 3 + 2, none⟩ = some (.slice ap' np' cp') ∧ KC wr v [(⟨b, off + k * 3, none⟩, .bool cx1.1), (⟨b, off + k * 3 + 1, none⟩, .int .i64 cx1.2.1), (⟨b, off + k * 3 + 2, none⟩, .slice ap np cp), (⟨b', off' + k * 3, none⟩, .bool cx2.1), (⟨b', off' + k * 3 + 1, none⟩, .int .i64 cx2.2.1), (⟨b', off' + k * 3 + 2, none⟩, .slice ap' np' cp')])
            (first | assumption | exact kc6 (T0.out.call (below_drew _)) | exact kc6c hbC (by assumption))
            (first | (go_at_call 66; refine (HC.out _ (KC.bel (by first | exact (by assumption : _ ∧ _ ∧ _ ∧ _ ∧ _ ∧ _ ∧ _).2.2.2.2.2.2))).mono ?_; rintro e w' ⟨rfl, hbC⟩))
          all_goals (rename_i hS; have HB1 := hid (Below.then' HB.out hS.2.2.2.2.2.2.bel (Nat.le_refl _)); clear hS; go_wp2)
          go_roundw
          case rel => exact ⟨k + 1, by omega, by go_num, HB1.out, HS1.out⟩
          case measure => simp [intOf]; omega
        · have HF1 := hid (HF.out he)
          rw [decide_eq_false he] at HC
          clear he HS HF
          go_wp2_with fail
          go_region_held3 (fun v => v.cell? ⟨b, off + k * 3, none⟩ = some (.bool cx1.1) ∧ v.cell? ⟨b, off + k * 3 + 1, none⟩ = some (.int .i64 cx1.2.1) ∧ v.cell? ⟨b, off + k * 3 + 2, none⟩ = some (.slice ap np cp) ∧ v.cell? ⟨b', off' + k * 3, none⟩ = some (.bool cx2.1) ∧ v.cell? ⟨b', off' + k * 3 + 1, none⟩ = some (.int .i64 cx2.2.1) ∧ v.cell? ⟨b', off' + k * 3 + 2, none⟩ = some (.slice ap' np' cp') ∧ KC wr v [(⟨b, off + k * 3, none⟩, .bool cx1.1), (⟨b, off + k * 3 + 1, none⟩, .int .i64 cx1.2.1), (⟨b, off + k * 3 + 2, none⟩, .slice ap np cp), (⟨b', off' + k * 3, none⟩, .bool cx2.1), (⟨b', off' + k * 3 + 1, none⟩, .int .i64 cx2.2.1), (⟨b', off' + k * 3 + 2, none⟩, .slice ap' np' cp')])
            (first | assumption | exact kc6 (T0.out.call (below_drew _)) | exact kc6c hbC (by assumption))
            (first | (go_at_call 66; refine (HC.out _ (KC.bel (by first | exact (by assumption : _ ∧ _ ∧ _ ∧ _ ∧ _ ∧ _ ∧ _).2.2.2.2.2.2))).mono ?_; rintro e w' ⟨rfl, hbC⟩))
          all_goals (rename_i hS; have HB1 := hid (Below.then' HB.out hS.2.2.2.2.2.2.bel (Nat.le_refl _)); clear hS; go_wp2)
          go_ret
          exact ⟨by rw [HF1.out]; rfl, HB1.out⟩
      · have HF : Hid (decide (l = l') = true) := by
          show decide (l = l') = true
          have hk' : k = n := by omega
          have e := HT.out
          have e1 : l.length ≤ k := by rw [← HN.out]; omega
          have e2 : l'.length ≤ k := by rw [← HN'.out]; omega
          rw [List.take_of_length_le e1, List.take_of_length_le e2] at e
          simp [e]
        clear HT
        go_wp2
        go_ret
        exact ⟨by rw [HF.out]; rfl, HB.out⟩
  · have hz : ((n : Int) != (n' : Int)) = true := by simp; omega
    have HF : Hid (decide (l = l') = false) := by
      show decide (l = l') = false
      rw [decide_eq_false_iff_not]
      intro e
      exact hne (by rw [HN.out, HN'.out, e])
    clear hne
    go_enter Try.func19, Try.ntmps19
    go_wp2
    go_ret
    exact ⟨by rw [HF.out]; rfl, Below.refl _ _⟩
set_option maxHeartbeats 2000000 in
theorem toOp_any (s : Bool) (t : Int) (a : Option Addr) (n c : Nat) (zs : List Int) (w : World) (h : Rd w a n c zs) :
    Calls Try.prog 58 #[.agg #[.bool s, .int .i64 t, .slice a n c]] w fun e w' => ∃ g, e = .returned (.agg #[.bool s, .int .i64 t, .slice (some ⟨g, 0, none⟩) n n]) ∧ w.heap.size ≤ g ∧ Bk w' g 5 (zs.map (Value.int .u8)) ∧ Below w.heap.size w w' := by
  have H0 := hid h
  clear h
  have HB2 : Hid (Below w.heap.size w (((w.alloc (.cells #[.bool s, .int .i64 t, .slice a n c] 106)).alloc (.cells #[.bool false, .int .i64 0, .slice none 0 0] 111)).alloc (.cells #[.bool s, .int .i64 0, .slice none 0 0] 111))) := below_new (below_new (below_new (Below.refl _ _)))
  have KR2 : Hid (Bk (((w.alloc (.cells #[.bool s, .int .i64 t, .slice a n c] 106)).alloc (.cells #[.bool false, .int .i64 0, .slice none 0 0] 111)).alloc (.cells #[.bool s, .int .i64 0, .slice none 0 0] 111)) (w.heap.size + 1) 111 [.bool false, .int .i64 0, .slice none 0 0]) := by
    have := (Bk.new (w.alloc (.cells #[.bool s, .int .i64 t, .slice a n c] 106)) 111 [.bool false, .int .i64 0, .slice none 0 0]).alloc (.cells #[.bool s, .int .i64 0, .slice none 0 0] 111)
    show Bk _ _ _ _
    simpa using this
  have KO2 : Hid (Bk (((w.alloc (.cells #[.bool s, .int .i64 t, .slice a n c] 106)).alloc (.cells #[.bool false, .int .i64 0, .slice none 0 0] 111)).alloc (.cells #[.bool s, .int .i64 0, .slice none 0 0] 111)) (w.heap.size + 1 + 1) 111 [.bool s, .int .i64 0, .slice none 0 0]) := by
    have := Bk.new ((w.alloc (.cells #[.bool s, .int .i64 t, .slice a n c] 106)).alloc (.cells #[.bool false, .int .i64 0, .slice none 0 0] 111)) 111 [.bool s, .int .i64 0, .slice none 0 0]
    show Bk _ _ _ _
    simpa using this
  have HZ2 : Hid (w.heap.size ≤ (((w.alloc (.cells #[.bool s, .int .i64 t, .slice a n c] 106)).alloc (.cells #[.bool false, .int .i64 0, .slice none 0 0] 111)).alloc (.cells #[.bool s, .int .i64 0, .slice none 0 0] 111)).heap.size) := HB2.out.size
  go_enter Try.func58, Try.ntmps58
  go_wp2_with fail
  refine (toWrite_any t a n c zs _ (H0.out.kept HB2.out)).mono ?_
  generalize ((w.alloc (.cells #[.bool s, .int .i64 t, .slice a n c] 106)).alloc (.cells #[.bool false, .int .i64 0, .slice none 0 0] 111)).alloc (.cells #[.bool s, .int .i64 0, .slice none 0 0] 111) = W2 at *
  rintro e w1 ⟨g, rfl, hg, K0, hb1⟩
  have HB1 := hid (HB2.out.trans (hb1.mono HB2.out.size))
  have KR1 := hid (KR2.out.below hb1)
  have KO1 := hid (KO2.out.below hb1)
  have K01 := hid K0
  have HG : Hid (w.heap.size + 1 + 1 < g) := by have := KO2.out.lt; show _ < _; omega
  clear hb1 K0 KR2 KO2 HB2 hg
  have c0 := KO1.out.cell (j := 0) rfl
  have c1 := KO1.out.cell (j := 1) rfl
  have c2 := KO1.out.cell (j := 2) rfl
  have f1 := KO1.out.free 1
  have f2 := KO1.out.free 2
  have r0 := KR1.out.cell (j := 0) rfl
  have r1 := KR1.out.cell (j := 1) rfl
  have r2 := KR1.out.cell (j := 2) rfl
  have q0 := KR1.out.free 0
  have q1 := KR1.out.free 1
  have q2 := KR1.out.free 2
  have HFI : Hid (∀ (a1 a2 b0 b1 b2 : Value), Bk (((((w1.setCell ⟨w.heap.size + 1 + 1, 1, none⟩ a1).setCell ⟨w.heap.size + 1 + 1, 2, none⟩ a2).setCell ⟨w.heap.size + 1, 0, none⟩ b0).setCell ⟨w.heap.size + 1, 1, none⟩ b1).setCell ⟨w.heap.size + 1, 2, none⟩ b2) g 5 (zs.map (Value.int .u8)) ∧ Below w.heap.size w (((((w1.setCell ⟨w.heap.size + 1 + 1, 1, none⟩ a1).setCell ⟨w.heap.size + 1 + 1, 2, none⟩ a2).setCell ⟨w.heap.size + 1, 0, none⟩ b0).setCell ⟨w.heap.size + 1, 1, none⟩ b1).setCell ⟨w.heap.size + 1, 2, none⟩ b2)) := by
    intro a1 a2 b0 b1 b2
    have hg := HG.out
    refine ⟨((((K01.out.setOther (by omega) _ _).setOther (by omega) _ _).setOther (by omega) _ _).setOther (by omega) _ _).setOther (by omega) _ _, ?_⟩
    exact ((((HB1.out.setCell (by show w.heap.size ≤ w.heap.size + 1 + 1; omega) _).setCell (by show w.heap.size ≤ w.heap.size + 1 + 1; omega) _).setCell (by show w.heap.size ≤ w.heap.size + 1; omega) _).setCell (by show w.heap.size ≤ w.heap.size + 1; omega) _).setCell (by show w.heap.size ≤ w.heap.size + 1; omega) _
  go_wp2
  try simp only [Exit.inBlock, Exit.then]
  refine bodyPost_ret (v := .agg #[.bool s, .int .i64 t, .slice (some ⟨g, 0, none⟩) n n]) ?_ rfl ?_
  · refine results_op rfl _ _ _ rfl ?_ ?_ ?_
    · go_simp
    · go_simp
    · go_simp
  · have hg := HG.out
    exact ⟨g, rfl, by omega, (HFI.out _ _ _ _ _).1, (HFI.out _ _ _ _ _).2⟩
set_option maxHeartbeats 4000000 in
theorem toOpS_at (S : Nat → Prop) (a : Option Addr) (n c : Nat) (ds : List OW) (w : World) (h : Opr w S (.slice a n c) ds) (hnm : n ≤ 1048576) (hsm : smallO ds) :
    Calls Try.prog 16 #[.slice a n c] w fun e w' => ∃ U, e = .returned (.slice (some ⟨w.heap.size, 0, none⟩) n n) ∧ OO w' w.heap.size w'.heap.size n U ds ∧ Below w.heap.size w w' := by
  have HN := hid h.len.1
  have H0 := hid h
  have HSM := hid hsm
  clear h hsm
  have hmk := run_make_n (P := Try.prog) 49 111 (.agg #[.bool false, .int .i64 0, .slice none 0 0]) 3 40 Try.underlying49 infoOpI n (by omega) (by omega)
  rw [made_ops] at hmk
  have h63 : n ≤ 9223372036854775807 := by omega
  have HV0 : Hid ((List.replicate n ((false, 0, .slice none 0 0) : Bool × Int × Value)).length = n) := by show _ = _; simp
  generalize List.replicate n ((false, 0, .slice none 0 0) : Bool × Int × Value) = V0 at *
  go_enter Try.func16, Try.ntmps16
  go_wp2
  go_loopw [4] (fun i wr => ∃ (k : Nat) (V : List (Bool × Int × Value)), k ≤ n ∧ i = .int .i64 k ∧ Hid (V.length = n) ∧ Hid (Bk wr w.heap.size 111 (ocs V)) ∧ Hid (SL wr (w.heap.size + 1) k (V.map sndY) (ds.map sndO)) ∧ Hid (∀ i, i < k → (yAt V i).1 = (oAt ds i).1 ∧ (yAt V i).2.1 = (oAt ds i).2.1) ∧ Hid (Below w.heap.size w wr)) (fun i _ => n - (intOf i).toNat)
  case atStart => exact ⟨0, V0, Nat.zero_le _, rfl, HV0.out, Bk.new _ _ _, sl_zero _ _ _ _, fun i hi => absurd hi (Nat.not_lt_zero _), (Below.refl _ _).alloc (Nat.le_refl _) _⟩
  case round =>
    obtain ⟨k, V, hk, rfl, HV, HK, HA, HT, HB⟩ := hrel
    by_cases hlt : k < n
    · have hlt' : (k : Int) < (n : Int) := by omega
      have HP := hid (H0.out.below HB.out)
      obtain ⟨b, off, rfl, _, hbw, hcell⟩ := HP.out.at (by omega)
      obtain ⟨ap, np, cp, cq, ct, c0, hp⟩ := hcell k hlt
      have l0 := hid hp.len.1
      have b0 : np ≤ 1048576 := by rw [l0.out]; exact HSM.out k
      have HPp := hid (hp.rd b0)
      have HBY := hid hp.2
      have HWL : Hid (w.heap.size < wr.heap.size) := HK.out.lt
      have HSA := hid (shAt_mapO ds k)
      clear hcell hbw HP hp
      generalize hqq : (oAt ds k).1 = qq at *
      have HQQ := hid hqq
      clear hqq
      generalize htt : (oAt ds k).2.1 = tt at *
      have HTT := hid htt
      clear htt
      go_wp2_with fail
      refine (toOp_any qq tt ap np cp (oAt ds k).2.2 wr HPp.out).mono ?_
      rintro e w1 ⟨g0, rfl, e0, k0, hb1⟩
      have HK1 := hid (HK.out.below hb1)
      have HB1 := hid (HB.out.trans (hb1.mono HB.out.size))
      have HOB : Hid (Ob w1 wr.heap.size (.slice (some ⟨g0, 0, none⟩) np np) (oAt ds k).2.2) := by
        have := bk_ob (B := wr.heap.size) k0 (by rw [← l0.out]; exact b0) e0
        rw [← l0.out] at this
        exact this
      have HBW := hid hb1
      clear hb1 HB k0 e0 c0 ct cq HPp
      obtain ⟨d0, d1, d2⟩ := ocs_at V k (by rw [HV.out]; exact hlt)
      have c0 := HK1.out.cell d0
      have c1 := HK1.out.cell d1
      have c2 := HK1.out.cell d2
      have f0 := HK1.out.free (k * 3)
      have f1 := HK1.out.free (k * 3 + 1)
      have f2 := HK1.out.free (k * 3 + 2)
      clear d0 d1 d2
      have HK2 : Hid (Bk (((w1.setCell ⟨w.heap.size, k * 3, none⟩ (.bool qq)).setCell ⟨w.heap.size, k * 3 + 1, none⟩ (.int .i64 tt)).setCell ⟨w.heap.size, k * 3 + 2, none⟩ (.slice (some ⟨g0, 0, none⟩) np np)) w.heap.size 111 (ocs (V.set k (qq, tt, .slice (some ⟨g0, 0, none⟩) np np)))) := by
        show Bk _ _ _ _
        rw [ocs_set _ _ _ (by rw [HV.out]; exact hlt)]
        exact ((HK1.out.set _ _).set _ _).set _ _
      have HB2 : Hid (Below w.heap.size w (((w1.setCell ⟨w.heap.size, k * 3, none⟩ (.bool qq)).setCell ⟨w.heap.size, k * 3 + 1, none⟩ (.int .i64 tt)).setCell ⟨w.heap.size, k * 3 + 2, none⟩ (.slice (some ⟨g0, 0, none⟩) np np))) := ((HB1.out.setCell (Nat.le_refl _) _).setCell (Nat.le_refl _) _).setCell (Nat.le_refl _) _
      have HA2 : Hid (SL (((w1.setCell ⟨w.heap.size, k * 3, none⟩ (.bool qq)).setCell ⟨w.heap.size, k * 3 + 1, none⟩ (.int .i64 tt)).setCell ⟨w.heap.size, k * 3 + 2, none⟩ (.slice (some ⟨g0, 0, none⟩) np np)) (w.heap.size + 1) (k + 1) ((V.set k (qq, tt, .slice (some ⟨g0, 0, none⟩) np np)).map sndY) (ds.map sndO)) := by
        show SL _ _ _ _ _
        rw [List.map_set]
        exact HA.out.put HBW.out (by rw [HSA.out]; exact HOB.out) (by rw [HSA.out]; exact HBY.out) (((only_set (R := fun y => y = w.heap.size) rfl _).trans (only_set (R := fun y => y = w.heap.size) rfl _)).trans (only_set (R := fun y => y = w.heap.size) rfl _)) (Nat.lt_succ_self _) HWL.out (by rw [List.length_map, HV.out]; exact hlt)
      have HT2 : Hid (∀ i, i < k + 1 → (yAt (V.set k (qq, tt, .slice (some ⟨g0, 0, none⟩) np np)) i).1 = (oAt ds i).1 ∧ (yAt (V.set k (qq, tt, .slice (some ⟨g0, 0, none⟩) np np)) i).2.1 = (oAt ds i).2.1) := by
        intro i hi
        by_cases e : i = k
        · subst e; rw [yAt_set (by rw [HV.out]; exact hlt)]; exact ⟨HQQ.out.symm, HTT.out.symm⟩
        · rw [yAt_other e]; exact HT.out i (by omega)
      have HV2 : Hid ((V.set k (qq, tt, .slice (some ⟨g0, 0, none⟩) np np)).length = n) := by show _ = _; rw [List.length_set]; exact HV.out
      clear HA HB1 HK1 HOB HBW HT
      generalize (yAt V k).1 = o0 at c0
      generalize (yAt V k).2.1 = o1 at c1
      generalize (yAt V k).2.2 = o2 at c2
      go_wp2
      go_roundw
      case rel => exact ⟨k + 1, _, by omega, by go_num, HV2.out, HK2.out, HA2.out, HT2.out, HB2.out⟩
      case measure => simp [intOf]; omega
    · have hk' : k = n := by omega
      have HR : Hid (OO wr w.heap.size wr.heap.size n V ds) := by
        subst hk'
        exact ⟨HV.out, HN.out, HK.out, HA.out, HT.out, hnm, HK.out.lt, fun i hi y e => (World.ownsRow.lt (HA.out.own i hi).1 y (by rw [uAt_mapY]; exact e)).2⟩
      clear hk'
      go_wp2
      go_ret
      exact ⟨V, rfl, HR.out, HB.out⟩
end Go.Proofs.Ytcpdedpgjaimkaa

