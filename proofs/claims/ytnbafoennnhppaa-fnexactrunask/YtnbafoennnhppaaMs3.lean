/-
  A pair put into rising data, or its key taken out: the specification's way.
-/
import Derived.Test.YtnbafoennnhppaaMs2
import Derived.Deep.RegionHeld3
import Derived.Test.YtnbafoennnhppaaMs1
import Derived.Laws.IdiomStrings
namespace Go.Proofs.Ytnbafoennnhppaa
open Go.RowKit
def lpStep (k v : ByteArray) (s : List PB × Bool) (p : PB) : List PB × Bool :=
  let o1 := if s.2 = false ∧ klt p.1 k = false then s.1 ++ [(k, v)] else s.1
  ((if p.1 = k then o1 else o1 ++ [p]), s.2 || !klt p.1 k)
def lpS (l : List PB) (k v : ByteArray) (gone : Bool) (j : Nat) : List PB × Bool := (l.take j).foldl (lpStep k v) ([], gone)
def lpE (k v : ByteArray) (s : List PB × Bool) : List PB := if s.2 then s.1 else s.1 ++ [(k, v)]
def lpV (l : List PB) (k v : ByteArray) (gone : Bool) : List PB := lpE k v (lpS l k v gone l.length)
theorem lpS_step (l : List PB) (k v : ByteArray) (gone : Bool) (j : Nat) (h : j < l.length) : lpS l k v gone (j + 1) = lpStep k v (lpS l k v gone j) (pAtB l j) := by
  unfold lpS
  rw [List.take_succ_eq_append_getElem h, List.foldl_append, pAtB_lt h]
  rfl
theorem lp_true (k v : ByteArray) : ∀ (l acc : List PB), l.foldl (lpStep k v) (acc, true) = (acc ++ l.filter (fun p => !decide (p.1 = k)), true)
  | [], acc => by simp
  | p :: l, acc => by
    rw [List.foldl_cons]
    have e : lpStep k v (acc, true) p = (acc ++ (if p.1 = k then [] else [p]), true) := by
      unfold lpStep
      by_cases hk : p.1 = k <;> simp [hk]
    rw [e, lp_true k v l]
    by_cases hk : p.1 = k
    · simp [hk]
    · simp [hk]
theorem filt_gt {l : List PB} {k : ByteArray} (h : ∀ x ∈ l, klt k x.1 = true) : l.filter (fun p => !decide (p.1 = k)) = l := by
  refine List.filter_eq_self.2 fun x hx => ?_
  have h1 := h x hx
  have : ¬ x.1 = k := fun e => by rw [e, klt_irrefl] at h1; cases h1
  simp [this]
theorem lp_false (k v : ByteArray) : ∀ (l acc : List PB), Asc l → lpE k v (l.foldl (lpStep k v) (acc, false)) = acc ++ insP l (k, v)
  | [], acc, _ => by simp [lpE, insP_nil]
  | p :: l, acc, h => by
    rw [List.foldl_cons]
    by_cases hk : p.1 = k
    · have e : lpStep k v (acc, false) p = (acc ++ [(k, v)], true) := by
        unfold lpStep
        simp [hk, klt_irrefl]
      rw [e, lp_true, insP_eq (p := (k, v)) hk]
      have hg : l.filter (fun p => !decide (p.1 = k)) = l := filt_gt fun x hx => by have := asc_lt h hx; rw [hk] at this; exact this
      simp [lpE, hg]
    · cases hl : klt p.1 k with
      | true =>
        have e : lpStep k v (acc, false) p = (acc ++ [p], false) := by
          unfold lpStep
          simp [hk, hl]
        rw [e, lp_false k v l _ (asc_tail h), insP_lt (p := (k, v)) hl]
        simp
      | false =>
        have e : lpStep k v (acc, false) p = (acc ++ [(k, v)] ++ [p], true) := by
          unfold lpStep
          simp [hk, hl]
        have hkp : klt k p.1 = true := klt_total hl hk
        rw [e, lp_true, insP_gt (p := (k, v)) hl hk]
        have hg : l.filter (fun p => !decide (p.1 = k)) = l := filt_gt fun x hx => klt_trans hkp (asc_lt h hx)
        simp [lpE, hg]
theorem del_filt (k : ByteArray) : ∀ (l : List PB), Asc l → l.filter (fun p => !decide (p.1 = k)) = delP l k
  | [], _ => by simp [delP_nil]
  | p :: l, h => by
    by_cases hk : p.1 = k
    · rw [delP_eq hk]
      have hg : l.filter (fun p => !decide (p.1 = k)) = l := filt_gt fun x hx => by have := asc_lt h hx; rw [hk] at this; exact this
      simp [hk, hg]
    · cases hl : klt p.1 k with
      | true => rw [delP_lt hl, ← del_filt k l (asc_tail h)]; simp [hk]
      | false =>
        have hkp : klt k p.1 = true := klt_total hl hk
        have hg : l.filter (fun p => !decide (p.1 = k)) = l := filt_gt fun x hx => klt_trans hkp (asc_lt h hx)
        rw [delP_gt hl hk]
        simp [hk, hg]
theorem lpV_put {l : List PB} (h : Asc l) (k v : ByteArray) : lpV l k v false = insP l (k, v) := by
  unfold lpV lpS
  rw [List.take_length, lp_false k v l [] h]
  rfl
theorem lpV_del {l : List PB} (h : Asc l) (k v : ByteArray) : lpV l k v true = delP l k := by
  unfold lpV lpS
  rw [List.take_length, lp_true k v l []]
  simp [lpE, del_filt k l h]
set_option maxHeartbeats 8000000 in
set_option maxRecDepth 20000 in
theorem l10Put_any (S : Nat → Prop) (a : Option Addr) (n c : Nat) (l : List PB) (k v : ByteArray) (gone : Bool) (w : World) (h : Pr w S (.slice a n c) l) (hs : n ≤ 1048576) :
    Calls Try.prog 43 #[.slice a n c, .agg #[.string k, .string v, .bool gone]] w fun e w' => ∃ a' n' c', e = .returned (.slice a' n' c') ∧ Ow w' w.heap.size (.slice a' n' c') (lpV l k v gone) ∧ Below w.heap.size w w' := by
  have hb0 := below_new (o := .cells #[.string k, .string v, .bool gone] 81) (w := w) (Below.refl _ _)
  have HB0 := hid hb0
  have K0 := hid (Bk.new w 81 [.string k, .string v, .bool gone])
  have P0 := hid (h.below' hb0)
  have HN := hid (Rw.len h).1
  clear hb0 h
  go_enter Try.func43, Try.ntmps43
  have e2 := K0.out.cell (j := 2) rfl
  have hbn := below_new (o := .cells #[] 34) (w := w.alloc (.cells #[.string k, .string v, .bool gone] 81)) (Below.refl _ _)
  have HO1 := hid (ow_new (w.alloc (.cells #[.string k, .string v, .bool gone] 81)) (w.alloc (.cells #[.string k, .string v, .bool gone] 81)).heap.size (Nat.le_refl _))
  have HB1 := hid hbn
  have e2' := (K0.out.below hbn).cell (j := 2) rfl
  clear hbn
  go_wp2_with fail
  have HUZ : Hid ((w.alloc (.cells #[.string k, .string v, .bool gone] 81)).heap.size = w.heap.size + 1) := by show _ = _; simp
  generalize hU : w.alloc (.cells #[.string k, .string v, .bool gone] 81) = U at *
  clear hU e2 e2'
  go_loopw [5, 6, 8, 14] (fun x d y i wr => ∃ (j : Nat) (av : Option Addr) (nv cv : Nat) (O : List PB) (db : Bool), j ≤ n ∧ i = .int .i64 j ∧ x = .slice av nv cv ∧ d = .bool db ∧ Hid (lpS l k v gone j = (O, db)) ∧ Hid (Ow wr U.heap.size (.slice av nv cv) O) ∧ Hid (O.length ≤ j + (if db then 1 else 0)) ∧ Hid (Below U.heap.size U wr)) (fun _ _ _ i _ => n - (intOf i).toNat)
  case atStart => exact ⟨0, _, 0, 0, [], gone, Nat.zero_le _, rfl, rfl, rfl, rfl, by have := HO1.out; rw [HUZ.out] at this ⊢; exact this, Nat.zero_le _, HB1.out⟩
  case round =>
    obtain ⟨j, av, nv, cv, O, db, hj, rfl, rfl, rfl, HS, HO, HL, HB⟩ := hrel
    clear HO1 HB1
    by_cases hlt : j < n
    · have hlt' : (j : Int) < (n : Int) := by omega
      have hj0 : (0 : Int) ≤ (j : Int) := by omega
      have HSJ : Hid (lpS l k v gone (j + 1) = lpStep k v (O, db) (pAtB l j)) := by
        show _ = _
        rw [lpS_step l k v gone j (by rw [← HN.out]; exact hlt), HS.out]
      have PJ := hid (P0.out.below' HB.out)
      obtain ⟨b, off, rfl, _, hbw, hcell⟩ := PJ.out.at (by omega)
      obtain ⟨d0, d1⟩ := hcell j hlt
      have hOl := fun y hy => (World.ownsRow.lt HO.out y hy)
      have HOL := hid hOl
      clear hcell hbw PJ HS hOl
      generalize pAtB l j = cur at *
      obtain ⟨kk, vv⟩ := cur
      simp only at d0 d1
      have hbp := below_new (o := .cells #[.string kk, .string vv] 34) (w := wr) (Below.refl _ _)
      have KP2 := hid (Bk.new wr 34 [.string kk, .string vv])
      have HO2 := hid (HO.out.kept hbp)
      have HB2 := hid (HB.out.trans (hbp.mono HB.out.size))
      have HW2 : Hid (wr.heap.size < (wr.alloc (.cells #[.string kk, .string vv] 34)).heap.size) := KP2.out.lt
      clear hbp HO
      have hcv := (Rw.len (HO2.out.pr (S := fun _ => True) (fun _ _ _ _ => trivial))).2
      rcases tri k kk with ⟨t1, t2, t3, t4⟩ | rfl | ⟨t1, t2, t3, t4⟩
      · have h1 : klt kk k = false := t2
        have h2 : ¬ kk = k := fun e => by rw [e] at t3; simp at t3
        have H1 := hid h1
        have H2 := hid h2
        clear h2
        clear h1
        cases db with
        | true =>
          have HLE : Hid (O.length ≤ 1048576) := by show _ ≤ _; have := HL.out; simp at this; omega
          have e0 := (K0.out.below HB2.out).cell (j := 0) rfl
          have e1 := (K0.out.below HB2.out).cell (j := 1) rfl
          have q0 := KP2.out.cell (j := 0) rfl
          have q1 := KP2.out.cell (j := 1) rfl
          have hb := below_new (o := .cells #[.string kk, .string vv] 34) (w := (wr.alloc (.cells #[.string kk, .string vv] 34))) (Below.refl _ _)
          have KS : Hid (Bk ((wr.alloc (.cells #[.string kk, .string vv] 34)).alloc (.cells #[.string kk, .string vv] 34)) (wr.heap.size + 1) 34 [.string kk, .string vv]) := by have := Bk.new (wr.alloc (.cells #[.string kk, .string vv] 34)) 34 [.string kk, .string vv]; show Bk _ _ _ _; simpa using this
          have HOa := hid (HO2.out.kept hb)
          have KPa := hid (KP2.out.below hb)
          have HBa := hid (HB2.out.trans (hb.mono HB2.out.size))
          have HWa := hid (Nat.lt_of_lt_of_le HW2.out hb.size)
          clear hb HO2 HB2
          go_wp2_with (at_builtin; refine wpList_append_pair1 rfl _ _ rfl U.heap.size _ O rfl HOa.out (wr.heap.size + 1) kk vv rfl KS.out ?q1 ?q2 ?_)
          case q1 => exact HLE.out
          case q2 => first | exact HBa.out.size | (have h := HBa.out.size; simp at h; omega)
          intro a7 n7 c7 w7 hO hg hown
          have HO7 : Hid (Ow w7 U.heap.size (.slice a7 n7 c7) (O ++ [(kk, vv)])) := by show Ow _ _ _ _; first | exact hO | simpa using hO
          have HB7 : Hid (Below U.heap.size U w7) := HBa.out.trans (grown_belowB HOa.out hg HBa.out.size)
          have KP7 : Hid (Bk w7 wr.heap.size 34 [.string kk, .string vv]) := KPa.out.to (only_of_grown hg (R := fun y => (Value.slice av nv cv).ownBlock = some y) (fun q hq => hq)) (fun e => by have := (HOL.out _ e).2; omega)
          have HW7 : Hid (wr.heap.size < w7.heap.size) := Nat.lt_of_lt_of_le HWa.out hg.size
          have HOL7 : Hid (∀ y, (Value.slice a7 n7 c7).ownBlock = some y → U.heap.size ≤ y ∧ (y < wr.heap.size ∨ wr.heap.size < y)) := by
            intro y hy
            refine ⟨(World.ownsRow.lt hO y hy).1, ?_⟩
            rcases hown with e | e
            · rw [e] at hy; exact .inl (HOL.out y hy).2
            · rw [e] at hy; cases hy; exact .inr (by have h := HW2.out; first | omega | (simp at h ⊢; omega) | simp)
          clear e0 e1 q0 q1
          clear hO hg hown KS HOa KPa HBa HWa
          have HLF : Hid ((O ++ [(kk, vv)]).length ≤ j + 1 + (if true then 1 else 0)) := by show _ ≤ _; have := HL.out; simp at this ⊢; omega
          clear HOL HOL7
          have HS1 : Hid (lpS l k v gone (j + 1) = (O ++ [(kk, vv)], true)) := by
            show _ = _
            rw [HSJ.out]
            unfold lpStep
            simp [H1.out, H2.out]
          clear HSJ
          go_wp2
          go_roundw
          case rel => exact ⟨j + 1, a7, n7, c7, O ++ [(kk, vv)], _, by omega, by go_num, rfl, rfl, HS1.out, HO7.out, HLF.out, HB7.out⟩
          case measure => simp [intOf]; omega
        | false =>
          have HLE : Hid (O.length ≤ 1048576) := by show _ ≤ _; have := HL.out; simp at this; omega
          have e0 := (K0.out.below HB2.out).cell (j := 0) rfl
          have e1 := (K0.out.below HB2.out).cell (j := 1) rfl
          have q0 := KP2.out.cell (j := 0) rfl
          have q1 := KP2.out.cell (j := 1) rfl
          have hb := below_new (o := .cells #[.string k, .string v] 34) (w := (wr.alloc (.cells #[.string kk, .string vv] 34))) (Below.refl _ _)
          have KS : Hid (Bk ((wr.alloc (.cells #[.string kk, .string vv] 34)).alloc (.cells #[.string k, .string v] 34)) (wr.heap.size + 1) 34 [.string k, .string v]) := by have := Bk.new (wr.alloc (.cells #[.string kk, .string vv] 34)) 34 [.string k, .string v]; show Bk _ _ _ _; simpa using this
          have HOa := hid (HO2.out.kept hb)
          have KPa := hid (KP2.out.below hb)
          have HBa := hid (HB2.out.trans (hb.mono HB2.out.size))
          have HWa := hid (Nat.lt_of_lt_of_le HW2.out hb.size)
          clear hb HO2 HB2
          go_wp2_with (at_builtin; refine wpList_append_pair1 rfl _ _ rfl U.heap.size _ O rfl HOa.out (wr.heap.size + 1) k v rfl KS.out ?q1 ?q2 ?_)
          case q1 => exact HLE.out
          case q2 => first | exact HBa.out.size | (have h := HBa.out.size; simp at h; omega)
          intro a7 n7 c7 w7 hO hg hown
          have HO7 : Hid (Ow w7 U.heap.size (.slice a7 n7 c7) (O ++ [(k, v)])) := by show Ow _ _ _ _; first | exact hO | simpa using hO
          have HB7 : Hid (Below U.heap.size U w7) := HBa.out.trans (grown_belowB HOa.out hg HBa.out.size)
          have KP7 : Hid (Bk w7 wr.heap.size 34 [.string kk, .string vv]) := KPa.out.to (only_of_grown hg (R := fun y => (Value.slice av nv cv).ownBlock = some y) (fun q hq => hq)) (fun e => by have := (HOL.out _ e).2; omega)
          have HW7 : Hid (wr.heap.size < w7.heap.size) := Nat.lt_of_lt_of_le HWa.out hg.size
          have HOL7 : Hid (∀ y, (Value.slice a7 n7 c7).ownBlock = some y → U.heap.size ≤ y ∧ (y < wr.heap.size ∨ wr.heap.size < y)) := by
            intro y hy
            refine ⟨(World.ownsRow.lt hO y hy).1, ?_⟩
            rcases hown with e | e
            · rw [e] at hy; exact .inl (HOL.out y hy).2
            · rw [e] at hy; cases hy; exact .inr (by have h := HW2.out; first | omega | (simp at h ⊢; omega) | simp)
          clear e0 e1 q0 q1
          clear hO hg hown KS HOa KPa HBa HWa
          have HLE2 : Hid ((O ++ [(k, v)]).length ≤ 1048576) := by show _ ≤ _; have := HL.out; simp at this ⊢; omega
          have e0 := (K0.out.below HB7.out).cell (j := 0) rfl
          have e1 := (K0.out.below HB7.out).cell (j := 1) rfl
          have q0 := KP7.out.cell (j := 0) rfl
          have q1 := KP7.out.cell (j := 1) rfl
          have hb := below_new (o := .cells #[.string kk, .string vv] 34) (w := w7) (Below.refl _ _)
          have KS := hid (Bk.new w7 34 [.string kk, .string vv])
          have HOa := hid (HO7.out.kept hb)
          have KPa := hid (KP7.out.below hb)
          have HBa := hid (HB7.out.trans (hb.mono HB7.out.size))
          have HWa := hid (Nat.lt_of_lt_of_le HW7.out hb.size)
          clear hb HO7 HB7
          go_wp2_with (at_builtin; refine wpList_append_pair1 rfl _ _ rfl U.heap.size _ (O ++ [(k, v)]) rfl HOa.out (w7.heap.size) kk vv rfl KS.out ?q1 ?q2 ?_)
          case q1 => exact HLE2.out
          case q2 => first | exact HBa.out.size | (have h := HBa.out.size; simp at h; omega)
          intro a8 n8 c8 w8 hO hg hown
          have HO8 : Hid (Ow w8 U.heap.size (.slice a8 n8 c8) ((O ++ [(k, v)]) ++ [(kk, vv)])) := by show Ow _ _ _ _; first | exact hO | simpa using hO
          have HB8 : Hid (Below U.heap.size U w8) := HBa.out.trans (grown_belowB HOa.out hg HBa.out.size)
          have KP8 : Hid (Bk w8 wr.heap.size 34 [.string kk, .string vv]) := KPa.out.to (only_of_grown hg (R := fun y => (Value.slice a7 n7 c7).ownBlock = some y) (fun q hq => hq)) (fun e => by have := (HOL7.out _ e).2; omega)
          have HW8 : Hid (wr.heap.size < w8.heap.size) := Nat.lt_of_lt_of_le HWa.out hg.size
          have HOL8 : Hid (∀ y, (Value.slice a8 n8 c8).ownBlock = some y → U.heap.size ≤ y ∧ (y < wr.heap.size ∨ wr.heap.size < y)) := by
            intro y hy
            refine ⟨(World.ownsRow.lt hO y hy).1, ?_⟩
            rcases hown with e | e
            · rw [e] at hy; exact (HOL7.out y hy).2
            · rw [e] at hy; cases hy; exact .inr (by have h := HW7.out; first | omega | (simp at h ⊢; omega) | simp)
          clear e0 e1 q0 q1
          clear hO hg hown KS HOa KPa HBa HWa
          have HLF : Hid ((O ++ [(k, v)] ++ [(kk, vv)]).length ≤ j + 1 + (if true then 1 else 0)) := by show _ ≤ _; have := HL.out; simp at this ⊢; omega
          clear HOL HOL7 HOL8
          have HS1 : Hid (lpS l k v gone (j + 1) = (O ++ [(k, v)] ++ [(kk, vv)], true)) := by
            show _ = _
            rw [HSJ.out]
            unfold lpStep
            simp [H1.out, H2.out]
          clear HSJ
          go_wp2
          go_roundw
          case rel => exact ⟨j + 1, a8, n8, c8, O ++ [(k, v)] ++ [(kk, vv)], _, by omega, by go_num, rfl, rfl, HS1.out, HO8.out, HLF.out, HB8.out⟩
          case measure => simp [intOf]; omega
      · have h1 : klt k k = false := klt_irrefl k
        have t1 := less_irrefl k.toList
        have H1 := hid h1
        clear h1
        cases db with
        | true =>
          have HLE : Hid (O.length ≤ 1048576) := by show _ ≤ _; have := HL.out; simp at this; omega
          have HLF : Hid (O.length ≤ j + 1 + (if true then 1 else 0)) := by show _ ≤ _; have := HL.out; simp at this ⊢; omega
          have e0 := (K0.out.below HB2.out).cell (j := 0) rfl
          have e1 := (K0.out.below HB2.out).cell (j := 1) rfl
          have q0 := KP2.out.cell (j := 0) rfl
          have q1 := KP2.out.cell (j := 1) rfl
          have HS1 : Hid (lpS l k v gone (j + 1) = (O, true)) := by
            show _ = _
            rw [HSJ.out]
            unfold lpStep
            simp [H1.out]
          clear HSJ
          go_wp2
          go_roundw
          case rel => exact ⟨j + 1, av, nv, cv, O, _, by omega, by go_num, rfl, rfl, HS1.out, HO2.out, HLF.out, HB2.out⟩
          case measure => simp [intOf]; omega
        | false =>
          have HLE : Hid (O.length ≤ 1048576) := by show _ ≤ _; have := HL.out; simp at this; omega
          have e0 := (K0.out.below HB2.out).cell (j := 0) rfl
          have e1 := (K0.out.below HB2.out).cell (j := 1) rfl
          have q0 := KP2.out.cell (j := 0) rfl
          have q1 := KP2.out.cell (j := 1) rfl
          have hb := below_new (o := .cells #[.string k, .string v] 34) (w := (wr.alloc (.cells #[.string k, .string vv] 34))) (Below.refl _ _)
          have KS : Hid (Bk ((wr.alloc (.cells #[.string k, .string vv] 34)).alloc (.cells #[.string k, .string v] 34)) (wr.heap.size + 1) 34 [.string k, .string v]) := by have := Bk.new (wr.alloc (.cells #[.string k, .string vv] 34)) 34 [.string k, .string v]; show Bk _ _ _ _; simpa using this
          have HOa := hid (HO2.out.kept hb)
          have KPa := hid (KP2.out.below hb)
          have HBa := hid (HB2.out.trans (hb.mono HB2.out.size))
          have HWa := hid (Nat.lt_of_lt_of_le HW2.out hb.size)
          clear hb HO2 HB2
          go_wp2_with (at_builtin; refine wpList_append_pair1 rfl _ _ rfl U.heap.size _ O rfl HOa.out (wr.heap.size + 1) k v rfl KS.out ?q1 ?q2 ?_)
          case q1 => exact HLE.out
          case q2 => first | exact HBa.out.size | (have h := HBa.out.size; simp at h; omega)
          intro a7 n7 c7 w7 hO hg hown
          have HO7 : Hid (Ow w7 U.heap.size (.slice a7 n7 c7) (O ++ [(k, v)])) := by show Ow _ _ _ _; first | exact hO | simpa using hO
          have HB7 : Hid (Below U.heap.size U w7) := HBa.out.trans (grown_belowB HOa.out hg HBa.out.size)
          have KP7 : Hid (Bk w7 wr.heap.size 34 [.string k, .string vv]) := KPa.out.to (only_of_grown hg (R := fun y => (Value.slice av nv cv).ownBlock = some y) (fun q hq => hq)) (fun e => by have := (HOL.out _ e).2; omega)
          have HW7 : Hid (wr.heap.size < w7.heap.size) := Nat.lt_of_lt_of_le HWa.out hg.size
          have HOL7 : Hid (∀ y, (Value.slice a7 n7 c7).ownBlock = some y → U.heap.size ≤ y ∧ (y < wr.heap.size ∨ wr.heap.size < y)) := by
            intro y hy
            refine ⟨(World.ownsRow.lt hO y hy).1, ?_⟩
            rcases hown with e | e
            · rw [e] at hy; exact .inl (HOL.out y hy).2
            · rw [e] at hy; cases hy; exact .inr (by have h := HW2.out; first | omega | (simp at h ⊢; omega) | simp)
          clear e0 e1 q0 q1
          clear hO hg hown KS HOa KPa HBa HWa
          have e0 := (K0.out.below HB7.out).cell (j := 0) rfl
          have e1 := (K0.out.below HB7.out).cell (j := 1) rfl
          have q0 := KP7.out.cell (j := 0) rfl
          have q1 := KP7.out.cell (j := 1) rfl
          have HLF : Hid ((O ++ [(k, v)]).length ≤ j + 1 + (if true then 1 else 0)) := by show _ ≤ _; have := HL.out; simp at this ⊢; omega
          clear HOL HOL7
          have HS1 : Hid (lpS l k v gone (j + 1) = (O ++ [(k, v)], true)) := by
            show _ = _
            rw [HSJ.out]
            unfold lpStep
            simp [H1.out]
          clear HSJ
          go_wp2
          go_roundw
          case rel => exact ⟨j + 1, a7, n7, c7, O ++ [(k, v)], _, by omega, by go_num, rfl, rfl, HS1.out, HO7.out, HLF.out, HB7.out⟩
          case measure => simp [intOf]; omega
      · have h1 : klt kk k = true := t2
        have h2 : ¬ kk = k := fun e => by rw [e] at t3; simp at t3
        have H1 := hid h1
        have H2 := hid h2
        clear h2
        clear h1
        cases db with
        | true =>
          have HLE : Hid (O.length ≤ 1048576) := by show _ ≤ _; have := HL.out; simp at this; omega
          have e0 := (K0.out.below HB2.out).cell (j := 0) rfl
          have e1 := (K0.out.below HB2.out).cell (j := 1) rfl
          have q0 := KP2.out.cell (j := 0) rfl
          have q1 := KP2.out.cell (j := 1) rfl
          have hb := below_new (o := .cells #[.string kk, .string vv] 34) (w := (wr.alloc (.cells #[.string kk, .string vv] 34))) (Below.refl _ _)
          have KS : Hid (Bk ((wr.alloc (.cells #[.string kk, .string vv] 34)).alloc (.cells #[.string kk, .string vv] 34)) (wr.heap.size + 1) 34 [.string kk, .string vv]) := by have := Bk.new (wr.alloc (.cells #[.string kk, .string vv] 34)) 34 [.string kk, .string vv]; show Bk _ _ _ _; simpa using this
          have HOa := hid (HO2.out.kept hb)
          have KPa := hid (KP2.out.below hb)
          have HBa := hid (HB2.out.trans (hb.mono HB2.out.size))
          have HWa := hid (Nat.lt_of_lt_of_le HW2.out hb.size)
          clear hb HO2 HB2
          go_wp2_with (at_builtin; refine wpList_append_pair1 rfl _ _ rfl U.heap.size _ O rfl HOa.out (wr.heap.size + 1) kk vv rfl KS.out ?q1 ?q2 ?_)
          case q1 => exact HLE.out
          case q2 => first | exact HBa.out.size | (have h := HBa.out.size; simp at h; omega)
          intro a7 n7 c7 w7 hO hg hown
          have HO7 : Hid (Ow w7 U.heap.size (.slice a7 n7 c7) (O ++ [(kk, vv)])) := by show Ow _ _ _ _; first | exact hO | simpa using hO
          have HB7 : Hid (Below U.heap.size U w7) := HBa.out.trans (grown_belowB HOa.out hg HBa.out.size)
          have KP7 : Hid (Bk w7 wr.heap.size 34 [.string kk, .string vv]) := KPa.out.to (only_of_grown hg (R := fun y => (Value.slice av nv cv).ownBlock = some y) (fun q hq => hq)) (fun e => by have := (HOL.out _ e).2; omega)
          have HW7 : Hid (wr.heap.size < w7.heap.size) := Nat.lt_of_lt_of_le HWa.out hg.size
          have HOL7 : Hid (∀ y, (Value.slice a7 n7 c7).ownBlock = some y → U.heap.size ≤ y ∧ (y < wr.heap.size ∨ wr.heap.size < y)) := by
            intro y hy
            refine ⟨(World.ownsRow.lt hO y hy).1, ?_⟩
            rcases hown with e | e
            · rw [e] at hy; exact .inl (HOL.out y hy).2
            · rw [e] at hy; cases hy; exact .inr (by have h := HW2.out; first | omega | (simp at h ⊢; omega) | simp)
          clear e0 e1 q0 q1
          clear hO hg hown KS HOa KPa HBa HWa
          have HLF : Hid ((O ++ [(kk, vv)]).length ≤ j + 1 + (if true then 1 else 0)) := by show _ ≤ _; have := HL.out; simp at this ⊢; omega
          clear HOL HOL7
          have HS1 : Hid (lpS l k v gone (j + 1) = (O ++ [(kk, vv)], true)) := by
            show _ = _
            rw [HSJ.out]
            unfold lpStep
            simp [H1.out, H2.out]
          clear HSJ
          go_wp2
          go_roundw
          case rel => exact ⟨j + 1, a7, n7, c7, O ++ [(kk, vv)], _, by omega, by go_num, rfl, rfl, HS1.out, HO7.out, HLF.out, HB7.out⟩
          case measure => simp [intOf]; omega
        | false =>
          have HLE : Hid (O.length ≤ 1048576) := by show _ ≤ _; have := HL.out; simp at this; omega
          have e0 := (K0.out.below HB2.out).cell (j := 0) rfl
          have e1 := (K0.out.below HB2.out).cell (j := 1) rfl
          have q0 := KP2.out.cell (j := 0) rfl
          have q1 := KP2.out.cell (j := 1) rfl
          have hb := below_new (o := .cells #[.string kk, .string vv] 34) (w := (wr.alloc (.cells #[.string kk, .string vv] 34))) (Below.refl _ _)
          have KS : Hid (Bk ((wr.alloc (.cells #[.string kk, .string vv] 34)).alloc (.cells #[.string kk, .string vv] 34)) (wr.heap.size + 1) 34 [.string kk, .string vv]) := by have := Bk.new (wr.alloc (.cells #[.string kk, .string vv] 34)) 34 [.string kk, .string vv]; show Bk _ _ _ _; simpa using this
          have HOa := hid (HO2.out.kept hb)
          have KPa := hid (KP2.out.below hb)
          have HBa := hid (HB2.out.trans (hb.mono HB2.out.size))
          have HWa := hid (Nat.lt_of_lt_of_le HW2.out hb.size)
          clear hb HO2 HB2
          go_wp2_with (at_builtin; refine wpList_append_pair1 rfl _ _ rfl U.heap.size _ O rfl HOa.out (wr.heap.size + 1) kk vv rfl KS.out ?q1 ?q2 ?_)
          case q1 => exact HLE.out
          case q2 => first | exact HBa.out.size | (have h := HBa.out.size; simp at h; omega)
          intro a7 n7 c7 w7 hO hg hown
          have HO7 : Hid (Ow w7 U.heap.size (.slice a7 n7 c7) (O ++ [(kk, vv)])) := by show Ow _ _ _ _; first | exact hO | simpa using hO
          have HB7 : Hid (Below U.heap.size U w7) := HBa.out.trans (grown_belowB HOa.out hg HBa.out.size)
          have KP7 : Hid (Bk w7 wr.heap.size 34 [.string kk, .string vv]) := KPa.out.to (only_of_grown hg (R := fun y => (Value.slice av nv cv).ownBlock = some y) (fun q hq => hq)) (fun e => by have := (HOL.out _ e).2; omega)
          have HW7 : Hid (wr.heap.size < w7.heap.size) := Nat.lt_of_lt_of_le HWa.out hg.size
          have HOL7 : Hid (∀ y, (Value.slice a7 n7 c7).ownBlock = some y → U.heap.size ≤ y ∧ (y < wr.heap.size ∨ wr.heap.size < y)) := by
            intro y hy
            refine ⟨(World.ownsRow.lt hO y hy).1, ?_⟩
            rcases hown with e | e
            · rw [e] at hy; exact .inl (HOL.out y hy).2
            · rw [e] at hy; cases hy; exact .inr (by have h := HW2.out; first | omega | (simp at h ⊢; omega) | simp)
          clear e0 e1 q0 q1
          clear hO hg hown KS HOa KPa HBa HWa
          have HLF : Hid ((O ++ [(kk, vv)]).length ≤ j + 1 + (if false then 1 else 0)) := by show _ ≤ _; have := HL.out; simp at this ⊢; omega
          clear HOL HOL7
          have HS1 : Hid (lpS l k v gone (j + 1) = (O ++ [(kk, vv)], false)) := by
            show _ = _
            rw [HSJ.out]
            unfold lpStep
            simp [H1.out, H2.out]
          clear HSJ
          go_wp2
          go_roundw
          case rel => exact ⟨j + 1, a7, n7, c7, O ++ [(kk, vv)], _, by omega, by go_num, rfl, rfl, HS1.out, HO7.out, HLF.out, HB7.out⟩
          case measure => simp [intOf]; omega
    · have hlt' : ¬ (j : Int) < (n : Int) := by omega
      have HV : Hid (lpV l k v gone = lpE k v (O, db)) := by
        show _ = _
        unfold lpV
        rw [← HN.out, show n = j by omega, HS.out]
      clear HS
      have e0 := (K0.out.below HB.out).cell (j := 0) rfl
      have e1 := (K0.out.below HB.out).cell (j := 1) rfl
      cases db with
      | true =>
        go_wp2
        go_ret
        exact ⟨_, _, _, rfl, by rw [HV.out]; exact ow_mono HO.out HB0.out.size, HB0.out.trans (HB.out.mono HB0.out.size)⟩
      | false =>
        have HLE : Hid (O.length ≤ 1048576) := by show _ ≤ _; have := HL.out; simp at this; omega
        have hb := below_new (o := .cells #[.string k, .string v] 34) (w := wr) (Below.refl _ _)
        have KS := hid (Bk.new wr 34 [.string k, .string v])
        have HOa := hid (HO.out.kept hb)
        have HBa := hid (HB.out.trans (hb.mono HB.out.size))
        clear hb HO HB
        go_wp2_with (at_builtin; refine wpList_append_pair1 rfl _ _ rfl U.heap.size _ O rfl HOa.out wr.heap.size k v rfl KS.out ?q1 ?q2 ?_)
        case q1 => exact HLE.out
        case q2 => first | exact HBa.out.size | (have h := HBa.out.size; simp at h; omega)
        intro a7 n7 c7 w7 hO hg hown
        have HO7 : Hid (Ow w7 U.heap.size (.slice a7 n7 c7) (O ++ [(k, v)])) := hO
        have HB7 : Hid (Below U.heap.size U w7) := HBa.out.trans (grown_belowB HOa.out hg HBa.out.size)
        clear hO hg hown e0 e1 HOa HBa KS
        go_wp2
        go_ret
        exact ⟨_, _, _, rfl, by rw [HV.out]; exact ow_mono HO7.out HB0.out.size, HB0.out.trans (HB7.out.mono HB0.out.size)⟩
end Go.Proofs.Ytnbafoennnhppaa
/-
  RunAsk of the specification: what it leaves.
-/
namespace Go.Proofs.Ytnbafoennnhppaa
open Go.RowKit
def RsPost (ok : Bool) (D T : List PB) (w : World) (e : Ending) (w' : World) : Prop :=
  ∃ a n c a2 n2 c2, e = .returned (.tuple #[.slice a n c, .slice a2 n2 c2, .bool ok]) ∧ Ow w' w.heap.size (.slice a n c) D ∧ Ow w' w.heap.size (.slice a2 n2 c2) T ∧ Below w.heap.size w w'
theorem rs_no {w w' : World} (hb : Below w.heap.size w w') : RsPost false [] [] w (.returned (.tuple #[.slice none 0 0, .slice none 0 0, .bool false])) w' := ⟨none, 0, 0, none, 0, 0, rfl, ow_nil _ _, ow_nil _ _, hb⟩
theorem keyF_step (l : List PB) (ky kk vv : ByteArray) (j : Nat) (h : j < l.length) (hp : pAtB l j = (kk, vv)) : keyF (l.take (j + 1)) ky = if kk = ky then keyF (l.take j) ky ++ [(kk, vv)] else keyF (l.take j) ky := by
  unfold keyF
  rw [List.take_succ_eq_append_getElem h, ← pAtB_lt h, hp, List.filter_append]
  by_cases e : kk = ky <;> simp [e]
theorem keyF_len (l : List PB) (ky : ByteArray) (j : Nat) : (keyF (l.take j) ky).length ≤ l.length := by
  unfold keyF
  refine Nat.le_trans (List.length_filter_le _ _) ?_
  rw [List.length_take]
  omega
theorem run_append_prs {w : World} (ty : TypeId) (B : Nat) (v : Value) (l : List PB) (hown : Ow w B v l) (S : Nat → Prop) (a : Option Addr) (n c : Nat) (l2 : List PB) (hsrc : Pr w S (.slice a n c) l2) (hl : l.length + n ≤ 2097152) (hbase : B ≤ w.heap.size) :
    ∃ a' n' c' w', (Builtin.append_ #[23, 23] ty #[v, .slice a n c]).run Try.prog w = .ok (.slice a' n' c') w' ∧ Ow w' B (.slice a' n' c') (l ++ l2) ∧ w.grownBy w' v.ownBlock := by
  obtain ⟨i, hi, hz, hsz, hby⟩ := info_of infoPairI
  have hn := (Rw.len hsrc).1
  obtain ⟨v', w', hr, h2, h3⟩ := run_append_row (P := Try.prog) (w := w) B 23 ty 34 i _ 2 32 Try.underlying23 hi hz hsz hby rfl (by decide) v l.length (pcs l) hown S (.slice a n c) l2.length (pcs l2) hsrc (pcs_length _) (pcs_one _) (by unfold maxLen; omega) (by omega) hbase
  obtain ⟨a', c', rfl⟩ := own_shape h2
  refine ⟨a', _, c', w', hr, ?_, h3⟩
  unfold Ow
  rw [List.length_append, pcs_append]
  exact h2
theorem step_append_prs {w w' : World} {o : Oper} {a : Act} {K : Act → World → Prop} {Q : Exit → Act → World → Prop} (s x : Operand)
    (ho : o.op = .call { callee := .builtin .append, args := #[s, x], argTypes := #[23, 23] }) (v src v' : Value) (hs : a.eval s = v) (hx : a.eval x = src)
    (hr : (Builtin.append_ #[23, 23] o.type #[v, src]).run Try.prog w = .ok v' w') (h : K (a.put o.dst v') w') : Oper.wp Try.prog o a w K Q := by
  unfold Oper.wp execOp
  simp only [ho, resolve, invoke, builtin, Sem.run_bind, Sem.run_pure, Result.andThen_ok, List.map_toArray, List.map_cons, List.map_nil, hs, hx, hr]
  exact h
theorem wpList_append_prs {w : World} {ops : Array Oper} {rest : List Oper} {o : Oper} {a : Act} {Q : Exit → Act → World → Prop} (hgd : o.guard = none) (s x : Operand)
    (ho : o.op = .call { callee := .builtin .append, args := #[s, x], argTypes := #[23, 23] }) (B : Nat) (v : Value) (l : List PB) (hs : a.eval s = v) (hown : Ow w B v l)
    (S : Nat → Prop) (ad : Option Addr) (n c : Nat) (l2 : List PB) (hx : a.eval x = .slice ad n c) (hsrc : Pr w S (.slice ad n c) l2) (hl : l.length + n ≤ 2097152) (hbase : B ≤ w.heap.size)
    (h : ∀ a' n' c' w', Ow w' B (.slice a' n' c') (l ++ l2) → w.grownBy w' v.ownBlock → wpList Try.prog ops Q rest (a.put o.dst (.slice a' n' c')) w') : wpList Try.prog ops Q (o :: rest) a w := by
  refine wpList_plain hgd fun K hK => ?_
  obtain ⟨a', n', c', w', hr, h2, h3⟩ := run_append_prs (w := w) o.type B v l hown S ad n c l2 hsrc hl hbase
  refine step_append_prs s x ho v _ _ hs hx hr ?_
  exact hK _ _ (h a' n' c' w' h2 h3)
end Go.Proofs.Ytnbafoennnhppaa
/-
  RunAsk of the specification: get.
-/
namespace Go.Proofs.Ytnbafoennnhppaa
open Go.RowKit
set_option maxHeartbeats 8000000 in
set_option maxRecDepth 20000 in
theorem specRunAsk_1 (S : Nat → Prop) (a : Option Addr) (n c : Nat) (l : List PB) (ky vl lo hi : ByteArray) (mo : Int) (w : World) (h : Pr w S (.slice a n c) l) (hs : n ≤ 1048576) (hd : daOk l = true) (hk : akOk 1 ky vl lo hi mo false = true) :
    Calls Try.prog 10 #[.slice a n c, .agg #[.int .i64 1, .string ky, .string vl, .string lo, .string hi, .int .i64 mo, .bool false]] w fun e w' => RsPost true (raD l 1 ky vl) (raT l 1 ky lo hi mo false) w e w' := by
  have hb := below_new (o := .cells #[.int .i64 1, .string ky, .string vl, .string lo, .string hi, .int .i64 mo, .bool false] 27) (w := w) (Below.refl _ _)
  have HBU := hid hb
  have K0 := hid (Bk.new w 27 [.int .i64 1, .string ky, .string vl, .string lo, .string hi, .int .i64 mo, .bool false])
  have P0 := hid (h.below' hb)
  have HN := hid (Rw.len h).1
  have HD := hid hd
  have HK := hid hk
  clear hb h hd hk
  have k0 := K0.out.cell (j := 0) rfl
  have k1 := K0.out.cell (j := 1) rfl
  have k2 := K0.out.cell (j := 2) rfl
  have k3 := K0.out.cell (j := 3) rfl
  have k4 := K0.out.cell (j := 4) rfl
  have k5 := K0.out.cell (j := 5) rfl
  have k6 := K0.out.cell (j := 6) rfl
  go_enter Try.func10, Try.ntmps10
  go_wp2_with fail
  refine (specDataOk_at S a n c l _ P0.out (by omega)).mono ?_
  have HUZ : Hid ((w.alloc (.cells #[.int .i64 1, .string ky, .string vl, .string lo, .string hi, .int .i64 mo, .bool false] 27)).heap.size = w.heap.size + 1) := by show _ = _; simp
  generalize hU : w.alloc (.cells #[.int .i64 1, .string ky, .string vl, .string lo, .string hi, .int .i64 mo, .bool false] 27) = U at *
  clear hU
  rintro e w1 ⟨rfl, hb⟩
  have HB1 := hid hb
  clear hb k0 k1 k2 k3 k4 k5 k6
  rw [HD.out]
  have k0 := (K0.out.below HB1.out).cell (j := 0) rfl
  have k1 := (K0.out.below HB1.out).cell (j := 1) rfl
  have k2 := (K0.out.below HB1.out).cell (j := 2) rfl
  have k3 := (K0.out.below HB1.out).cell (j := 3) rfl
  have k4 := (K0.out.below HB1.out).cell (j := 4) rfl
  have k5 := (K0.out.below HB1.out).cell (j := 5) rfl
  have k6 := (K0.out.below HB1.out).cell (j := 6) rfl
  go_wp2_with fail
  refine (specAskOk_any 1 ky vl lo hi mo false _).mono ?_
  rintro e w2 ⟨rfl, hb⟩
  have HB2 := hid (HB1.out.trans (hb.mono HB1.out.size))
  clear hb HB1 k0 k1 k2 k3 k4 k5 k6
  rw [HK.out]
  have k0 := (K0.out.below HB2.out).cell (j := 0) rfl
  have k1 := (K0.out.below HB2.out).cell (j := 1) rfl
  have k2 := (K0.out.below HB2.out).cell (j := 2) rfl
  have k3 := (K0.out.below HB2.out).cell (j := 3) rfl
  have k4 := (K0.out.below HB2.out).cell (j := 4) rfl
  have k5 := (K0.out.below HB2.out).cell (j := 5) rfl
  have k6 := (K0.out.below HB2.out).cell (j := 6) rfl
  have HDD : Hid (raD l 1 ky vl = l) := rfl
  have HT : Hid (raT l 1 ky lo hi mo false = (keyF (l.take n) ky)) := by show _ = _; rw [HN.out, List.take_length]; rfl
  have hbn := below_new (o := .cells #[] 34) (w := w2) (Below.refl _ _)
  have HO3 := hid (ow_new w2 w2.heap.size (Nat.le_refl _))
  have HBV := hid hbn
  clear hbn
  go_wp2_with fail
  go_loopw [7, 8, 9, 41] (fun x z y i wr => ∃ (j : Nat) (av : Option Addr) (nv cv : Nat), j ≤ n ∧ i = .int .i64 j ∧ x = .slice av nv cv ∧ Hid (nv = (keyF (l.take j) ky).length) ∧ Hid (Ow wr w2.heap.size (.slice av nv cv) (keyF (l.take j) ky)) ∧ Hid (Below w2.heap.size w2 wr)) (fun _ _ _ i _ => n - (intOf i).toNat)
  case atStart => exact ⟨0, _, 0, 0, Nat.zero_le _, rfl, rfl, by show _ = _; simp [keyF], by show Ow _ _ _ _; simpa [keyF] using HO3.out, HBV.out⟩
  case round =>
    obtain ⟨j, av, nv, cv, hj, rfl, rfl, HNV, HO, HBW⟩ := hrel
    clear HO3 HBV k0 k1 k2 k3 k4 k5 k6
    have HB := hid (HB2.out.trans (HBW.out.mono HB2.out.size))
    by_cases hlt : j < n
    · have hlt' : (j : Int) < (n : Int) := by omega
      have hj0 : (0 : Int) ≤ (j : Int) := by omega
      have HLE : Hid ((keyF (l.take j) ky).length ≤ 1048576) := by show _ ≤ _; have h1 := keyF_len l ky j; have h2 := HN.out; omega
      have PJ := hid (P0.out.below' HB.out)
      obtain ⟨b, off, rfl, _, hbw, hcell⟩ := PJ.out.at (by omega)
      obtain ⟨d0, d1⟩ := hcell j hlt
      have hcv := (Rw.len (HO.out.pr (S := fun _ => True) (fun _ _ _ _ => trivial))).2
      have HPJ : Hid (pAtB (dirL false l) j = pAtB l j) := rfl
      have HSD := hid (fun kk vv hp => keyF_step l ky kk vv j (by rw [← HN.out]; exact hlt) hp)
      clear hcell hbw PJ HPJ
      generalize hcur : pAtB l j = cur at *
      obtain ⟨kk, vv⟩ := cur
      have HSD2 := hid (HSD.out kk vv rfl)
      clear HSD hcur
      simp only at d0 d1
      have hbp := below_new (o := .cells #[.string kk, .string vv] 34) (w := wr) (Below.refl _ _)
      have KP := hid (Bk.new wr 34 [.string kk, .string vv])
      have HOP := hid (HO.out.kept hbp)
      have HBP := hid (HBW.out.trans (hbp.mono HBW.out.size))
      have HB4 := hid (HB2.out.trans (HBP.out.mono HB2.out.size))
      clear hbp
      have k0 := (K0.out.below HB4.out).cell (j := 0) rfl
      have k1 := (K0.out.below HB4.out).cell (j := 1) rfl
      have k2 := (K0.out.below HB4.out).cell (j := 2) rfl
      have k3 := (K0.out.below HB4.out).cell (j := 3) rfl
      have k4 := (K0.out.below HB4.out).cell (j := 4) rfl
      have k5 := (K0.out.below HB4.out).cell (j := 5) rfl
      have k6 := (K0.out.below HB4.out).cell (j := 6) rfl
      have q0 := KP.out.cell (j := 0) rfl
      have q1 := KP.out.cell (j := 1) rfl
      by_cases hc : kk = ky
      · have HC := hid hc
        have hc' := hc.symm
        subst hc'
        clear hc
        have hb := below_new (o := .cells #[.string ky, .string vv] 34) (w := (wr.alloc (.cells #[.string ky, .string vv] 34))) (Below.refl _ _)
        have KS : Hid (Bk ((wr.alloc (.cells #[.string ky, .string vv] 34)).alloc (.cells #[.string ky, .string vv] 34)) (wr.heap.size + 1) 34 [.string ky, .string vv]) := by have := Bk.new (wr.alloc (.cells #[.string ky, .string vv] 34)) 34 [.string ky, .string vv]; show Bk _ _ _ _; simpa using this
        have HOa := hid (HOP.out.kept hb)
        have HBa := hid (HBP.out.trans (hb.mono HBP.out.size))
        clear hb
        have HSF : Hid ((keyF (l.take (j + 1)) ky) = (keyF (l.take j) ky) ++ [(ky, vv)]) := by show _ = _; rw [HSD2.out, if_pos HC.out]
        clear HSD2 HC
        go_wp2_with (at_builtin; refine wpList_append_pair1 rfl _ _ rfl w2.heap.size _ (keyF (l.take j) ky) rfl HOa.out (wr.heap.size + 1) ky vv rfl KS.out ?q1 ?q2 ?_)
        case q1 => exact HLE.out
        case q2 => first | exact HBa.out.size | (have h := HBa.out.size; simp at h; omega)
        intro a7 n7 c7 w7 hO hg hown
        have HO7 : Hid (Ow w7 w2.heap.size (.slice a7 n7 c7) ((keyF (l.take j) ky) ++ [(ky, vv)])) := hO
        have HB7 : Hid (Below w2.heap.size w2 w7) := HBa.out.trans (grown_belowB HOa.out hg HBa.out.size)
        obtain ⟨_, _, _, hsh, hn7⟩ := hO.shape'
        cases hsh
        have HN7 := hid hn7.out
        clear hO hg hown hn7 HOa HBa KS k0 k1 k2 k3 k4 k5 k6 q0 q1
        rw [← HSF.out] at HO7 HN7
        generalize hg9 : (keyF (l.take (j + 1)) ky) = Z at *
        have HG9 := hid hg9
        clear hg9
        go_wp2
        go_roundw
        case rel => exact ⟨j + 1, a7, n7, c7, by omega, by go_num, rfl, by rw [HG9.out]; exact HN7.out, by rw [HG9.out]; exact HO7.out, HB7.out⟩
        case measure => simp [intOf]; omega
      · have HC := hid hc
        have t := str_beq hc
        clear hc
        have HSF : Hid ((keyF (l.take (j + 1)) ky) = (keyF (l.take j) ky)) := by show _ = _; rw [HSD2.out, if_neg HC.out]
        clear HSD2 HC
        go_wp2
        go_roundw
        case rel => exact ⟨j + 1, av, nv, cv, by omega, by go_num, rfl, by rw [HSF.out]; exact HNV.out, by rw [HSF.out]; exact HOP.out, HBP.out⟩
        case measure => simp [intOf]; omega
    · have hlt' : ¬ (j : Int) < (n : Int) := by omega
      obtain rfl : j = n := by omega
      have hb := below_new (o := .cells #[] 34) (w := wr) (Below.refl _ _)
      have HSE : Hid (∀ q, (Value.slice av nv cv).ownBlock = some q → q < wr.heap.size) := fun q hq => (World.ownsRow.lt HO.out q hq).2
      have HN1 := hid (ow_new wr w2.heap.size HBW.out.size)
      have HO1 := hid (HO.out.kept hb)
      have HBa := hid (HBW.out.trans (hb.mono HBW.out.size))
      have PA := hid (P0.out.below' (HB2.out.trans (HBa.out.mono HB2.out.size)))
      have hcv := (Rw.len (HO.out.pr (S := fun _ => True) (fun _ _ _ _ => trivial))).2
      clear hb HO HBW HB
      go_wp2_with (at_builtin; refine wpList_append_prs rfl _ _ rfl w2.heap.size _ [] rfl HN1.out S a j c l rfl PA.out (by simp; omega) ?q2 ?_)
      case q2 => first | exact HBa.out.size | (have h := HBa.out.size; simp at h; omega)
      intro a7 n7 c7 w7 hO hg
      have HO7 : Hid (Ow w7 w2.heap.size (.slice a7 n7 c7) l) := by show Ow _ _ _ _; first | exact hO | simpa using hO
      have HB7 : Hid (Below w2.heap.size w2 w7) := HBa.out.trans (grown_belowB HN1.out hg HBa.out.size)
      have HT7 : Hid (Ow w7 w2.heap.size (.slice av nv cv) (keyF (l.take j) ky)) := HO1.out.to (only_of_grown hg (R := fun y => y = wr.heap.size) (fun q hq => by cases hq; rfl)) (fun q hq e => by have := HSE.out q hq; omega)
      clear hO hg HN1 HO1 HBa PA
      go_wp2
      go_ret3
      rw [HT.out, HDD.out]
      exact ⟨_, _, _, _, _, _, rfl, ow_mono HO7.out (Nat.le_trans HBU.out.size HB2.out.size), ow_mono HT7.out (Nat.le_trans HBU.out.size HB2.out.size), HBU.out.trans ((HB2.out.trans (HB7.out.mono HB2.out.size)).mono HBU.out.size)⟩
end Go.Proofs.Ytnbafoennnhppaa
/-
  RunAsk of the specification: put and del.
-/
namespace Go.Proofs.Ytnbafoennnhppaa
open Go.RowKit
set_option maxHeartbeats 8000000 in
set_option maxRecDepth 20000 in
theorem specRunAsk_2 (S : Nat → Prop) (a : Option Addr) (n c : Nat) (l : List PB) (ky vl lo hi : ByteArray) (mo : Int) (bk : Bool) (w : World) (h : Pr w S (.slice a n c) l) (hs : n ≤ 1048576) (hd : daOk l = true) (hk : akOk 2 ky vl lo hi mo bk = true) :
    Calls Try.prog 10 #[.slice a n c, .agg #[.int .i64 2, .string ky, .string vl, .string lo, .string hi, .int .i64 mo, .bool bk]] w fun e w' => RsPost true (raD l 2 ky vl) (raT l 2 ky lo hi mo bk) w e w' := by
  have hb := below_new (o := .cells #[.int .i64 2, .string ky, .string vl, .string lo, .string hi, .int .i64 mo, .bool bk] 27) (w := w) (Below.refl _ _)
  have HBU := hid hb
  have K0 := hid (Bk.new w 27 [.int .i64 2, .string ky, .string vl, .string lo, .string hi, .int .i64 mo, .bool bk])
  have P0 := hid (h.below' hb)
  have HN := hid (Rw.len h).1
  have HD := hid hd
  have HK := hid hk
  clear hb h hd hk
  have k0 := K0.out.cell (j := 0) rfl
  have k1 := K0.out.cell (j := 1) rfl
  have k2 := K0.out.cell (j := 2) rfl
  have k3 := K0.out.cell (j := 3) rfl
  have k4 := K0.out.cell (j := 4) rfl
  have k5 := K0.out.cell (j := 5) rfl
  have k6 := K0.out.cell (j := 6) rfl
  go_enter Try.func10, Try.ntmps10
  go_wp2_with fail
  refine (specDataOk_at S a n c l _ P0.out (by omega)).mono ?_
  have HUZ : Hid ((w.alloc (.cells #[.int .i64 2, .string ky, .string vl, .string lo, .string hi, .int .i64 mo, .bool bk] 27)).heap.size = w.heap.size + 1) := by show _ = _; simp
  generalize hU : w.alloc (.cells #[.int .i64 2, .string ky, .string vl, .string lo, .string hi, .int .i64 mo, .bool bk] 27) = U at *
  clear hU
  rintro e w1 ⟨rfl, hb⟩
  have HB1 := hid hb
  clear hb k0 k1 k2 k3 k4 k5 k6
  rw [HD.out]
  have k0 := (K0.out.below HB1.out).cell (j := 0) rfl
  have k1 := (K0.out.below HB1.out).cell (j := 1) rfl
  have k2 := (K0.out.below HB1.out).cell (j := 2) rfl
  have k3 := (K0.out.below HB1.out).cell (j := 3) rfl
  have k4 := (K0.out.below HB1.out).cell (j := 4) rfl
  have k5 := (K0.out.below HB1.out).cell (j := 5) rfl
  have k6 := (K0.out.below HB1.out).cell (j := 6) rfl
  go_wp2_with fail
  refine (specAskOk_any 2 ky vl lo hi mo bk _).mono ?_
  rintro e w2 ⟨rfl, hb⟩
  have HB2 := hid (HB1.out.trans (hb.mono HB1.out.size))
  clear hb HB1 k0 k1 k2 k3 k4 k5 k6
  rw [HK.out]
  have k0 := (K0.out.below HB2.out).cell (j := 0) rfl
  have k1 := (K0.out.below HB2.out).cell (j := 1) rfl
  have k2 := (K0.out.below HB2.out).cell (j := 2) rfl
  have k3 := (K0.out.below HB2.out).cell (j := 3) rfl
  have k4 := (K0.out.below HB2.out).cell (j := 4) rfl
  have k5 := (K0.out.below HB2.out).cell (j := 5) rfl
  have k6 := (K0.out.below HB2.out).cell (j := 6) rfl
  have HT : Hid (raT l 2 ky lo hi mo bk = []) := rfl
  have HDD : Hid (raD l 2 ky vl = lpV l ky vl false) := (lpV_put (daOk_asc HD.out) ky vl).symm
  have T0 := hid (kl3_0 k0 k1 k2)
  go_wp2_with fail
  refine wp_region_noPanic ?_
  refine wp_region_held_drew (S := fun v => v.cell? ⟨w.heap.size, 0, none⟩ = some (.int .i64 2) ∧ v.cell? ⟨w.heap.size, 1, none⟩ = some (.string ky) ∧ v.cell? ⟨w.heap.size, 2, none⟩ = some (.string vl) ∧ KL w2 v [(⟨w.heap.size, 0, none⟩, .int .i64 2), (⟨w.heap.size, 1, none⟩, .string ky), (⟨w.heap.size, 2, none⟩, .string vl)]) (by kernel_rfl) (kl3 (T0.out.call (below_drew _))) (fun hHeld => ?_)
  simp only [List.size_toArray, List.length_cons, List.length_nil, Array.replicate_succ, Array.replicate_zero, Nat.reduceAdd, List.push_toArray, List.nil_append, List.cons_append]
  refine wpAnyH_take (i := 1) (v := (.slice a n c)) rfl (by kernel_rfl) (by kernel_rfl) (by kernel_rfl) (fun _ _ _ h => h) (Or.inl ⟨by rfl, ?_⟩) (by assumption) ?_
  · intro w hSw
    (try dsimp only at hSw)
    go_simp
  try simp only [List.getElem_toArray]
  try simp only [List.getElem_cons_succ]
  try simp only [List.getElem_cons_zero]
  try simp only [Act.put]
  try simp only [List.setIfInBounds_toArray]
  try simp only [List.set_cons_succ]
  try simp only [List.set_cons_zero]
  refine wpAnyH_take (i := 3) (v := (.pointer (some ⟨w.heap.size, 1, none⟩))) rfl (by kernel_rfl) (by kernel_rfl) (by kernel_rfl) (fun _ _ _ h => h) (Or.inl ⟨by rfl, ?_⟩) (by assumption) ?_
  · intro w hSw
    (try dsimp only at hSw)
    go_simp
  try simp only [List.getElem_toArray]
  try simp only [List.getElem_cons_succ]
  try simp only [List.getElem_cons_zero]
  try simp only [Act.put]
  try simp only [List.setIfInBounds_toArray]
  try simp only [List.set_cons_succ]
  try simp only [List.set_cons_zero]
  refine wpAnyH_take (i := 4) (v := (.string ky)) rfl (by kernel_rfl) (by kernel_rfl) (by kernel_rfl) (fun _ _ _ h => h) (Or.inl ⟨by rfl, ?_⟩) (by assumption) ?_
  · intro w hSw
    (try dsimp only at hSw)
    go_simp
  try simp only [List.getElem_toArray]
  try simp only [List.getElem_cons_succ]
  try simp only [List.getElem_cons_zero]
  try simp only [Act.put]
  try simp only [List.setIfInBounds_toArray]
  try simp only [List.set_cons_succ]
  try simp only [List.set_cons_zero]
  refine wpAnyH_take (i := 5) (v := (.pointer (some ⟨w.heap.size, 2, none⟩))) rfl (by kernel_rfl) (by kernel_rfl) (by kernel_rfl) (fun _ _ _ h => h) (Or.inl ⟨by rfl, ?_⟩) (by assumption) ?_
  · intro w hSw
    (try dsimp only at hSw)
    go_simp
  try simp only [List.getElem_toArray]
  try simp only [List.getElem_cons_succ]
  try simp only [List.getElem_cons_zero]
  try simp only [Act.put]
  try simp only [List.setIfInBounds_toArray]
  try simp only [List.set_cons_succ]
  try simp only [List.set_cons_zero]
  refine wpAnyH_take (i := 6) (v := (.string vl)) rfl (by kernel_rfl) (by kernel_rfl) (by kernel_rfl) (fun _ _ _ h => h) (Or.inl ⟨by rfl, ?_⟩) (by assumption) ?_
  · intro w hSw
    (try dsimp only at hSw)
    go_simp
  try simp only [List.getElem_toArray]
  try simp only [List.getElem_cons_succ]
  try simp only [List.getElem_cons_zero]
  try simp only [Act.put]
  try simp only [List.setIfInBounds_toArray]
  try simp only [List.set_cons_succ]
  try simp only [List.set_cons_zero]
  refine wpAnyH_take (i := 7) (v := (.pointer (some ⟨w.heap.size, 0, none⟩))) rfl (by kernel_rfl) (by kernel_rfl) (by kernel_rfl) (fun _ _ _ h => h) (Or.inl ⟨by rfl, ?_⟩) (by assumption) ?_
  · intro w hSw
    (try dsimp only at hSw)
    go_simp
  try simp only [List.getElem_toArray]
  try simp only [List.getElem_cons_succ]
  try simp only [List.getElem_cons_zero]
  try simp only [Act.put]
  try simp only [List.setIfInBounds_toArray]
  try simp only [List.set_cons_succ]
  try simp only [List.set_cons_zero]
  refine wpAnyH_take (i := 8) (v := (.int .i64 2)) rfl (by kernel_rfl) (by kernel_rfl) (by kernel_rfl) (fun _ _ _ h => h) (Or.inl ⟨by rfl, ?_⟩) (by assumption) ?_
  · intro w hSw
    (try dsimp only at hSw)
    go_simp
  try simp only [List.getElem_toArray]
  try simp only [List.getElem_cons_succ]
  try simp only [List.getElem_cons_zero]
  try simp only [Act.put]
  try simp only [List.setIfInBounds_toArray]
  try simp only [List.set_cons_succ]
  try simp only [List.set_cons_zero]
  refine wpAnyH_take (i := 9) (v := (.bool false)) rfl (by kernel_rfl) (by kernel_rfl) (by kernel_rfl) (fun _ _ _ h => h) (Or.inl ⟨by rfl, ?_⟩) (by assumption) ?_
  · intro w hSw
    (try dsimp only at hSw)
    go_simp
  try simp only [List.getElem_toArray]
  try simp only [List.getElem_cons_succ]
  try simp only [List.getElem_cons_zero]
  try simp only [Act.put]
  try simp only [List.setIfInBounds_toArray]
  try simp only [List.set_cons_succ]
  try simp only [List.set_cons_zero]
  refine wpAnyH_take (i := 10) (v := (.agg #[.string ky, .string vl, .bool false])) rfl (by kernel_rfl) (by kernel_rfl) (by kernel_rfl) (fun _ _ _ h => h) (Or.inl ⟨by rfl, ?_⟩) (by assumption) ?_
  · intro w hSw
    (try dsimp only at hSw)
    go_simp
  try simp only [List.getElem_toArray]
  try simp only [List.getElem_cons_succ]
  try simp only [List.getElem_cons_zero]
  try simp only [Act.put]
  try simp only [List.setIfInBounds_toArray]
  try simp only [List.set_cons_succ]
  try simp only [List.set_cons_zero]
  refine wpAnyH_ready (rs := [0]) (by kernel_rfl) (by simp) ?_
  refine AllReadyH.cons rfl (fun K1 hK => ?_) AllReadyH.nil
  go_simp
  try go_wp2_with fail
  have hbA := (below_drew w2).trans ((below_new (o := .cells #[] 34) (w := w2.drew) (Below.refl _ _)).mono (below_drew w2).size)
  have HOA := hid (ow_new w2.drew w2.heap.size (Nat.le_refl _))
  have hbA2 := below_new (o := .cells #[] 34) (w := w2.drew) (Below.refl _ _)
  refine hK.out _ _ ?_ (fun hHeld => ?_)
  · exact kl3c hbA2 (by assumption)
  clear hK K1
  try simp only [List.getElem_toArray]
  try simp only [List.getElem_cons_succ]
  try simp only [List.getElem_cons_zero]
  try simp only [Act.put]
  try simp only [List.setIfInBounds_toArray]
  try simp only [List.set_cons_succ]
  try simp only [List.set_cons_zero]
  obtain ⟨a9, n9, c9, w9, hrun, hO9, hG9⟩ := run_append_prs (w := w2.drew.alloc (.cells #[] 34)) 23 w2.heap.size _ [] HOA.out S a n c l (P0.out.below' ((HB2.out.trans (hbA.mono HB2.out.size)))) (by simp; omega) hbA.size
  have hb9 : Below w2.heap.size w2 w9 := hbA.trans ((Below.refl _ _).grown hG9 hbA.size (fun q hq => (World.ownsRow.lt HOA.out q hq).1))
  have HB9 := hid (HB2.out.trans (hb9.mono HB2.out.size))
  refine wpAnyH_ready (rs := [2]) (by kernel_rfl) (by simp) ?_
  refine AllReadyH.cons rfl (fun K1 hK => ?_) AllReadyH.nil
  refine step_append_prs _ _ rfl _ _ _ rfl rfl hrun ?_
  refine hK.out _ _ ?_ (fun hHeld => ?_)
  · exact kl3 ⟨T0.out.cells, hb9⟩
  clear hK K1
  try simp only [List.getElem_toArray]
  try simp only [List.getElem_cons_succ]
  try simp only [List.getElem_cons_zero]
  try simp only [Act.put]
  try simp only [List.setIfInBounds_toArray]
  try simp only [List.set_cons_succ]
  try simp only [List.set_cons_zero]
  have hO9' : Ow w9 w2.heap.size (.slice a9 n9 c9) l := by simpa using hO9
  have HO9 := hid hO9'
  have hn9 : n9 = n := by rw [(Rw.len (hO9'.pr (S := fun _ => True) (fun _ _ _ _ => trivial))).1, HN.out]
  have HN9 := hid hn9
  clear hO9 hO9' hn9 hG9 hrun HOA hbA hbA2
  refine wpAnyH_ready (rs := [11]) (by kernel_rfl) (by simp) ?_
  refine AllReadyH.cons rfl (fun K1 hK => ?_) AllReadyH.nil
  go_simp
  refine (l10Put_any (fun _ => True) a9 n9 c9 l ky vl false _ (HO9.out.pr (fun _ _ _ _ => trivial)) (by have := HN9.out; omega)).mono ?_
  rintro r w10 ⟨a7, n7, c7, rfl, hO7, hbC⟩
  have HB7 := hid (HB9.out.trans (hbC.mono HB9.out.size))
  have HO7 := hid (ow_mono hO7 (Nat.le_trans HBU.out.size HB9.out.size))
  clear hO7
  go_wp2_with fail
  refine hK.out _ _ ?_ (fun hHeld => ?_)
  · exact kl3c hbC (by assumption)
  clear hK K1
  try simp only [List.getElem_toArray]
  try simp only [List.getElem_cons_succ]
  try simp only [List.getElem_cons_zero]
  try simp only [Act.put]
  try simp only [List.setIfInBounds_toArray]
  try simp only [List.set_cons_succ]
  try simp only [List.set_cons_zero]
  clear hbC hb9
  refine wpAnyH_take (i := 12) (v := (.slice a7 n7 c7)) rfl (by kernel_rfl) (by kernel_rfl) (by kernel_rfl) (fun _ _ _ h => h) (Or.inl ⟨by rfl, ?_⟩) (by assumption) ?_
  · intro w hSw
    (try dsimp only at hSw)
    go_simp
  try simp only [List.getElem_toArray]
  try simp only [List.getElem_cons_succ]
  try simp only [List.getElem_cons_zero]
  try simp only [Act.put]
  try simp only [List.setIfInBounds_toArray]
  try simp only [List.set_cons_succ]
  try simp only [List.set_cons_zero]
  refine wpAnyH_take (i := 13) (v := (.slice none 0 0)) rfl (by kernel_rfl) (by kernel_rfl) (by kernel_rfl) (fun _ _ _ h => h) (Or.inl ⟨by rfl, ?_⟩) (by assumption) ?_
  · intro w hSw
    (try dsimp only at hSw)
    go_simp
  try simp only [List.getElem_toArray]
  try simp only [List.getElem_cons_succ]
  try simp only [List.getElem_cons_zero]
  try simp only [Act.put]
  try simp only [List.setIfInBounds_toArray]
  try simp only [List.set_cons_succ]
  try simp only [List.set_cons_zero]
  refine wpAnyH_take (i := 14) (v := (.bool true)) rfl (by kernel_rfl) (by kernel_rfl) (by kernel_rfl) (fun _ _ _ h => h) (Or.inl ⟨by rfl, ?_⟩) (by assumption) ?_
  · intro w hSw
    (try dsimp only at hSw)
    go_simp
  try simp only [List.getElem_toArray]
  try simp only [List.getElem_cons_succ]
  try simp only [List.getElem_cons_zero]
  try simp only [Act.put]
  try simp only [List.setIfInBounds_toArray]
  try simp only [List.set_cons_succ]
  try simp only [List.set_cons_zero]
  refine wpAnyH_done (by kernel_rfl) ?_ _
  refine NoPanic.normal ?_
  go_wp2
  go_ret3
  rw [HT.out, HDD.out]
  exact ⟨_, _, _, _, _, _, rfl, HO7.out, ow_nil _ _, HBU.out.trans (HB7.out.mono HBU.out.size)⟩
set_option maxHeartbeats 8000000 in
set_option maxRecDepth 20000 in
theorem specRunAsk_3 (S : Nat → Prop) (a : Option Addr) (n c : Nat) (l : List PB) (ky vl lo hi : ByteArray) (mo : Int) (bk : Bool) (w : World) (h : Pr w S (.slice a n c) l) (hs : n ≤ 1048576) (hd : daOk l = true) (hk : akOk 3 ky vl lo hi mo bk = true) :
    Calls Try.prog 10 #[.slice a n c, .agg #[.int .i64 3, .string ky, .string vl, .string lo, .string hi, .int .i64 mo, .bool bk]] w fun e w' => RsPost true (raD l 3 ky vl) (raT l 3 ky lo hi mo bk) w e w' := by
  have hb := below_new (o := .cells #[.int .i64 3, .string ky, .string vl, .string lo, .string hi, .int .i64 mo, .bool bk] 27) (w := w) (Below.refl _ _)
  have HBU := hid hb
  have K0 := hid (Bk.new w 27 [.int .i64 3, .string ky, .string vl, .string lo, .string hi, .int .i64 mo, .bool bk])
  have P0 := hid (h.below' hb)
  have HN := hid (Rw.len h).1
  have HD := hid hd
  have HK := hid hk
  clear hb h hd hk
  have k0 := K0.out.cell (j := 0) rfl
  have k1 := K0.out.cell (j := 1) rfl
  have k2 := K0.out.cell (j := 2) rfl
  have k3 := K0.out.cell (j := 3) rfl
  have k4 := K0.out.cell (j := 4) rfl
  have k5 := K0.out.cell (j := 5) rfl
  have k6 := K0.out.cell (j := 6) rfl
  go_enter Try.func10, Try.ntmps10
  go_wp2_with fail
  refine (specDataOk_at S a n c l _ P0.out (by omega)).mono ?_
  have HUZ : Hid ((w.alloc (.cells #[.int .i64 3, .string ky, .string vl, .string lo, .string hi, .int .i64 mo, .bool bk] 27)).heap.size = w.heap.size + 1) := by show _ = _; simp
  generalize hU : w.alloc (.cells #[.int .i64 3, .string ky, .string vl, .string lo, .string hi, .int .i64 mo, .bool bk] 27) = U at *
  clear hU
  rintro e w1 ⟨rfl, hb⟩
  have HB1 := hid hb
  clear hb k0 k1 k2 k3 k4 k5 k6
  rw [HD.out]
  have k0 := (K0.out.below HB1.out).cell (j := 0) rfl
  have k1 := (K0.out.below HB1.out).cell (j := 1) rfl
  have k2 := (K0.out.below HB1.out).cell (j := 2) rfl
  have k3 := (K0.out.below HB1.out).cell (j := 3) rfl
  have k4 := (K0.out.below HB1.out).cell (j := 4) rfl
  have k5 := (K0.out.below HB1.out).cell (j := 5) rfl
  have k6 := (K0.out.below HB1.out).cell (j := 6) rfl
  go_wp2_with fail
  refine (specAskOk_any 3 ky vl lo hi mo bk _).mono ?_
  rintro e w2 ⟨rfl, hb⟩
  have HB2 := hid (HB1.out.trans (hb.mono HB1.out.size))
  clear hb HB1 k0 k1 k2 k3 k4 k5 k6
  rw [HK.out]
  have k0 := (K0.out.below HB2.out).cell (j := 0) rfl
  have k1 := (K0.out.below HB2.out).cell (j := 1) rfl
  have k2 := (K0.out.below HB2.out).cell (j := 2) rfl
  have k3 := (K0.out.below HB2.out).cell (j := 3) rfl
  have k4 := (K0.out.below HB2.out).cell (j := 4) rfl
  have k5 := (K0.out.below HB2.out).cell (j := 5) rfl
  have k6 := (K0.out.below HB2.out).cell (j := 6) rfl
  have HT : Hid (raT l 3 ky lo hi mo bk = []) := rfl
  have HDD : Hid (raD l 3 ky vl = lpV l ky vl true) := (lpV_del (daOk_asc HD.out) ky vl).symm
  have T0 := hid (kl3_0 k0 k1 k2)
  go_wp2_with fail
  refine wp_region_noPanic ?_
  refine wp_region_held_drew (S := fun v => v.cell? ⟨w.heap.size, 0, none⟩ = some (.int .i64 3) ∧ v.cell? ⟨w.heap.size, 1, none⟩ = some (.string ky) ∧ v.cell? ⟨w.heap.size, 2, none⟩ = some (.string vl) ∧ KL w2 v [(⟨w.heap.size, 0, none⟩, .int .i64 3), (⟨w.heap.size, 1, none⟩, .string ky), (⟨w.heap.size, 2, none⟩, .string vl)]) (by kernel_rfl) (kl3 (T0.out.call (below_drew _))) (fun hHeld => ?_)
  simp only [List.size_toArray, List.length_cons, List.length_nil, Array.replicate_succ, Array.replicate_zero, Nat.reduceAdd, List.push_toArray, List.nil_append, List.cons_append]
  refine wpAnyH_take (i := 1) (v := (.slice a n c)) rfl (by kernel_rfl) (by kernel_rfl) (by kernel_rfl) (fun _ _ _ h => h) (Or.inl ⟨by rfl, ?_⟩) (by assumption) ?_
  · intro w hSw
    (try dsimp only at hSw)
    go_simp
  try simp only [List.getElem_toArray]
  try simp only [List.getElem_cons_succ]
  try simp only [List.getElem_cons_zero]
  try simp only [Act.put]
  try simp only [List.setIfInBounds_toArray]
  try simp only [List.set_cons_succ]
  try simp only [List.set_cons_zero]
  refine wpAnyH_take (i := 3) (v := (.pointer (some ⟨w.heap.size, 1, none⟩))) rfl (by kernel_rfl) (by kernel_rfl) (by kernel_rfl) (fun _ _ _ h => h) (Or.inl ⟨by rfl, ?_⟩) (by assumption) ?_
  · intro w hSw
    (try dsimp only at hSw)
    go_simp
  try simp only [List.getElem_toArray]
  try simp only [List.getElem_cons_succ]
  try simp only [List.getElem_cons_zero]
  try simp only [Act.put]
  try simp only [List.setIfInBounds_toArray]
  try simp only [List.set_cons_succ]
  try simp only [List.set_cons_zero]
  refine wpAnyH_take (i := 4) (v := (.string ky)) rfl (by kernel_rfl) (by kernel_rfl) (by kernel_rfl) (fun _ _ _ h => h) (Or.inl ⟨by rfl, ?_⟩) (by assumption) ?_
  · intro w hSw
    (try dsimp only at hSw)
    go_simp
  try simp only [List.getElem_toArray]
  try simp only [List.getElem_cons_succ]
  try simp only [List.getElem_cons_zero]
  try simp only [Act.put]
  try simp only [List.setIfInBounds_toArray]
  try simp only [List.set_cons_succ]
  try simp only [List.set_cons_zero]
  refine wpAnyH_take (i := 5) (v := (.pointer (some ⟨w.heap.size, 2, none⟩))) rfl (by kernel_rfl) (by kernel_rfl) (by kernel_rfl) (fun _ _ _ h => h) (Or.inl ⟨by rfl, ?_⟩) (by assumption) ?_
  · intro w hSw
    (try dsimp only at hSw)
    go_simp
  try simp only [List.getElem_toArray]
  try simp only [List.getElem_cons_succ]
  try simp only [List.getElem_cons_zero]
  try simp only [Act.put]
  try simp only [List.setIfInBounds_toArray]
  try simp only [List.set_cons_succ]
  try simp only [List.set_cons_zero]
  refine wpAnyH_take (i := 6) (v := (.string vl)) rfl (by kernel_rfl) (by kernel_rfl) (by kernel_rfl) (fun _ _ _ h => h) (Or.inl ⟨by rfl, ?_⟩) (by assumption) ?_
  · intro w hSw
    (try dsimp only at hSw)
    go_simp
  try simp only [List.getElem_toArray]
  try simp only [List.getElem_cons_succ]
  try simp only [List.getElem_cons_zero]
  try simp only [Act.put]
  try simp only [List.setIfInBounds_toArray]
  try simp only [List.set_cons_succ]
  try simp only [List.set_cons_zero]
  refine wpAnyH_take (i := 7) (v := (.pointer (some ⟨w.heap.size, 0, none⟩))) rfl (by kernel_rfl) (by kernel_rfl) (by kernel_rfl) (fun _ _ _ h => h) (Or.inl ⟨by rfl, ?_⟩) (by assumption) ?_
  · intro w hSw
    (try dsimp only at hSw)
    go_simp
  try simp only [List.getElem_toArray]
  try simp only [List.getElem_cons_succ]
  try simp only [List.getElem_cons_zero]
  try simp only [Act.put]
  try simp only [List.setIfInBounds_toArray]
  try simp only [List.set_cons_succ]
  try simp only [List.set_cons_zero]
  refine wpAnyH_take (i := 8) (v := (.int .i64 3)) rfl (by kernel_rfl) (by kernel_rfl) (by kernel_rfl) (fun _ _ _ h => h) (Or.inl ⟨by rfl, ?_⟩) (by assumption) ?_
  · intro w hSw
    (try dsimp only at hSw)
    go_simp
  try simp only [List.getElem_toArray]
  try simp only [List.getElem_cons_succ]
  try simp only [List.getElem_cons_zero]
  try simp only [Act.put]
  try simp only [List.setIfInBounds_toArray]
  try simp only [List.set_cons_succ]
  try simp only [List.set_cons_zero]
  refine wpAnyH_take (i := 9) (v := (.bool true)) rfl (by kernel_rfl) (by kernel_rfl) (by kernel_rfl) (fun _ _ _ h => h) (Or.inl ⟨by rfl, ?_⟩) (by assumption) ?_
  · intro w hSw
    (try dsimp only at hSw)
    go_simp
  try simp only [List.getElem_toArray]
  try simp only [List.getElem_cons_succ]
  try simp only [List.getElem_cons_zero]
  try simp only [Act.put]
  try simp only [List.setIfInBounds_toArray]
  try simp only [List.set_cons_succ]
  try simp only [List.set_cons_zero]
  refine wpAnyH_take (i := 10) (v := (.agg #[.string ky, .string vl, .bool true])) rfl (by kernel_rfl) (by kernel_rfl) (by kernel_rfl) (fun _ _ _ h => h) (Or.inl ⟨by rfl, ?_⟩) (by assumption) ?_
  · intro w hSw
    (try dsimp only at hSw)
    go_simp
  try simp only [List.getElem_toArray]
  try simp only [List.getElem_cons_succ]
  try simp only [List.getElem_cons_zero]
  try simp only [Act.put]
  try simp only [List.setIfInBounds_toArray]
  try simp only [List.set_cons_succ]
  try simp only [List.set_cons_zero]
  refine wpAnyH_ready (rs := [0]) (by kernel_rfl) (by simp) ?_
  refine AllReadyH.cons rfl (fun K1 hK => ?_) AllReadyH.nil
  go_simp
  try go_wp2_with fail
  have hbA := (below_drew w2).trans ((below_new (o := .cells #[] 34) (w := w2.drew) (Below.refl _ _)).mono (below_drew w2).size)
  have HOA := hid (ow_new w2.drew w2.heap.size (Nat.le_refl _))
  have hbA2 := below_new (o := .cells #[] 34) (w := w2.drew) (Below.refl _ _)
  refine hK.out _ _ ?_ (fun hHeld => ?_)
  · exact kl3c hbA2 (by assumption)
  clear hK K1
  try simp only [List.getElem_toArray]
  try simp only [List.getElem_cons_succ]
  try simp only [List.getElem_cons_zero]
  try simp only [Act.put]
  try simp only [List.setIfInBounds_toArray]
  try simp only [List.set_cons_succ]
  try simp only [List.set_cons_zero]
  obtain ⟨a9, n9, c9, w9, hrun, hO9, hG9⟩ := run_append_prs (w := w2.drew.alloc (.cells #[] 34)) 23 w2.heap.size _ [] HOA.out S a n c l (P0.out.below' ((HB2.out.trans (hbA.mono HB2.out.size)))) (by simp; omega) hbA.size
  have hb9 : Below w2.heap.size w2 w9 := hbA.trans ((Below.refl _ _).grown hG9 hbA.size (fun q hq => (World.ownsRow.lt HOA.out q hq).1))
  have HB9 := hid (HB2.out.trans (hb9.mono HB2.out.size))
  refine wpAnyH_ready (rs := [2]) (by kernel_rfl) (by simp) ?_
  refine AllReadyH.cons rfl (fun K1 hK => ?_) AllReadyH.nil
  refine step_append_prs _ _ rfl _ _ _ rfl rfl hrun ?_
  refine hK.out _ _ ?_ (fun hHeld => ?_)
  · exact kl3 ⟨T0.out.cells, hb9⟩
  clear hK K1
  try simp only [List.getElem_toArray]
  try simp only [List.getElem_cons_succ]
  try simp only [List.getElem_cons_zero]
  try simp only [Act.put]
  try simp only [List.setIfInBounds_toArray]
  try simp only [List.set_cons_succ]
  try simp only [List.set_cons_zero]
  have hO9' : Ow w9 w2.heap.size (.slice a9 n9 c9) l := by simpa using hO9
  have HO9 := hid hO9'
  have hn9 : n9 = n := by rw [(Rw.len (hO9'.pr (S := fun _ => True) (fun _ _ _ _ => trivial))).1, HN.out]
  have HN9 := hid hn9
  clear hO9 hO9' hn9 hG9 hrun HOA hbA hbA2
  refine wpAnyH_ready (rs := [11]) (by kernel_rfl) (by simp) ?_
  refine AllReadyH.cons rfl (fun K1 hK => ?_) AllReadyH.nil
  go_simp
  refine (l10Put_any (fun _ => True) a9 n9 c9 l ky vl true _ (HO9.out.pr (fun _ _ _ _ => trivial)) (by have := HN9.out; omega)).mono ?_
  rintro r w10 ⟨a7, n7, c7, rfl, hO7, hbC⟩
  have HB7 := hid (HB9.out.trans (hbC.mono HB9.out.size))
  have HO7 := hid (ow_mono hO7 (Nat.le_trans HBU.out.size HB9.out.size))
  clear hO7
  go_wp2_with fail
  refine hK.out _ _ ?_ (fun hHeld => ?_)
  · exact kl3c hbC (by assumption)
  clear hK K1
  try simp only [List.getElem_toArray]
  try simp only [List.getElem_cons_succ]
  try simp only [List.getElem_cons_zero]
  try simp only [Act.put]
  try simp only [List.setIfInBounds_toArray]
  try simp only [List.set_cons_succ]
  try simp only [List.set_cons_zero]
  clear hbC hb9
  refine wpAnyH_take (i := 12) (v := (.slice a7 n7 c7)) rfl (by kernel_rfl) (by kernel_rfl) (by kernel_rfl) (fun _ _ _ h => h) (Or.inl ⟨by rfl, ?_⟩) (by assumption) ?_
  · intro w hSw
    (try dsimp only at hSw)
    go_simp
  try simp only [List.getElem_toArray]
  try simp only [List.getElem_cons_succ]
  try simp only [List.getElem_cons_zero]
  try simp only [Act.put]
  try simp only [List.setIfInBounds_toArray]
  try simp only [List.set_cons_succ]
  try simp only [List.set_cons_zero]
  refine wpAnyH_take (i := 13) (v := (.slice none 0 0)) rfl (by kernel_rfl) (by kernel_rfl) (by kernel_rfl) (fun _ _ _ h => h) (Or.inl ⟨by rfl, ?_⟩) (by assumption) ?_
  · intro w hSw
    (try dsimp only at hSw)
    go_simp
  try simp only [List.getElem_toArray]
  try simp only [List.getElem_cons_succ]
  try simp only [List.getElem_cons_zero]
  try simp only [Act.put]
  try simp only [List.setIfInBounds_toArray]
  try simp only [List.set_cons_succ]
  try simp only [List.set_cons_zero]
  refine wpAnyH_take (i := 14) (v := (.bool true)) rfl (by kernel_rfl) (by kernel_rfl) (by kernel_rfl) (fun _ _ _ h => h) (Or.inl ⟨by rfl, ?_⟩) (by assumption) ?_
  · intro w hSw
    (try dsimp only at hSw)
    go_simp
  try simp only [List.getElem_toArray]
  try simp only [List.getElem_cons_succ]
  try simp only [List.getElem_cons_zero]
  try simp only [Act.put]
  try simp only [List.setIfInBounds_toArray]
  try simp only [List.set_cons_succ]
  try simp only [List.set_cons_zero]
  refine wpAnyH_done (by kernel_rfl) ?_ _
  refine NoPanic.normal ?_
  go_wp2
  go_ret3
  rw [HT.out, HDD.out]
  exact ⟨_, _, _, _, _, _, rfl, HO7.out, ow_nil _ _, HBU.out.trans (HB7.out.mono HBU.out.size)⟩
end Go.Proofs.Ytnbafoennnhppaa
/-
  RunAsk of the specification: a scan.
-/
namespace Go.Proofs.Ytnbafoennnhppaa
open Go.RowKit
set_option maxHeartbeats 8000000 in
set_option maxRecDepth 20000 in
theorem specRunAsk_4f (S : Nat → Prop) (a : Option Addr) (n c : Nat) (l : List PB) (ky vl lo hi : ByteArray) (mo : Int) (w : World) (h : Pr w S (.slice a n c) l) (hs : n ≤ 1048576) (hd : daOk l = true) (hk : akOk 4 ky vl lo hi mo false = true) :
    Calls Try.prog 10 #[.slice a n c, .agg #[.int .i64 4, .string ky, .string vl, .string lo, .string hi, .int .i64 mo, .bool false]] w fun e w' => RsPost true (raD l 4 ky vl) (raT l 4 ky lo hi mo false) w e w' := by
  have hb := below_new (o := .cells #[.int .i64 4, .string ky, .string vl, .string lo, .string hi, .int .i64 mo, .bool false] 27) (w := w) (Below.refl _ _)
  have HBU := hid hb
  have K0 := hid (Bk.new w 27 [.int .i64 4, .string ky, .string vl, .string lo, .string hi, .int .i64 mo, .bool false])
  have P0 := hid (h.below' hb)
  have HN := hid (Rw.len h).1
  have HD := hid hd
  have HK := hid hk
  clear hb h hd hk
  have k0 := K0.out.cell (j := 0) rfl
  have k1 := K0.out.cell (j := 1) rfl
  have k2 := K0.out.cell (j := 2) rfl
  have k3 := K0.out.cell (j := 3) rfl
  have k4 := K0.out.cell (j := 4) rfl
  have k5 := K0.out.cell (j := 5) rfl
  have k6 := K0.out.cell (j := 6) rfl
  go_enter Try.func10, Try.ntmps10
  go_wp2_with fail
  refine (specDataOk_at S a n c l _ P0.out (by omega)).mono ?_
  have HUZ : Hid ((w.alloc (.cells #[.int .i64 4, .string ky, .string vl, .string lo, .string hi, .int .i64 mo, .bool false] 27)).heap.size = w.heap.size + 1) := by show _ = _; simp
  generalize hU : w.alloc (.cells #[.int .i64 4, .string ky, .string vl, .string lo, .string hi, .int .i64 mo, .bool false] 27) = U at *
  clear hU
  rintro e w1 ⟨rfl, hb⟩
  have HB1 := hid hb
  clear hb k0 k1 k2 k3 k4 k5 k6
  rw [HD.out]
  have k0 := (K0.out.below HB1.out).cell (j := 0) rfl
  have k1 := (K0.out.below HB1.out).cell (j := 1) rfl
  have k2 := (K0.out.below HB1.out).cell (j := 2) rfl
  have k3 := (K0.out.below HB1.out).cell (j := 3) rfl
  have k4 := (K0.out.below HB1.out).cell (j := 4) rfl
  have k5 := (K0.out.below HB1.out).cell (j := 5) rfl
  have k6 := (K0.out.below HB1.out).cell (j := 6) rfl
  go_wp2_with fail
  refine (specAskOk_any 4 ky vl lo hi mo false _).mono ?_
  rintro e w2 ⟨rfl, hb⟩
  have HB2 := hid (HB1.out.trans (hb.mono HB1.out.size))
  clear hb HB1 k0 k1 k2 k3 k4 k5 k6
  rw [HK.out]
  have k0 := (K0.out.below HB2.out).cell (j := 0) rfl
  have k1 := (K0.out.below HB2.out).cell (j := 1) rfl
  have k2 := (K0.out.below HB2.out).cell (j := 2) rfl
  have k3 := (K0.out.below HB2.out).cell (j := 3) rfl
  have k4 := (K0.out.below HB2.out).cell (j := 4) rfl
  have k5 := (K0.out.below HB2.out).cell (j := 5) rfl
  have k6 := (K0.out.below HB2.out).cell (j := 6) rfl
  have HDD : Hid (raD l 4 ky vl = l) := rfl
  have HT : Hid (raT l 4 ky lo hi mo false = (scJ l lo hi mo false n)) := by show _ = _; rw [HN.out, scJ_end]; rfl
  have hbn := below_new (o := .cells #[] 34) (w := w2) (Below.refl _ _)
  have HO3 := hid (ow_new w2 w2.heap.size (Nat.le_refl _))
  have HBV := hid hbn
  clear hbn
  go_wp2_with fail
  go_loopw [7, 8, 9, 41] (fun x z y i wr => ∃ (j : Nat) (av : Option Addr) (nv cv : Nat), j ≤ n ∧ i = .int .i64 j ∧ x = .slice av nv cv ∧ Hid (nv = (scJ l lo hi mo false j).length) ∧ Hid (Ow wr w2.heap.size (.slice av nv cv) (scJ l lo hi mo false j)) ∧ Hid (Below w2.heap.size w2 wr)) (fun _ _ _ i _ => n - (intOf i).toNat)
  case atStart => exact ⟨0, _, 0, 0, Nat.zero_le _, rfl, rfl, by show _ = _; simp [scJ], by show Ow _ _ _ _; simpa [scJ] using HO3.out, HBV.out⟩
  case round =>
    obtain ⟨j, av, nv, cv, hj, rfl, rfl, HNV, HO, HBW⟩ := hrel
    clear HO3 HBV k0 k1 k2 k3 k4 k5 k6
    have HB := hid (HB2.out.trans (HBW.out.mono HB2.out.size))
    by_cases hlt : j < n
    · have hlt' : (j : Int) < (n : Int) := by omega
      have hj0 : (0 : Int) ≤ (j : Int) := by omega
      have HLE : Hid ((scJ l lo hi mo false j).length ≤ 1048576) := by show _ ≤ _; have h1 := scJ_le l lo hi mo false j; have h2 := HN.out; omega
      have PJ := hid (P0.out.below' HB.out)
      obtain ⟨b, off, rfl, _, hbw, hcell⟩ := PJ.out.at (by omega)
      obtain ⟨d0, d1⟩ := hcell j hlt
      have hcv := (Rw.len (HO.out.pr (S := fun _ => True) (fun _ _ _ _ => trivial))).2
      have HPJ : Hid (pAtB (dirL false l) j = pAtB l j) := rfl
      have HSD := hid (scJ_step l lo hi mo false j (by rw [← HN.out]; exact hlt))
      rw [HPJ.out] at HSD
      clear hcell hbw PJ HPJ
      generalize hcur : pAtB l j = cur at *
      obtain ⟨kk, vv⟩ := cur
      have HSD2 := hid HSD.out
      clear HSD hcur
      simp only at d0 d1
      have hbp := below_new (o := .cells #[.string kk, .string vv] 34) (w := wr) (Below.refl _ _)
      have KP := hid (Bk.new wr 34 [.string kk, .string vv])
      have HOP := hid (HO.out.kept hbp)
      have HBP := hid (HBW.out.trans (hbp.mono HBW.out.size))
      have HB4 := hid (HB2.out.trans (HBP.out.mono HB2.out.size))
      clear hbp
      have k0 := (K0.out.below HB4.out).cell (j := 0) rfl
      have k1 := (K0.out.below HB4.out).cell (j := 1) rfl
      have k2 := (K0.out.below HB4.out).cell (j := 2) rfl
      have k3 := (K0.out.below HB4.out).cell (j := 3) rfl
      have k4 := (K0.out.below HB4.out).cell (j := 4) rfl
      have k5 := (K0.out.below HB4.out).cell (j := 5) rfl
      have k6 := (K0.out.below HB4.out).cell (j := 6) rfl
      have q0 := KP.out.cell (j := 0) rfl
      have q1 := KP.out.cell (j := 1) rfl
      have HRH := hid (fun v => specRangeHas_any lo hi kk v)
      simp only [rng] at HRH
      go_wp2_with fail
      refine (HRH.out _).mono ?_
      rintro e w5 ⟨rfl, hb⟩
      have KP5 := hid (KP.out.below hb)
      have HO5 := hid (HOP.out.kept hb)
      have HB5 := hid (HBP.out.trans (hb.mono HBP.out.size))
      have HB6 := hid (HB2.out.trans (HB5.out.mono HB2.out.size))
      clear hb KP HOP HBP HB4 HRH k0 k1 k2 k3 k4 k5 k6 q0 q1
      have k0 := (K0.out.below HB6.out).cell (j := 0) rfl
      have k1 := (K0.out.below HB6.out).cell (j := 1) rfl
      have k2 := (K0.out.below HB6.out).cell (j := 2) rfl
      have k3 := (K0.out.below HB6.out).cell (j := 3) rfl
      have k4 := (K0.out.below HB6.out).cell (j := 4) rfl
      have k5 := (K0.out.below HB6.out).cell (j := 5) rfl
      have k6 := (K0.out.below HB6.out).cell (j := 6) rfl
      have q0 := KP5.out.cell (j := 0) rfl
      have q1 := KP5.out.cell (j := 1) rfl
      cases hh : rHas lo hi kk with
      | false =>
        have HC : Hid (¬ (((scJ l lo hi mo false j).length : Int) < mo ∧ rHas lo hi kk = true)) := fun h => by rw [hh] at h; cases h.2
        clear hh
        have HSF : Hid ((scJ l lo hi mo false (j + 1)) = (scJ l lo hi mo false j)) := by show _ = _; rw [HSD2.out, if_neg HC.out]
        clear HSD2 HC
        go_wp2
        go_roundw
        case rel => exact ⟨j + 1, av, nv, cv, by omega, by go_num, rfl, by rw [HSF.out]; exact HNV.out, by rw [HSF.out]; exact HO5.out, HB5.out⟩
        case measure => simp [intOf]; omega
      | true =>
        by_cases hm : (nv : Int) < mo
        · have HC : Hid (((scJ l lo hi mo false j).length : Int) < mo ∧ rHas lo hi kk = true) := ⟨by rw [← HNV.out]; exact hm, hh⟩
          clear hh
          have hb := below_new (o := .cells #[.string kk, .string vv] 34) (w := w5) (Below.refl _ _)
          have KS : Hid (Bk (w5.alloc (.cells #[.string kk, .string vv] 34)) (w5.heap.size) 34 [.string kk, .string vv]) := by have := Bk.new w5 34 [.string kk, .string vv]; show Bk _ _ _ _; simpa using this
          have HOa := hid (HO5.out.kept hb)
          have HBa := hid (HB5.out.trans (hb.mono HB5.out.size))
          clear hb
          have HSF : Hid ((scJ l lo hi mo false (j + 1)) = (scJ l lo hi mo false j) ++ [(kk, vv)]) := by show _ = _; rw [HSD2.out, if_pos HC.out]
          clear HSD2 HC
          go_wp2_with (at_builtin; refine wpList_append_pair1 rfl _ _ rfl w2.heap.size _ (scJ l lo hi mo false j) rfl HOa.out (w5.heap.size) kk vv rfl KS.out ?q1 ?q2 ?_)
          case q1 => exact HLE.out
          case q2 => first | exact HBa.out.size | (have h := HBa.out.size; simp at h; omega)
          intro a7 n7 c7 w7 hO hg hown
          have HO7 : Hid (Ow w7 w2.heap.size (.slice a7 n7 c7) ((scJ l lo hi mo false j) ++ [(kk, vv)])) := hO
          have HB7 : Hid (Below w2.heap.size w2 w7) := HBa.out.trans (grown_belowB HOa.out hg HBa.out.size)
          obtain ⟨_, _, _, hsh, hn7⟩ := hO.shape'
          cases hsh
          have HN7 := hid hn7.out
          clear hO hg hown hn7 HOa HBa KS k0 k1 k2 k3 k4 k5 k6 q0 q1
          rw [← HSF.out] at HO7 HN7
          generalize hg9 : (scJ l lo hi mo false (j + 1)) = Z at *
          have HG9 := hid hg9
          clear hg9
          go_wp2
          go_roundw
          case rel => exact ⟨j + 1, a7, n7, c7, by omega, by go_num, rfl, by rw [HG9.out]; exact HN7.out, by rw [HG9.out]; exact HO7.out, HB7.out⟩
          case measure => simp [intOf]; omega
        · have HC : Hid (¬ (((scJ l lo hi mo false j).length : Int) < mo ∧ rHas lo hi kk = true)) := fun h => hm (by rw [HNV.out]; exact h.1)
          clear hh
          have HSF : Hid ((scJ l lo hi mo false (j + 1)) = (scJ l lo hi mo false j)) := by show _ = _; rw [HSD2.out, if_neg HC.out]
          clear HSD2 HC
          go_wp2
          go_roundw
          case rel => exact ⟨j + 1, av, nv, cv, by omega, by go_num, rfl, by rw [HSF.out]; exact HNV.out, by rw [HSF.out]; exact HO5.out, HB5.out⟩
          case measure => simp [intOf]; omega
    · have hlt' : ¬ (j : Int) < (n : Int) := by omega
      obtain rfl : j = n := by omega
      have hb := below_new (o := .cells #[] 34) (w := wr) (Below.refl _ _)
      have HSE : Hid (∀ q, (Value.slice av nv cv).ownBlock = some q → q < wr.heap.size) := fun q hq => (World.ownsRow.lt HO.out q hq).2
      have HN1 := hid (ow_new wr w2.heap.size HBW.out.size)
      have HO1 := hid (HO.out.kept hb)
      have HBa := hid (HBW.out.trans (hb.mono HBW.out.size))
      have PA := hid (P0.out.below' (HB2.out.trans (HBa.out.mono HB2.out.size)))
      have hcv := (Rw.len (HO.out.pr (S := fun _ => True) (fun _ _ _ _ => trivial))).2
      clear hb HO HBW HB
      go_wp2_with (at_builtin; refine wpList_append_prs rfl _ _ rfl w2.heap.size _ [] rfl HN1.out S a j c l rfl PA.out (by simp; omega) ?q2 ?_)
      case q2 => first | exact HBa.out.size | (have h := HBa.out.size; simp at h; omega)
      intro a7 n7 c7 w7 hO hg
      have HO7 : Hid (Ow w7 w2.heap.size (.slice a7 n7 c7) l) := by show Ow _ _ _ _; first | exact hO | simpa using hO
      have HB7 : Hid (Below w2.heap.size w2 w7) := HBa.out.trans (grown_belowB HN1.out hg HBa.out.size)
      have HT7 : Hid (Ow w7 w2.heap.size (.slice av nv cv) (scJ l lo hi mo false j)) := HO1.out.to (only_of_grown hg (R := fun y => y = wr.heap.size) (fun q hq => by cases hq; rfl)) (fun q hq e => by have := HSE.out q hq; omega)
      clear hO hg HN1 HO1 HBa PA
      go_wp2
      go_ret3
      rw [HT.out, HDD.out]
      exact ⟨_, _, _, _, _, _, rfl, ow_mono HO7.out (Nat.le_trans HBU.out.size HB2.out.size), ow_mono HT7.out (Nat.le_trans HBU.out.size HB2.out.size), HBU.out.trans ((HB2.out.trans (HB7.out.mono HB2.out.size)).mono HBU.out.size)⟩
end Go.Proofs.Ytnbafoennnhppaa
/-
  RunAsk of the specification: a scan.
-/
namespace Go.Proofs.Ytnbafoennnhppaa
open Go.RowKit
set_option maxHeartbeats 8000000 in
set_option maxRecDepth 20000 in
theorem specRunAsk_4t (S : Nat → Prop) (a : Option Addr) (n c : Nat) (l : List PB) (ky vl lo hi : ByteArray) (mo : Int) (w : World) (h : Pr w S (.slice a n c) l) (hs : n ≤ 1048576) (hd : daOk l = true) (hk : akOk 4 ky vl lo hi mo true = true) :
    Calls Try.prog 10 #[.slice a n c, .agg #[.int .i64 4, .string ky, .string vl, .string lo, .string hi, .int .i64 mo, .bool true]] w fun e w' => RsPost true (raD l 4 ky vl) (raT l 4 ky lo hi mo true) w e w' := by
  have hb := below_new (o := .cells #[.int .i64 4, .string ky, .string vl, .string lo, .string hi, .int .i64 mo, .bool true] 27) (w := w) (Below.refl _ _)
  have HBU := hid hb
  have K0 := hid (Bk.new w 27 [.int .i64 4, .string ky, .string vl, .string lo, .string hi, .int .i64 mo, .bool true])
  have P0 := hid (h.below' hb)
  have HN := hid (Rw.len h).1
  have HD := hid hd
  have HK := hid hk
  clear hb h hd hk
  have k0 := K0.out.cell (j := 0) rfl
  have k1 := K0.out.cell (j := 1) rfl
  have k2 := K0.out.cell (j := 2) rfl
  have k3 := K0.out.cell (j := 3) rfl
  have k4 := K0.out.cell (j := 4) rfl
  have k5 := K0.out.cell (j := 5) rfl
  have k6 := K0.out.cell (j := 6) rfl
  go_enter Try.func10, Try.ntmps10
  go_wp2_with fail
  refine (specDataOk_at S a n c l _ P0.out (by omega)).mono ?_
  have HUZ : Hid ((w.alloc (.cells #[.int .i64 4, .string ky, .string vl, .string lo, .string hi, .int .i64 mo, .bool true] 27)).heap.size = w.heap.size + 1) := by show _ = _; simp
  generalize hU : w.alloc (.cells #[.int .i64 4, .string ky, .string vl, .string lo, .string hi, .int .i64 mo, .bool true] 27) = U at *
  clear hU
  rintro e w1 ⟨rfl, hb⟩
  have HB1 := hid hb
  clear hb k0 k1 k2 k3 k4 k5 k6
  rw [HD.out]
  have k0 := (K0.out.below HB1.out).cell (j := 0) rfl
  have k1 := (K0.out.below HB1.out).cell (j := 1) rfl
  have k2 := (K0.out.below HB1.out).cell (j := 2) rfl
  have k3 := (K0.out.below HB1.out).cell (j := 3) rfl
  have k4 := (K0.out.below HB1.out).cell (j := 4) rfl
  have k5 := (K0.out.below HB1.out).cell (j := 5) rfl
  have k6 := (K0.out.below HB1.out).cell (j := 6) rfl
  go_wp2_with fail
  refine (specAskOk_any 4 ky vl lo hi mo true _).mono ?_
  rintro e w2 ⟨rfl, hb⟩
  have HB2 := hid (HB1.out.trans (hb.mono HB1.out.size))
  clear hb HB1 k0 k1 k2 k3 k4 k5 k6
  rw [HK.out]
  have k0 := (K0.out.below HB2.out).cell (j := 0) rfl
  have k1 := (K0.out.below HB2.out).cell (j := 1) rfl
  have k2 := (K0.out.below HB2.out).cell (j := 2) rfl
  have k3 := (K0.out.below HB2.out).cell (j := 3) rfl
  have k4 := (K0.out.below HB2.out).cell (j := 4) rfl
  have k5 := (K0.out.below HB2.out).cell (j := 5) rfl
  have k6 := (K0.out.below HB2.out).cell (j := 6) rfl
  have HDD : Hid (raD l 4 ky vl = l) := rfl
  have HT : Hid (raT l 4 ky lo hi mo true = (scJ l lo hi mo true n)) := by show _ = _; rw [HN.out, scJ_end]; rfl
  have hbn := below_new (o := .cells #[] 34) (w := w2) (Below.refl _ _)
  have HO3 := hid (ow_new w2 w2.heap.size (Nat.le_refl _))
  have HBV := hid hbn
  clear hbn
  go_wp2_with fail
  go_loopw [7, 8, 9, 41] (fun x z y i wr => ∃ (j : Nat) (av : Option Addr) (nv cv : Nat), j ≤ n ∧ i = .int .i64 j ∧ x = .slice av nv cv ∧ Hid (nv = (scJ l lo hi mo true j).length) ∧ Hid (Ow wr w2.heap.size (.slice av nv cv) (scJ l lo hi mo true j)) ∧ Hid (Below w2.heap.size w2 wr)) (fun _ _ _ i _ => n - (intOf i).toNat)
  case atStart => exact ⟨0, _, 0, 0, Nat.zero_le _, rfl, rfl, by show _ = _; simp [scJ], by show Ow _ _ _ _; simpa [scJ] using HO3.out, HBV.out⟩
  case round =>
    obtain ⟨j, av, nv, cv, hj, rfl, rfl, HNV, HO, HBW⟩ := hrel
    clear HO3 HBV k0 k1 k2 k3 k4 k5 k6
    have HB := hid (HB2.out.trans (HBW.out.mono HB2.out.size))
    by_cases hlt : j < n
    · have hlt' : (j : Int) < (n : Int) := by omega
      have hj0 : (0 : Int) ≤ (j : Int) := by omega
      have HLE : Hid ((scJ l lo hi mo true j).length ≤ 1048576) := by show _ ≤ _; have h1 := scJ_le l lo hi mo true j; have h2 := HN.out; omega
      have PJ := hid (P0.out.below' HB.out)
      obtain ⟨b, off, rfl, _, hbw, hcell⟩ := PJ.out.at (by omega)
      obtain ⟨d0, d1⟩ := hcell j hlt
      have hcv := (Rw.len (HO.out.pr (S := fun _ => True) (fun _ _ _ _ => trivial))).2
      obtain ⟨f0, f1⟩ := hcell (n - 1 - j) (by omega)
      have hjn : (n : Int) - 1 - (j : Int) = ((n - 1 - j : Nat) : Int) := by omega
      have hq : ((n - 1 - j : Nat) : Int) < (n : Int) := by omega
      have HPJ : Hid (pAtB (dirL true l) j = pAtB l (n - 1 - j)) := by show _ = _; rw [dirL_at l j (by rw [← HN.out]; exact hlt), HN.out]
      have HSD := hid (scJ_step l lo hi mo true j (by rw [← HN.out]; exact hlt))
      rw [HPJ.out] at HSD
      clear hcell hbw PJ HPJ
      generalize n - 1 - j = q at *
      generalize pAtB l j = pre at *
      obtain ⟨k0, v0⟩ := pre
      simp only at d0 d1
      generalize hcur : pAtB l q = cur at *
      obtain ⟨kk, vv⟩ := cur
      have HSD2 := hid HSD.out
      clear HSD hcur
      simp only at f0 f1
      have hbx := below_new (o := .cells #[.string k0, .string v0] 34) (w := wr) (Below.refl _ _)
      have KX := hid (Bk.new wr 34 [.string k0, .string v0])
      have g0 : (wr.alloc (.cells #[.string k0, .string v0] 34)).cell? ⟨b, off + q * 2, none⟩ = some (.string kk) := by rw [hbx.cell (p := ⟨b, off + q * 2, none⟩) (block_lt f0)]; exact f0
      have g1 : (wr.alloc (.cells #[.string k0, .string v0] 34)).cell? ⟨b, off + q * 2 + 1, none⟩ = some (.string vv) := by rw [hbx.cell (p := ⟨b, off + q * 2 + 1, none⟩) (block_lt f1)]; exact f1
      have x0 := KX.out.cell (j := 0) rfl
      have x1 := KX.out.cell (j := 1) rfl
      have z0 := KX.out.free 0
      have z1 := KX.out.free 1
      have hbx2 := HB.out.trans (hbx.mono HB.out.size)
      have m0 := (K0.out.below hbx2).cell (j := 0) rfl
      have m1 := (K0.out.below hbx2).cell (j := 1) rfl
      have m2 := (K0.out.below hbx2).cell (j := 2) rfl
      have m3 := (K0.out.below hbx2).cell (j := 3) rfl
      have m4 := (K0.out.below hbx2).cell (j := 4) rfl
      have m5 := (K0.out.below hbx2).cell (j := 5) rfl
      have m6 := (K0.out.below hbx2).cell (j := 6) rfl
      clear hbx hbx2 f0 f1
      have hbp := below_new (o := .cells #[.string kk, .string vv] 34) (w := wr) (Below.refl _ _)
      have KP := hid (Bk.new wr 34 [.string kk, .string vv])
      have HOP := hid (HO.out.kept hbp)
      have HBP := hid (HBW.out.trans (hbp.mono HBW.out.size))
      have HB4 := hid (HB2.out.trans (HBP.out.mono HB2.out.size))
      clear hbp
      have k0 := (K0.out.below HB4.out).cell (j := 0) rfl
      have k1 := (K0.out.below HB4.out).cell (j := 1) rfl
      have k2 := (K0.out.below HB4.out).cell (j := 2) rfl
      have k3 := (K0.out.below HB4.out).cell (j := 3) rfl
      have k4 := (K0.out.below HB4.out).cell (j := 4) rfl
      have k5 := (K0.out.below HB4.out).cell (j := 5) rfl
      have k6 := (K0.out.below HB4.out).cell (j := 6) rfl
      have q0 := KP.out.cell (j := 0) rfl
      have q1 := KP.out.cell (j := 1) rfl
      have HRH := hid (fun v => specRangeHas_any lo hi kk v)
      simp only [rng] at HRH
      go_wp2_with fail
      refine (HRH.out _).mono ?_
      rintro e w5 ⟨rfl, hb⟩
      have KP5 := hid (KP.out.below hb)
      have HO5 := hid (HOP.out.kept hb)
      have HB5 := hid (HBP.out.trans (hb.mono HBP.out.size))
      have HB6 := hid (HB2.out.trans (HB5.out.mono HB2.out.size))
      clear hb KP HOP HBP HB4 HRH k0 k1 k2 k3 k4 k5 k6 q0 q1 m0 m1 m2 m3 m4 m5 m6 g0 g1 x0 x1 z0 z1
      have k0 := (K0.out.below HB6.out).cell (j := 0) rfl
      have k1 := (K0.out.below HB6.out).cell (j := 1) rfl
      have k2 := (K0.out.below HB6.out).cell (j := 2) rfl
      have k3 := (K0.out.below HB6.out).cell (j := 3) rfl
      have k4 := (K0.out.below HB6.out).cell (j := 4) rfl
      have k5 := (K0.out.below HB6.out).cell (j := 5) rfl
      have k6 := (K0.out.below HB6.out).cell (j := 6) rfl
      have q0 := KP5.out.cell (j := 0) rfl
      have q1 := KP5.out.cell (j := 1) rfl
      cases hh : rHas lo hi kk with
      | false =>
        have HC : Hid (¬ (((scJ l lo hi mo true j).length : Int) < mo ∧ rHas lo hi kk = true)) := fun h => by rw [hh] at h; cases h.2
        clear hh
        have HSF : Hid ((scJ l lo hi mo true (j + 1)) = (scJ l lo hi mo true j)) := by show _ = _; rw [HSD2.out, if_neg HC.out]
        clear HSD2 HC
        go_wp2
        go_roundw
        case rel => exact ⟨j + 1, av, nv, cv, by omega, by go_num, rfl, by rw [HSF.out]; exact HNV.out, by rw [HSF.out]; exact HO5.out, HB5.out⟩
        case measure => simp [intOf]; omega
      | true =>
        by_cases hm : (nv : Int) < mo
        · have HC : Hid (((scJ l lo hi mo true j).length : Int) < mo ∧ rHas lo hi kk = true) := ⟨by rw [← HNV.out]; exact hm, hh⟩
          clear hh
          have hb := below_new (o := .cells #[.string kk, .string vv] 34) (w := w5) (Below.refl _ _)
          have KS : Hid (Bk (w5.alloc (.cells #[.string kk, .string vv] 34)) (w5.heap.size) 34 [.string kk, .string vv]) := by have := Bk.new w5 34 [.string kk, .string vv]; show Bk _ _ _ _; simpa using this
          have HOa := hid (HO5.out.kept hb)
          have HBa := hid (HB5.out.trans (hb.mono HB5.out.size))
          clear hb
          have HSF : Hid ((scJ l lo hi mo true (j + 1)) = (scJ l lo hi mo true j) ++ [(kk, vv)]) := by show _ = _; rw [HSD2.out, if_pos HC.out]
          clear HSD2 HC
          go_wp2_with (at_builtin; refine wpList_append_pair1 rfl _ _ rfl w2.heap.size _ (scJ l lo hi mo true j) rfl HOa.out (w5.heap.size) kk vv rfl KS.out ?q1 ?q2 ?_)
          case q1 => exact HLE.out
          case q2 => first | exact HBa.out.size | (have h := HBa.out.size; simp at h; omega)
          intro a7 n7 c7 w7 hO hg hown
          have HO7 : Hid (Ow w7 w2.heap.size (.slice a7 n7 c7) ((scJ l lo hi mo true j) ++ [(kk, vv)])) := hO
          have HB7 : Hid (Below w2.heap.size w2 w7) := HBa.out.trans (grown_belowB HOa.out hg HBa.out.size)
          obtain ⟨_, _, _, hsh, hn7⟩ := hO.shape'
          cases hsh
          have HN7 := hid hn7.out
          clear hO hg hown hn7 HOa HBa KS k0 k1 k2 k3 k4 k5 k6 q0 q1
          rw [← HSF.out] at HO7 HN7
          generalize hg9 : (scJ l lo hi mo true (j + 1)) = Z at *
          have HG9 := hid hg9
          clear hg9
          go_wp2
          go_roundw
          case rel => exact ⟨j + 1, a7, n7, c7, by omega, by go_num, rfl, by rw [HG9.out]; exact HN7.out, by rw [HG9.out]; exact HO7.out, HB7.out⟩
          case measure => simp [intOf]; omega
        · have HC : Hid (¬ (((scJ l lo hi mo true j).length : Int) < mo ∧ rHas lo hi kk = true)) := fun h => hm (by rw [HNV.out]; exact h.1)
          clear hh
          have HSF : Hid ((scJ l lo hi mo true (j + 1)) = (scJ l lo hi mo true j)) := by show _ = _; rw [HSD2.out, if_neg HC.out]
          clear HSD2 HC
          go_wp2
          go_roundw
          case rel => exact ⟨j + 1, av, nv, cv, by omega, by go_num, rfl, by rw [HSF.out]; exact HNV.out, by rw [HSF.out]; exact HO5.out, HB5.out⟩
          case measure => simp [intOf]; omega
    · have hlt' : ¬ (j : Int) < (n : Int) := by omega
      obtain rfl : j = n := by omega
      have hb := below_new (o := .cells #[] 34) (w := wr) (Below.refl _ _)
      have HSE : Hid (∀ q, (Value.slice av nv cv).ownBlock = some q → q < wr.heap.size) := fun q hq => (World.ownsRow.lt HO.out q hq).2
      have HN1 := hid (ow_new wr w2.heap.size HBW.out.size)
      have HO1 := hid (HO.out.kept hb)
      have HBa := hid (HBW.out.trans (hb.mono HBW.out.size))
      have PA := hid (P0.out.below' (HB2.out.trans (HBa.out.mono HB2.out.size)))
      have hcv := (Rw.len (HO.out.pr (S := fun _ => True) (fun _ _ _ _ => trivial))).2
      clear hb HO HBW HB
      go_wp2_with (at_builtin; refine wpList_append_prs rfl _ _ rfl w2.heap.size _ [] rfl HN1.out S a j c l rfl PA.out (by simp; omega) ?q2 ?_)
      case q2 => first | exact HBa.out.size | (have h := HBa.out.size; simp at h; omega)
      intro a7 n7 c7 w7 hO hg
      have HO7 : Hid (Ow w7 w2.heap.size (.slice a7 n7 c7) l) := by show Ow _ _ _ _; first | exact hO | simpa using hO
      have HB7 : Hid (Below w2.heap.size w2 w7) := HBa.out.trans (grown_belowB HN1.out hg HBa.out.size)
      have HT7 : Hid (Ow w7 w2.heap.size (.slice av nv cv) (scJ l lo hi mo true j)) := HO1.out.to (only_of_grown hg (R := fun y => y = wr.heap.size) (fun q hq => by cases hq; rfl)) (fun q hq e => by have := HSE.out q hq; omega)
      clear hO hg HN1 HO1 HBa PA
      go_wp2
      go_ret3
      rw [HT.out, HDD.out]
      exact ⟨_, _, _, _, _, _, rfl, ow_mono HO7.out (Nat.le_trans HBU.out.size HB2.out.size), ow_mono HT7.out (Nat.le_trans HBU.out.size HB2.out.size), HBU.out.trans ((HB2.out.trans (HB7.out.mono HB2.out.size)).mono HBU.out.size)⟩
end Go.Proofs.Ytnbafoennnhppaa
/-
  RunAsk of the specification, for all data and asks.
-/
namespace Go.Proofs.Ytnbafoennnhppaa
open Go.RowKit
set_option maxHeartbeats 4000000 in
set_option maxRecDepth 20000 in
theorem specRunAsk_no (S : Nat → Prop) (a : Option Addr) (n c : Nat) (l : List PB) (k : Int) (ky vl lo hi : ByteArray) (mo : Int) (bk : Bool) (w : World) (h : Pr w S (.slice a n c) l) (hs : n ≤ 1048576) (hn : raK l k ky vl lo hi mo bk = false) :
    Calls Try.prog 10 #[.slice a n c, .agg #[.int .i64 k, .string ky, .string vl, .string lo, .string hi, .int .i64 mo, .bool bk]] w fun e w' => RsPost false [] [] w e w' := by
  have hb := below_new (o := .cells #[.int .i64 k, .string ky, .string vl, .string lo, .string hi, .int .i64 mo, .bool bk] 27) (w := w) (Below.refl _ _)
  have HBU := hid hb
  have K0 := hid (Bk.new w 27 [.int .i64 k, .string ky, .string vl, .string lo, .string hi, .int .i64 mo, .bool bk])
  have P0 := hid (h.below' hb)
  have HR := hid hn
  clear hb h hn
  have k0 := K0.out.cell (j := 0) rfl
  have k1 := K0.out.cell (j := 1) rfl
  have k2 := K0.out.cell (j := 2) rfl
  have k3 := K0.out.cell (j := 3) rfl
  have k4 := K0.out.cell (j := 4) rfl
  have k5 := K0.out.cell (j := 5) rfl
  have k6 := K0.out.cell (j := 6) rfl
  go_enter Try.func10, Try.ntmps10
  go_wp2_with fail
  refine (specDataOk_at S a n c l _ P0.out (by omega)).mono ?_
  generalize hU : w.alloc (.cells #[.int .i64 k, .string ky, .string vl, .string lo, .string hi, .int .i64 mo, .bool bk] 27) = U at *
  clear hU
  rintro e w1 ⟨rfl, hb⟩
  have HB1 := hid hb
  clear hb k0 k1 k2 k3 k4 k5 k6
  have k0 := (K0.out.below HB1.out).cell (j := 0) rfl
  have k1 := (K0.out.below HB1.out).cell (j := 1) rfl
  have k2 := (K0.out.below HB1.out).cell (j := 2) rfl
  have k3 := (K0.out.below HB1.out).cell (j := 3) rfl
  have k4 := (K0.out.below HB1.out).cell (j := 4) rfl
  have k5 := (K0.out.below HB1.out).cell (j := 5) rfl
  have k6 := (K0.out.below HB1.out).cell (j := 6) rfl
  cases hd : daOk l with
  | false =>
    clear hd
    go_wp2
    go_ret3
    exact rs_no (HBU.out.trans (HB1.out.mono HBU.out.size))
  | true =>
    have HK : Hid (akOk k ky vl lo hi mo bk = false) := by have := HR.out; show _ = _; simpa [raK, hd] using this
    clear hd
    go_wp2_with fail
    refine (specAskOk_any k ky vl lo hi mo bk _).mono ?_
    rintro e w2 ⟨rfl, hb⟩
    have HB2 := hid (HB1.out.trans (hb.mono HB1.out.size))
    clear hb HB1 k0 k1 k2 k3 k4 k5 k6
    rw [HK.out]
    go_wp2
    go_ret3
    exact rs_no (HBU.out.trans (HB2.out.mono HBU.out.size))
theorem specRunAsk_any (S : Nat → Prop) (a : Option Addr) (n c : Nat) (l : List PB) (k : Int) (ky vl lo hi : ByteArray) (mo : Int) (bk : Bool) (w : World) (h : Pr w S (.slice a n c) l) (hs : n ≤ 1048576) :
    Calls Try.prog 10 #[.slice a n c, .agg #[.int .i64 k, .string ky, .string vl, .string lo, .string hi, .int .i64 mo, .bool bk]] w fun e w' => RsPost (raK l k ky vl lo hi mo bk) (raDo l k ky vl lo hi mo bk) (raTo l k ky vl lo hi mo bk) w e w' := by
  cases hr : raK l k ky vl lo hi mo bk with
  | false =>
    have e1 : raDo l k ky vl lo hi mo bk = [] := by simp [raDo, hr]
    have e2 : raTo l k ky vl lo hi mo bk = [] := by simp [raTo, hr]
    rw [e1, e2]
    exact specRunAsk_no S a n c l k ky vl lo hi mo bk w h hs hr
  | true =>
    have e1 : raDo l k ky vl lo hi mo bk = raD l k ky vl := by simp [raDo, hr]
    have e2 : raTo l k ky vl lo hi mo bk = raT l k ky lo hi mo bk := by simp [raTo, hr]
    rw [e1, e2]
    obtain ⟨hd, hk⟩ : daOk l = true ∧ akOk k ky vl lo hi mo bk = true := by simpa [raK] using hr
    rcases ak_kind hk with rfl | rfl | rfl | rfl
    · obtain ⟨_, _, rfl⟩ := ak_get hk (.inl rfl)
      exact specRunAsk_1 S a n c l ky vl lo hi mo w h hs hd hk
    · exact specRunAsk_2 S a n c l ky vl lo hi mo bk w h hs hd hk
    · exact specRunAsk_3 S a n c l ky vl lo hi mo bk w h hs hd hk
    · cases bk with
      | false => exact specRunAsk_4f S a n c l ky vl lo hi mo w h hs hd hk
      | true => exact specRunAsk_4t S a n c l ky vl lo hi mo w h hs hd hk
end Go.Proofs.Ytnbafoennnhppaa
/-
  Asks: the law's helpers, AskLock on both sides, the laws FnExactAskOk and FnExactAskLock.
-/
namespace Go.Proofs.Ytnbafoennnhppaa
open Go.RowKit
set_option linter.unusedVariables false
theorem load_ask {w : World} {g : Nat} {k : Int} {ky vl lo hi : ByteArray} {mo : Int} {bk : Bool} (c0 : w.cell? ⟨g, 0, none⟩ = some (.int .i64 k)) (c1 : w.cell? ⟨g, 1, none⟩ = some (.string ky)) (c2 : w.cell? ⟨g, 2, none⟩ = some (.string vl)) (c3 : w.cell? ⟨g, 3, none⟩ = some (.string lo)) (c4 : w.cell? ⟨g, 4, none⟩ = some (.string hi)) (c5 : w.cell? ⟨g, 5, none⟩ = some (.int .i64 mo)) (c6 : w.cell? ⟨g, 6, none⟩ = some (.bool bk)) :
    (loadVar 27 ⟨g, 0, none⟩).run Try.prog w = .ok (.agg #[.int .i64 k, .string ky, .string vl, .string lo, .string hi, .int .i64 mo, .bool bk]) w := by go_simp
theorem results_ask {fn : Func} {p : Tmp} (h : fn.results = #[.cell p 27]) (tmps : Array Value) (w : World) (g : Nat) {k : Int} {ky vl lo hi : ByteArray} {mo : Int} {bk : Bool} (hp : tmps.getD p undef = .pointer (some ⟨g, 0, none⟩)) (c0 : w.cell? ⟨g, 0, none⟩ = some (.int .i64 k)) (c1 : w.cell? ⟨g, 1, none⟩ = some (.string ky)) (c2 : w.cell? ⟨g, 2, none⟩ = some (.string vl)) (c3 : w.cell? ⟨g, 3, none⟩ = some (.string lo)) (c4 : w.cell? ⟨g, 4, none⟩ = some (.string hi)) (c5 : w.cell? ⟨g, 5, none⟩ = some (.int .i64 mo)) (c6 : w.cell? ⟨g, 6, none⟩ = some (.bool bk)) :
    (results fn tmps).run Try.prog w = .ok (.agg #[.int .i64 k, .string ky, .string vl, .string lo, .string hi, .int .i64 mo, .bool bk]) w := by
  have hp' : tmps[p]?.getD undef = .pointer (some ⟨g, 0, none⟩) := by simpa using hp
  simp [results, h, hp', asAddr, load_ask c0 c1 c2 c3 c4 c5 c6]
set_option maxHeartbeats 3200000 in
theorem toAsk_any (k : Int) (ky vl lo hi : ByteArray) (mo : Int) (bk : Bool) (w : World) : Calls Try.prog 18 #[.agg #[.int .i64 k, .string ky, .string vl, .string lo, .string hi, .int .i64 mo, .bool bk]] w fun r w' => r = .returned (.agg #[.int .i64 k, .string ky, .string vl, .string lo, .string hi, .int .i64 mo, .bool bk]) ∧ Below w.heap.size w w' := by
  have C1 : Hid (∀ w, Calls Try.prog 54 #[.agg #[.string lo, .string hi]] w fun r w' => r = .returned (.agg #[.string lo, .string hi]) ∧ Below w.heap.size w w') := fun w => toRange_any lo hi w
  have B0 : Hid (Below w.heap.size w (((w.alloc (.cells #[.int .i64 k, .string ky, .string vl, .string lo, .string hi, .int .i64 mo, .bool bk] 43)).alloc (.cells #[.int .i64 0, .string ⟨#[]⟩, .string ⟨#[]⟩, .string ⟨#[]⟩, .string ⟨#[]⟩, .int .i64 0, .bool false] 27)).alloc (.cells #[.int .i64 k, .string ky, .string vl, .string ⟨#[]⟩, .string ⟨#[]⟩, .int .i64 0, .bool false] 27))) := below_new (below_new (below_new (Below.refl _ _)))
  have K0 := hid (((Bk.new w 43 [.int .i64 k, .string ky, .string vl, .string lo, .string hi, .int .i64 mo, .bool bk]).alloc (.cells #[.int .i64 0, .string ⟨#[]⟩, .string ⟨#[]⟩, .string ⟨#[]⟩, .string ⟨#[]⟩, .int .i64 0, .bool false] 27)).alloc (.cells #[.int .i64 k, .string ky, .string vl, .string ⟨#[]⟩, .string ⟨#[]⟩, .int .i64 0, .bool false] 27))
  have J0 := hid ((Bk.new (w.alloc (.cells #[.int .i64 k, .string ky, .string vl, .string lo, .string hi, .int .i64 mo, .bool bk] 43)) 27 [.int .i64 0, .string ⟨#[]⟩, .string ⟨#[]⟩, .string ⟨#[]⟩, .string ⟨#[]⟩, .int .i64 0, .bool false]).alloc (.cells #[.int .i64 k, .string ky, .string vl, .string ⟨#[]⟩, .string ⟨#[]⟩, .int .i64 0, .bool false] 27))
  have I0 := hid (Bk.new ((w.alloc (.cells #[.int .i64 k, .string ky, .string vl, .string lo, .string hi, .int .i64 mo, .bool bk] 43)).alloc (.cells #[.int .i64 0, .string ⟨#[]⟩, .string ⟨#[]⟩, .string ⟨#[]⟩, .string ⟨#[]⟩, .int .i64 0, .bool false] 27)) 27 [.int .i64 k, .string ky, .string vl, .string ⟨#[]⟩, .string ⟨#[]⟩, .int .i64 0, .bool false])
  rw [show (w.alloc (.cells #[.int .i64 k, .string ky, .string vl, .string lo, .string hi, .int .i64 mo, .bool bk] 43)).heap.size = w.heap.size + 1 by simp] at J0
  rw [show ((w.alloc (.cells #[.int .i64 k, .string ky, .string vl, .string lo, .string hi, .int .i64 mo, .bool bk] 43)).alloc (.cells #[.int .i64 0, .string ⟨#[]⟩, .string ⟨#[]⟩, .string ⟨#[]⟩, .string ⟨#[]⟩, .int .i64 0, .bool false] 27)).heap.size = w.heap.size + 1 + 1 by simp] at I0
  go_enter Try.func18, Try.ntmps18
  go_wp2_with fail
  refine (C1.out _).mono ?_
  generalize ((w.alloc (.cells #[.int .i64 k, .string ky, .string vl, .string lo, .string hi, .int .i64 mo, .bool bk] 43)).alloc (.cells #[.int .i64 0, .string ⟨#[]⟩, .string ⟨#[]⟩, .string ⟨#[]⟩, .string ⟨#[]⟩, .int .i64 0, .bool false] 27)).alloc (.cells #[.int .i64 k, .string ky, .string vl, .string ⟨#[]⟩, .string ⟨#[]⟩, .int .i64 0, .bool false] 27) = U at *
  rintro r w1 ⟨rfl, hb⟩
  have K1 := hid (K0.out.below hb)
  have J1 := hid (J0.out.below hb)
  have I1 := hid (I0.out.below hb)
  have B1 := hid (btR B0.out hb)
  clear J0 I0 K0 B0 hb
  have x5 := K1.out.cell (j := 5) rfl
  have x6 := K1.out.cell (j := 6) rfl
  have y0 := I1.out.cell (j := 0) rfl
  have y1 := I1.out.cell (j := 1) rfl
  have y2 := I1.out.cell (j := 2) rfl
  have y3 := I1.out.cell (j := 3) rfl
  have y4 := I1.out.cell (j := 4) rfl
  have y5 := I1.out.cell (j := 5) rfl
  have y6 := I1.out.cell (j := 6) rfl
  have f3 := I1.out.free 3
  have f4 := I1.out.free 4
  have f5 := I1.out.free 5
  have f6 := I1.out.free 6
  have z0 := J1.out.cell (j := 0) rfl
  have z1 := J1.out.cell (j := 1) rfl
  have z2 := J1.out.cell (j := 2) rfl
  have z3 := J1.out.cell (j := 3) rfl
  have z4 := J1.out.cell (j := 4) rfl
  have z5 := J1.out.cell (j := 5) rfl
  have z6 := J1.out.cell (j := 6) rfl
  have g0 := J1.out.free 0
  have g1 := J1.out.free 1
  have g2 := J1.out.free 2
  have g3 := J1.out.free 3
  have g4 := J1.out.free 4
  have g5 := J1.out.free 5
  have g6 := J1.out.free 6
  have J2 : Hid (Bk ((((w1.setCell ⟨w.heap.size + 1 + 1, 3, none⟩ (.string lo)).setCell ⟨w.heap.size + 1 + 1, 4, none⟩ (.string hi)).setCell ⟨w.heap.size + 1 + 1, 5, none⟩ (.int .i64 mo)).setCell ⟨w.heap.size + 1 + 1, 6, none⟩ (.bool bk)) (w.heap.size + 1) 27 [.int .i64 0, .string ⟨#[]⟩, .string ⟨#[]⟩, .string ⟨#[]⟩, .string ⟨#[]⟩, .int .i64 0, .bool false]) := ((((J1.out.setOther (by omega) _ _).setOther (by omega) _ _).setOther (by omega) _ _).setOther (by omega) _ _)
  have J3 := hid (((((((J2.out.set 0 (.int .i64 k)).set 1 (.string ky)).set 2 (.string vl)).set 3 (.string lo)).set 4 (.string hi)).set 5 (.int .i64 mo)).set 6 (.bool bk))
  have B3 := hid (Below.setCell (p := ⟨w.heap.size + 1, 6, none⟩) (Below.setCell (p := ⟨w.heap.size + 1, 5, none⟩) (Below.setCell (p := ⟨w.heap.size + 1, 4, none⟩) (Below.setCell (p := ⟨w.heap.size + 1, 3, none⟩) (Below.setCell (p := ⟨w.heap.size + 1, 2, none⟩) (Below.setCell (p := ⟨w.heap.size + 1, 1, none⟩) (Below.setCell (p := ⟨w.heap.size + 1, 0, none⟩) (Below.setCell (p := ⟨w.heap.size + 1 + 1, 6, none⟩) (Below.setCell (p := ⟨w.heap.size + 1 + 1, 5, none⟩) (Below.setCell (p := ⟨w.heap.size + 1 + 1, 4, none⟩) (Below.setCell (p := ⟨w.heap.size + 1 + 1, 3, none⟩) B1.out (by simp; omega) (.string lo)) (by simp; omega) (.string hi)) (by simp; omega) (.int .i64 mo)) (by simp; omega) (.bool bk)) (by simp) (.int .i64 k)) (by simp) (.string ky)) (by simp) (.string vl)) (by simp) (.string lo)) (by simp) (.string hi)) (by simp) (.int .i64 mo)) (by simp) (.bool bk))
  have d1 : ¬ w.heap.size + 1 = w.heap.size + 1 + 1 := by omega
  have d2 : ¬ w.heap.size + 1 + 1 = w.heap.size + 1 := by omega
  have d3 : ¬ w.heap.size = w.heap.size + 1 + 1 := by omega
  have d4 : ¬ w.heap.size = w.heap.size + 1 := by omega
  clear J1 I1 B1 J2 K1
  go_wp2
  try simp only [Exit.inBlock, Exit.then]
  refine bodyPost_ret (v := .agg #[.int .i64 k, .string ky, .string vl, .string lo, .string hi, .int .i64 mo, .bool bk]) ?_ rfl ?_
  · exact results_ask rfl _ _ _ rfl (J3.out.cell (j := 0) rfl) (J3.out.cell (j := 1) rfl) (J3.out.cell (j := 2) rfl) (J3.out.cell (j := 3) rfl) (J3.out.cell (j := 4) rfl) (J3.out.cell (j := 5) rfl) (J3.out.cell (j := 6) rfl)
  · exact ⟨rfl, B3.out⟩
set_option maxHeartbeats 1600000 in
theorem szAsk_any (k : Int) (ky vl lo hi : ByteArray) (mo : Int) (bk : Bool) (left : Int) (w : World) (h0 : 0 ≤ left) (h1 : left ≤ 1048576) (hs : ky.size ≤ 9223372036854775807 ∧ vl.size ≤ 9223372036854775807 ∧ lo.size ≤ 9223372036854775807 ∧ hi.size ≤ 9223372036854775807) :
    Calls Try.prog 17 #[.agg #[.int .i64 k, .string ky, .string vl, .string lo, .string hi, .int .i64 mo, .bool bk], .int .i64 left] w fun e w' => (∃ x : Int, e = .returned (.int .i64 x) ∧ x ≤ left ∧ -1 ≤ x) ∧ Below w.heap.size w w' := by
  obtain ⟨s1, s2, s3, s4⟩ := hs
  have B0 := hid (below_new (o := .cells #[.int .i64 k, .string ky, .string vl, .string lo, .string hi, .int .i64 mo, .bool bk] 43) (w := w) (Below.refl _ _))
  by_cases q1 : left - ky.size < 0
  · go_enter Try.func17, Try.ntmps17
    go_wp2
    go_ret
    exact ⟨⟨-1, rfl, by omega, by omega⟩, B0.out⟩
  · by_cases q2 : left - ky.size - vl.size < 0
    · go_enter Try.func17, Try.ntmps17
      go_wp2
      go_ret
      exact ⟨⟨-1, rfl, by omega, by omega⟩, B0.out⟩
    · have C1 : Hid (∀ w, Calls Try.prog 53 #[.agg #[.string lo, .string hi], .int .i64 (left - ky.size - vl.size)] w fun e w' => (∃ x : Int, e = .returned (.int .i64 x) ∧ x ≤ left - ky.size - vl.size ∧ -1 ≤ x) ∧ Below w.heap.size w w') := fun w => szRange_any lo hi _ w (by omega) (by omega) s3 s4
      go_enter Try.func17, Try.ntmps17
      go_wp2_with fail
      refine (C1.out _).mono ?_
      rintro e w1 ⟨⟨x, rfl, hx1, hx2⟩, hb⟩
      have B1 := hid (btR B0.out hb)
      clear hb B0
      by_cases hx : x < 0
      · go_wp2
        go_ret
        exact ⟨⟨-1, rfl, by omega, by omega⟩, B1.out⟩
      · go_wp2
        go_ret
        exact ⟨⟨x, rfl, by omega, by omega⟩, B1.out⟩
set_option maxHeartbeats 3200000 in
theorem eqAsk_same (k : Int) (ky vl lo hi : ByteArray) (mo : Int) (bk : Bool) (w : World) : Calls Try.prog 81 #[.agg #[.int .i64 k, .string ky, .string vl, .string lo, .string hi, .int .i64 mo, .bool bk], .agg #[.int .i64 k, .string ky, .string vl, .string lo, .string hi, .int .i64 mo, .bool bk]] w fun e w' => e = .returned (.bool true) ∧ Below w.heap.size w w' := by
  have hz0 : (k != k) = false := by simp
  have hz1 : (mo != mo) = false := by simp
  have hz2 : (bk != bk) = false := by simp
  have C1 : Hid (∀ w, Calls Try.prog 93 #[.agg #[.string lo, .string hi], .agg #[.string lo, .string hi]] w fun r w' => r = .returned (.bool true) ∧ Below w.heap.size w w') := fun w => eqRange_same lo hi w
  have B0 : Hid (Below w.heap.size w ((w.alloc (.cells #[.int .i64 k, .string ky, .string vl, .string lo, .string hi, .int .i64 mo, .bool bk] 27)).alloc (.cells #[.int .i64 k, .string ky, .string vl, .string lo, .string hi, .int .i64 mo, .bool bk] 27))) := below_new (below_new (Below.refl _ _))
  have K0 := hid ((Bk.new w 27 [.int .i64 k, .string ky, .string vl, .string lo, .string hi, .int .i64 mo, .bool bk]).alloc (.cells #[.int .i64 k, .string ky, .string vl, .string lo, .string hi, .int .i64 mo, .bool bk] 27))
  have J0 := hid (Bk.new (w.alloc (.cells #[.int .i64 k, .string ky, .string vl, .string lo, .string hi, .int .i64 mo, .bool bk] 27)) 27 [.int .i64 k, .string ky, .string vl, .string lo, .string hi, .int .i64 mo, .bool bk])
  rw [show (w.alloc (.cells #[.int .i64 k, .string ky, .string vl, .string lo, .string hi, .int .i64 mo, .bool bk] 27)).heap.size = w.heap.size + 1 by simp] at J0
  go_enter Try.func81, Try.ntmps81
  go_wp2_with fail
  refine (C1.out _).mono ?_
  generalize (w.alloc (.cells #[.int .i64 k, .string ky, .string vl, .string lo, .string hi, .int .i64 mo, .bool bk] 27)).alloc (.cells #[.int .i64 k, .string ky, .string vl, .string lo, .string hi, .int .i64 mo, .bool bk] 27) = U at *
  rintro r w1 ⟨rfl, hb⟩
  have B1 := hid (btR B0.out hb)
  have K1 := hid (K0.out.below hb)
  have J1 := hid (J0.out.below hb)
  clear hb B0 K0 J0
  have x5 := K1.out.cell (j := 5) rfl
  have x6 := K1.out.cell (j := 6) rfl
  have y5 := J1.out.cell (j := 5) rfl
  have y6 := J1.out.cell (j := 6) rfl
  go_wp2
  go_ret
  exact ⟨rfl, B1.out⟩
def alLo (k : Int) (ky vl lo hi : ByteArray) (mo : Int) (bk : Bool) : ByteArray := if akOk k ky vl lo hi mo bk then (if k = 4 then lo else ptLo ky) else ⟨#[]⟩
def alHi (k : Int) (ky vl lo hi : ByteArray) (mo : Int) (bk : Bool) : ByteArray := if akOk k ky vl lo hi mo bk then (if k = 4 then hi else ptHi ky) else ⟨#[]⟩
def alEx (k : Int) (ky vl lo hi : ByteArray) (mo : Int) (bk : Bool) : Bool := akOk k ky vl lo hi mo bk && (decide (k ≠ 4) && decide (k ≠ 1))
end Go.Proofs.Ytnbafoennnhppaa
/-
  'string(b)' of a slice of bytes that is read.
-/
namespace Go.Proofs.Ytnbafoennnhppaa
open Go.RowKit

/-- The string of these bytes. -/
def strOf (zs : List Int) : ByteArray := ⟨(zs.map fun z => UInt8.ofNat z.toNat).toArray⟩
theorem foldl_push (zs : List Int) : ∀ s : ByteArray, zs.foldl (fun r n => r.push (UInt8.ofNat n.toNat)) s = ⟨(s.data.toList ++ zs.map fun z => UInt8.ofNat z.toNat).toArray⟩ := by
  induction zs with
  | nil => intro s; simp
  | cons z zs ih =>
    intro s
    rw [List.foldl_cons, ih]
    simp [ByteArray.push]
theorem strOf_foldl (zs : List Int) : zs.foldl (fun r n => r.push (UInt8.ofNat n.toNat)) ByteArray.empty = strOf zs := by
  rw [foldl_push]
  simp only [strOf]
  rfl

/-- 'string(b)'. -/
theorem run_str {w : World} {a : Option Addr} {n c : Nat} {zs : List Int} (h : Rd w a n c zs) : (convert 22 9 (.slice a n c)).run Try.prog w = .ok (.string (strOf zs)) w := by
  rw [run_convert_bytes_string w _ _ _ a n c Try.underlying22 Try.underlying5 Try.underlying9]
  obtain ⟨h1, h2, h3, h30, h4, h5⟩ := h
  cases a with
  | none =>
    have hm : n = 0 := by
      rcases Nat.eq_zero_or_pos n with h | h
      · exact h
      · obtain ⟨b, off, e, _⟩ := h5 h
        cases e
    have hz : zs = [] := List.eq_nil_of_length_eq_zero (by omega)
    subst hz
    rfl
  | some x =>
    rw [run_bytesToString w x n c zs, strOf_foldl]
    have hl := run_firstCells_some (P := Try.prog) w 1 n x n c (zs.map (Value.int .u8)) (by simp [h1]) (by
        intro j u hu
        have hj : j < zs.length := by
          have := (List.getElem?_eq_some_iff.1 hu).1
          simpa using this
        obtain ⟨b, off, e, _, hc⟩ := h5 (by omega)
        cases e
        have := hc j (by omega)
        rw [Addr.add_lit, this]
        simp [hj] at hu
        simp [hj, hu])
    simpa [Builtin.firstCells] using hl
end Go.Proofs.Ytnbafoennnhppaa
/-
  What the law's helper markText does: it answers with one text for each number (for trees: greater numbers).
-/
namespace Go.Proofs.Ytnbafoennnhppaa
open Go.RowKit
theorem strOf_size (o : List Int) : (strOf o).size = o.length := by
  show (strOf o).data.size = o.length
  simp [strOf]
theorem rd_lit (w : World) (z : Int) (h0 : 0 ≤ z) (h1 : z ≤ 255) : Rd (w.alloc (.cells #[.int .u8 z] 5)) (some ⟨w.heap.size, 0, none⟩) 1 1 [z] := by
  have := rd_new w [z] (by simp) (fun i => by cases i <;> simp <;> omega)
  simpa [byteVals] using this
/-- The decimal digits of k ahead of acc. -/
def mtG : Nat → Nat → ByteArray → ByteArray
  | 0, _, acc => acc
  | f + 1, k, acc => if k = 0 then acc else mtG f (k / 10) (strOf [48 + ((k % 10 : Nat) : Int)] ++ acc)
theorem mtG_end (f : Nat) (acc : ByteArray) : mtG f 0 acc = acc := by cases f <;> simp [mtG]
theorem mtG_step (f k : Nat) (acc : ByteArray) (h : 0 < k) : mtG (f + 1) k acc = mtG f (k / 10) (strOf [48 + ((k % 10 : Nat) : Int)] ++ acc) := by
  simp [mtG]; omega
/-- The text for k. -/
def mt (k : Nat) : ByteArray := ⟨#[109]⟩ ++ mtG k k ⟨#[]⟩
set_option maxHeartbeats 4000000 in
theorem markText_any (k : Nat) (w : World) (h0 : 0 < k) (h1 : k ≤ 1152921504606846976) : Calls Try.prog 55 #[.int .i64 k] w fun e w' => e = .returned (.string (mt k)) ∧ Below w.heap.size w w' := by
  have h0' : ¬ (k : Int) ≤ 0 := by omega
  go_enter Try.func55, Try.ntmps55
  go_wp2_with fail
  go_loopw [0, 3] (fun x s wr => ∃ (j f : Nat) (acc : ByteArray), x = .int .i64 j ∧ s = .string acc ∧ j ≤ f ∧ Hid (mtG f j acc = mtG k k ⟨#[]⟩) ∧ j + acc.size ≤ k ∧ Hid (Below w.heap.size w wr)) (fun x _ _ => (intOf x).toNat)
  case atStart => exact ⟨k, k, ⟨#[]⟩, rfl, rfl, Nat.le_refl _, rfl, Nat.le_refl _, Below.refl _ _⟩
  case round =>
    obtain ⟨j, f, acc, rfl, rfl, hjf, HM, hsz, HB⟩ := hrel
    rcases Nat.eq_zero_or_pos j with rfl | hj
    · rw [mtG_end] at HM
      have hcat : (⟨#[109]⟩ : ByteArray).size = 1 := rfl
      have HE : Hid (⟨#[109]⟩ ++ acc = mt k) := by show ⟨#[109]⟩ ++ acc = mt k; rw [HM.out]; rfl
      go_wp2
      go_ret
      exact ⟨by rw [HE.out]; rfl, HB.out⟩
    · obtain ⟨f, rfl⟩ : ∃ g, f = g + 1 := ⟨f - 1, by omega⟩
      rw [mtG_step f j acc hj] at HM
      have hj' : (0 : Int) < (j : Int) := by omega
      obtain ⟨z, hz⟩ : ∃ z : Nat, z = j % 10 := ⟨_, rfl⟩
      obtain ⟨q, hq⟩ : ∃ q : Nat, q = j / 10 := ⟨_, rfl⟩
      rw [← hz, ← hq] at HM
      have hz1 : z < 10 := by omega
      have hmod : (j : Int).tmod 10 = (z : Int) := by rw [Int.tmod_eq_emod_of_nonneg (by omega)]; omega
      have hdiv : (j : Int).tdiv 10 = (q : Int) := by rw [Int.tdiv_eq_ediv_of_nonneg (by omega)]; omega
      have hqj : q < j := by omega
      have hq2 : q + 1 ≤ j := by omega
      clear hz hq
      have hst := run_str (rd_lit wr (48 + (z : Int)) (by omega) (by omega))
      have hts := strOf_size [48 + (z : Int)]
      simp only [List.length_cons, List.length_nil] at hts
      generalize strOf [48 + (z : Int)] = t at *
      go_wp2
      go_roundw
      case rel => exact ⟨q, f, t ++ acc, by go_num, rfl, by omega, HM, by rw [ByteArray.size_append]; omega, HB.out.alloc HB.out.size _⟩
      case measure => simp [intOf]; omega
theorem markText_at (k : Nat) (z : Int) (hz : z = k) (w : World) (h0 : 0 < k) (h1 : k ≤ 1152921504606846976) : Calls Try.prog 55 #[.int .i64 z] w fun e w' => e = .returned (.string (mt k)) ∧ Below w.heap.size w w' := by
  subst hz
  exact markText_any k w h0 h1
end Go.Proofs.Ytnbafoennnhppaa
/-
  Writing marks into slices: texts into cells of texts, numbers into cells of numbers; nothing else turns.
-/
namespace Go.Proofs.Ytnbafoennnhppaa
open Go.RowKit
set_option linter.unusedVariables false
def isStr (u : Value) : Prop := ∃ s, u = .string s
def isInt (u : Value) : Prop := ∃ i, u = .int .i64 i
/-- The cell is the same, or both are texts, or both are numbers. -/
def simV (x y : Value) : Prop := x = y ∨ (isStr x ∧ isStr y) ∨ (isInt x ∧ isInt y)
theorem simV.trans {x y z : Value} (h : simV x y) (k : simV y z) : simV x z := by
  rcases h with rfl | ⟨h1, h2⟩ | ⟨h1, h2⟩
  · exact k
  · rcases k with rfl | ⟨k1, k2⟩ | ⟨k1, k2⟩
    · exact .inr (.inl ⟨h1, h2⟩)
    · exact .inr (.inl ⟨h1, k2⟩)
    · obtain ⟨s, rfl⟩ := h2; obtain ⟨i, hi⟩ := k1; cases hi
  · rcases k with rfl | ⟨k1, k2⟩ | ⟨k1, k2⟩
    · exact .inr (.inr ⟨h1, h2⟩)
    · obtain ⟨s, rfl⟩ := h2; obtain ⟨i, hi⟩ := k1; cases hi
    · exact .inr (.inr ⟨h1, k2⟩)
def Kind (K : Value → Prop) : Prop := ∀ x y, K x → simV x y → K y
theorem kind_str : Kind isStr := by
  rintro x y hx (rfl | ⟨_, h⟩ | ⟨h, _⟩)
  · exact hx
  · exact h
  · obtain ⟨s, rfl⟩ := hx; obtain ⟨i, hi⟩ := h; cases hi
theorem kind_int : Kind isInt := by
  rintro x y hx (rfl | ⟨h, _⟩ | ⟨_, h⟩)
  · exact hx
  · obtain ⟨s, rfl⟩ := hx; obtain ⟨i, hi⟩ := h; cases hi
  · exact h
theorem kind_slice (v : Value) (hv : ∃ a n c, v = .slice a n c) : Kind (fun u => u = v) := by
  obtain ⟨a, n, c, rfl⟩ := hv
  rintro x y rfl (rfl | ⟨h, _⟩ | ⟨h, _⟩)
  · rfl
  · obtain ⟨s, hs⟩ := h; cases hs
  · obtain ⟨s, hs⟩ := h; cases hs
/-- From w to w' only rows of S have turned, and of these each cell keeps its kind. -/
structure Mk (S : Nat → Prop) (w w' : World) : Prop where
  only : Only S w w'
  sim : ∀ b T xs, Bk w b T xs → S b → ∃ ys, Bk w' b T ys ∧ ∀ (j : Nat) u, xs[j]? = some u → ∃ u', ys[j]? = some u' ∧ simV u u'
theorem Mk.refl (S : Nat → Prop) (w : World) : Mk S w w := ⟨Only.refl _ _, fun b T xs h _ => ⟨xs, h, fun j u hu => ⟨u, hu, .inl rfl⟩⟩⟩
theorem Mk.trans {S : Nat → Prop} {a b c : World} (h : Mk S a b) (k : Mk S b c) : Mk S a c := by
  refine ⟨h.only.trans k.only, fun g T xs hb hS => ?_⟩
  obtain ⟨ys, h1, h2⟩ := h.sim g T xs hb hS
  obtain ⟨zs, h3, h4⟩ := k.sim g T ys h1 hS
  refine ⟨zs, h3, fun j u hu => ?_⟩
  obtain ⟨u', h5, h6⟩ := h2 j u hu
  obtain ⟨u'', h7, h8⟩ := h4 j u' h5
  exact ⟨u'', h7, h6.trans h8⟩
theorem mk_below {S : Nat → Prop} {w w' : World} (h : Below w.heap.size w w') : Mk S w w' := ⟨only_of_below h S, fun b T xs hb _ => ⟨xs, hb.below h, fun j u hu => ⟨u, hu, .inl rfl⟩⟩⟩
theorem mk_set {S : Nat → Prop} {w : World} {b o : Nat} {T : TypeId} {xs : List Value} {x y : Value} (hb : Bk w b T xs) (hS : S b) (hx : xs[o]? = some x) (hs : simV x y) : Mk S w (w.setCell ⟨b, o, none⟩ y) := by
  refine ⟨only_set hS y, fun g T' zs hg _ => ?_⟩
  by_cases e : g = b
  · subst e
    refine ⟨_, hg.set o y, fun j u hu => ?_⟩
    have hz : some (Obj.cells xs.toArray T (0, 0)) = some (Obj.cells zs.toArray T' (0, 0)) := hb.symm.trans hg
    simp at hz
    obtain ⟨rfl, rfl⟩ := hz
    by_cases ej : j = o
    · subst ej
      rw [hx] at hu
      cases hu
      exact ⟨y, by simp [(List.getElem?_eq_some_iff.1 hx).1], hs⟩
    · exact ⟨u, by rw [List.getElem?_set_ne (Ne.symm ej)]; exact hu, .inl rfl⟩
  · exact ⟨zs, hg.setOther e _ _, fun j u hu => ⟨u, hu, .inl rfl⟩⟩
theorem Uf.bk {w : World} {b : Nat} (h : Uf w b) : ∃ T xs, Bk w b T xs := by
  obtain ⟨xs, T, h⟩ := h
  exact ⟨T, xs.toList, by show _ = _; simpa using h⟩
theorem Mk.uf {S : Nat → Prop} {w w' : World} (m : Mk S w w') {b : Nat} (h : Uf w b) : Uf w' b := by
  obtain ⟨T, xs, hb⟩ := h.bk
  by_cases hS : S b
  · obtain ⟨ys, h1, _⟩ := m.sim b T xs hb hS
    exact h1.uf
  · exact (hb.to m.only hS).uf
theorem bk_cell {w : World} {b o : Nat} {T : TypeId} {xs : List Value} {u : Value} (h : Bk w b T xs) (hc : w.cell? ⟨b, o, none⟩ = some u) : xs[o]? = some u := by
  have h' : w.heap[b]? = some (.cells xs.toArray T (0, 0)) := h
  simpa [World.cell?, h'] using hc
theorem Mk.cell {S : Nat → Prop} {w w' : World} (m : Mk S w w') {b o : Nat} {u : Value} (hu : Uf w b) (hc : w.cell? ⟨b, o, none⟩ = some u) : ∃ u', w'.cell? ⟨b, o, none⟩ = some u' ∧ simV u u' := by
  obtain ⟨T, xs, hb⟩ := hu.bk
  have hx := bk_cell hb hc
  by_cases hS : S b
  · obtain ⟨ys, h1, h2⟩ := m.sim b T xs hb hS
    obtain ⟨u', h3, h4⟩ := h2 o u hx
    exact ⟨u', h1.cell h3, h4⟩
  · exact ⟨u, (hb.to m.only hS).cell hx, .inl rfl⟩
/-- The slice value v leads to n elements of m cells of the kind K, in a row of S that may be written. -/
def Kw (w : World) (S : Nat → Prop) (v : Value) (n m : Nat) (K : Value → Prop) : Prop :=
  ∃ a c, v = .slice a n c ∧ n ≤ c ∧ c ≤ 9223372036854775807 ∧ (0 < n → ∃ b off, a = some ⟨b, off, none⟩ ∧ S b ∧ Uf w b ∧ ∀ j, j < m → ∃ u, w.cell? ⟨b, off + j, none⟩ = some u ∧ K u)
theorem Kw.mk {S S' : Nat → Prop} {w w' : World} {v : Value} {n m : Nat} {K : Value → Prop} (h : Kw w S v n m K) (hm : Mk S' w w') (hK : Kind K) : Kw w' S v n m K := by
  obtain ⟨a, c, h1, h2, h3, h4⟩ := h
  refine ⟨a, c, h1, h2, h3, fun hn => ?_⟩
  obtain ⟨b, off, h5, h6, h7, h8⟩ := h4 hn
  refine ⟨b, off, h5, h6, hm.uf h7, fun j hj => ?_⟩
  obtain ⟨u, h9, h10⟩ := h8 j hj
  obtain ⟨u', h11, h12⟩ := hm.cell h7 h9
  exact ⟨u', h11, hK _ _ h10 h12⟩
theorem kw_of {w : World} {S S' : Nat → Prop} {v : Value} {n : Nat} {xs : List Value} {K : Value → Prop} (h : Rw w S v n xs) (hx : ∀ u ∈ xs, K u) (hS : ∀ b, S b → b < w.heap.size → S' b ∧ Uf w b) : Kw w S' v n xs.length K := by
  obtain ⟨a, c, h1, h2, h3, h4, hn, h5⟩ := h
  refine ⟨a, c, h1, h2, h3, fun hp => ?_⟩
  obtain ⟨b, off, h6, h7, h8, h9⟩ := h5 hp
  refine ⟨b, off, h6, (hS b h8 h7).1, (hS b h8 h7).2, fun j hj => ?_⟩
  exact ⟨xs[j], h9 j _ (by simp [hj]), hx _ (by simp)⟩
/-- Of the m cells from off on the first i are V's. -/
def Mi (w : World) (b off m i : Nat) (V : Nat → Value) (K : Value → Prop) : Prop := ∃ T xs, Bk w b T xs ∧ (∀ j, j < m → ∃ u, xs[off + j]? = some u ∧ K u) ∧ ∀ j, j < i → xs[off + j]? = some (V j)
theorem Mi.start {w : World} {b off m : Nat} {V : Nat → Value} {K : Value → Prop} (hu : Uf w b) (h : ∀ j, j < m → ∃ u, w.cell? ⟨b, off + j, none⟩ = some u ∧ K u) : Mi w b off m 0 V K := by
  obtain ⟨T, xs, hb⟩ := hu.bk
  refine ⟨T, xs, hb, fun j hj => ?_, fun j hj => absurd hj (Nat.not_lt_zero _)⟩
  obtain ⟨u, h1, h2⟩ := h j hj
  exact ⟨u, bk_cell hb h1, h2⟩
theorem Mi.below {w w' : World} {b off m i : Nat} {V : Nat → Value} {K : Value → Prop} (h : Mi w b off m i V K) (hb : Below w.heap.size w w') : Mi w' b off m i V K := by
  obtain ⟨T, xs, h1, h2, h3⟩ := h
  exact ⟨T, xs, h1.below hb, h2, h3⟩
theorem Mi.cell {w : World} {b off m i : Nat} {V : Nat → Value} {K : Value → Prop} (h : Mi w b off m i V K) {j : Nat} (hj : j < m) : (∃ u, w.cell? ⟨b, off + j, none⟩ = some u ∧ K u) ∧ w.frozen? ⟨b, off + j, none⟩ = false := by
  obtain ⟨T, xs, h1, h2, h3⟩ := h
  obtain ⟨u, h4, h5⟩ := h2 j hj
  exact ⟨⟨u, h1.cell h4, h5⟩, h1.free _⟩
theorem Mi.set {w : World} {b off m i : Nat} {V : Nat → Value} {K : Value → Prop} (h : Mi w b off m i V K) {o : Nat} (ho : o = off + i) (hi : i < m) (hK : K (V i)) : Mi (w.setCell ⟨b, o, none⟩ (V i)) b off m (i + 1) V K := by
  subst ho
  obtain ⟨T, xs, h1, h2, h3⟩ := h
  refine ⟨T, _, h1.set _ _, fun j hj => ?_, fun j hj => ?_⟩
  · obtain ⟨u, h4, h5⟩ := h2 j hj
    by_cases e : j = i
    · subst e
      exact ⟨V j, by simp [(List.getElem?_eq_some_iff.1 h4).1], hK⟩
    · exact ⟨u, by rw [List.getElem?_set_ne (by omega)]; exact h4, h5⟩
  · by_cases e : j = i
    · subst e
      obtain ⟨u, h4, _⟩ := h2 j hi
      simp [(List.getElem?_eq_some_iff.1 h4).1]
    · rw [List.getElem?_set_ne (by omega)]
      exact h3 j (by omega)
end Go.Proofs.Ytnbafoennnhppaa
/-
  The law's helpers that write marks into slices: of pairs, of texts, of numbers.
-/
namespace Go.Proofs.Ytnbafoennnhppaa
open Go.RowKit
def mV (k : Nat) (j : Nat) : Value := .string (mt (k + j))
def mI (k : Nat) (j : Nat) : Value := .int .i64 ((k + j : Nat) : Int)
theorem mi_mk {S : Nat → Prop} {w : World} {b off m i : Nat} {V : Nat → Value} {K : Value → Prop} (h : Mi w b off m i V K) (hS : S b) {o : Nat} (ho : o = off + i) (hi : i < m) (hs : ∀ u, K u → simV u (V i)) : Mk S w (w.setCell ⟨b, o, none⟩ (V i)) := by
  subst ho
  obtain ⟨T, xs, h1, h2, h3⟩ := h
  obtain ⟨u, h4, h5⟩ := h2 i hi
  exact mk_set h1 hS h4 (hs u h5)
theorem sim_mV (k i : Nat) : ∀ u, isStr u → simV u (mV k i) := fun _ hu => .inr (.inl ⟨hu, _, rfl⟩)
theorem sim_mI (k i : Nat) : ∀ u, isInt u → simV u (mI k i) := fun _ hu => .inr (.inr ⟨hu, _, rfl⟩)
/-- What comes of writing marks into the m cells of a slice. -/
def Marked (S : Nat → Prop) (w : World) (a : Option Addr) (n m : Nat) (V : Nat → Value) (K : Value → Prop) (w' : World) : Prop := Mk S w w' ∧ (0 < n → ∃ b off, a = some ⟨b, off, none⟩ ∧ S b ∧ Mi w' b off m m V K)
set_option maxHeartbeats 4000000 in
theorem markPairS_any (S : Nat → Prop) (a : Option Addr) (n c k : Nat) (w : World) (h : Kw w S (.slice a n c) n (n * 2) isStr) (hn : n ≤ 1048576) (hk0 : 0 < k) (hk : k ≤ 576460752303423488) :
    Calls Try.prog 19 #[.slice a n c, .int .i64 k] w fun e w' => e = .returned (.int .i64 ((k + n * 2 : Nat) : Int)) ∧ Marked S w a n (n * 2) (mV k) isStr w' := by
  obtain ⟨a', c', h1, h2, h3, h4⟩ := h
  cases h1
  rcases Nat.eq_zero_or_pos n with hz | hp
  · clear h4
    subst hz
    go_enter Try.func19, Try.ntmps19
    go_wp2_with fail
    go_loop [1, 5] (fun x i => x = .int .i64 k ∧ i = .int .i64 (0 : Nat)) (fun _ _ => 0)
    case atStart => exact ⟨rfl, rfl⟩
    case round =>
      obtain ⟨rfl, rfl⟩ := hrel
      go_wp2
      go_ret
      exact ⟨rfl, Mk.refl _ _, fun h => absurd h (Nat.lt_irrefl _)⟩
  · obtain ⟨b, off, rfl, hS, hu, hc⟩ := h4 hp
    have HI : Hid (Mi w b off (n * 2) 0 (mV k) isStr) := Mi.start hu hc
    have HS := hid hS
    clear h4 hc hu hS
    go_enter Try.func19, Try.ntmps19
    go_wp2_with fail
    go_loopw [1, 5] (fun x i wr => ∃ j : Nat, x = .int .i64 ((k + j * 2 : Nat) : Int) ∧ i = .int .i64 j ∧ j ≤ n ∧ Hid (Mi wr b off (n * 2) (j * 2) (mV k) isStr) ∧ Hid (Mk S w wr)) (fun _ i _ => n - (intOf i).toNat)
    case atStart => exact ⟨0, rfl, rfl, Nat.zero_le _, HI.out, Mk.refl _ _⟩
    case round =>
      obtain ⟨j, rfl, rfl, hj, HX, HG⟩ := hrel
      by_cases hlt : j < n
      · have hlt' : (j : Int) < (n : Int) := by omega
        have hj0 : (0 : Int) ≤ (j : Int) := by omega
        generalize hkz : k + j * 2 = kz
        have hkz0 : 0 < kz := by omega
        have hkz1 : kz ≤ 576460754400575488 := by omega
        have HK := hid hkz
        clear hkz
        go_wp2_with fail
        refine (markText_at kz (kz : Int) rfl wr hkz0 (by omega)).mono ?_
        rintro e w1 ⟨rfl, hb1⟩
        have HX1 := hid (HX.out.below hb1)
        have HG1 := hid (HG.out.trans (mk_below hb1))
        clear hb1 HX HG
        obtain ⟨⟨u0, c0, s0⟩, f0⟩ := HX1.out.cell (j := j * 2) (by omega)
        obtain ⟨u0, rfl⟩ := s0
        have HX2 : Hid (Mi (w1.setCell ⟨b, off + j * 2, none⟩ (.string (mt kz))) b off (n * 2) (j * 2 + 1) (mV k) isStr) := by rw [← HK.out]; exact HX1.out.set rfl (by omega) ⟨_, rfl⟩
        have HG2 : Hid (Mk S w (w1.setCell ⟨b, off + j * 2, none⟩ (.string (mt kz)))) := by rw [← HK.out]; exact HG1.out.trans (mi_mk HX1.out HS.out rfl (by omega) (sim_mV k (j * 2)))
        clear HX1 HG1
        generalize mt kz = m0 at *
        go_wp2_with fail
        refine (markText_at (kz + 1) ((kz : Int) + 1) (by omega) _ (by omega) (by omega)).mono ?_
        generalize w1.setCell ⟨b, off + j * 2, none⟩ (.string m0) = w2 at *
        rintro e w3 ⟨rfl, hb1⟩
        have HX3 := hid (HX2.out.below hb1)
        have HG3 := hid (HG2.out.trans (mk_below hb1))
        clear hb1 HX2 HG2 c0 f0
        obtain ⟨⟨u1, c1, s1⟩, f1⟩ := HX3.out.cell (j := j * 2 + 1) (by omega)
        obtain ⟨u1, rfl⟩ := s1
        have HX4 : Hid (Mi (w3.setCell ⟨b, off + j * 2 + 1, none⟩ (.string (mt (kz + 1)))) b off (n * 2) (j * 2 + 2) (mV k) isStr) := by
          rw [← HK.out, show k + j * 2 + 1 = k + (j * 2 + 1) by omega]; exact HX3.out.set (by omega) (by omega) ⟨_, rfl⟩
        have HG4 : Hid (Mk S w (w3.setCell ⟨b, off + j * 2 + 1, none⟩ (.string (mt (kz + 1))))) := by
          rw [← HK.out, show k + j * 2 + 1 = k + (j * 2 + 1) by omega]; exact HG3.out.trans (mi_mk HX3.out HS.out (by omega) (by omega) (sim_mV k (j * 2 + 1)))
        clear HX3 HG3
        rw [← Nat.add_assoc] at c1 f1
        generalize mt (kz + 1) = m1 at *
        go_wp2
        go_roundw
        case rel => exact ⟨j + 1, by rw [show k + (j + 1) * 2 = kz + 2 by have := HK.out; omega]; go_num, by go_num, by omega, by rw [show (j + 1) * 2 = j * 2 + 2 by omega]; exact HX4.out, HG4.out⟩
        case measure => simp [intOf]; omega
      · have hlt' : ¬ (j : Int) < (n : Int) := by omega
        have hjn : j = n := by omega
        subst hjn
        generalize hkz : k + j * 2 = kz
        go_wp2
        go_ret
        exact ⟨rfl, HG.out, fun _ => ⟨b, off, rfl, HS.out, HX.out⟩⟩
end Go.Proofs.Ytnbafoennnhppaa
/-
  The law's helper that looks for marks in a slice of pairs: it finds them all.
-/
namespace Go.Proofs.Ytnbafoennnhppaa
open Go.RowKit
theorem kc1 {u v : World} {a0 : Addr} {x0 : Value} (h : KC u v [(a0, x0)]) : v.cell? a0 = some x0 ∧ KC u v [(a0, x0)] := ⟨h.at (by simp), h⟩
theorem kc0_1 {u : World} {a0 : Addr} {x0 : Value} (h0 : u.cell? a0 = some x0) : KC u u [(a0, x0)] := ⟨fun p hp => by simp at hp; rcases hp with rfl; assumption, Below.refl _ _⟩
theorem kc1c {u v v' : World} {a0 : Addr} {x0 : Value} (k : Below v.heap.size v v') (h : v.cell? a0 = some x0 ∧ KC u v [(a0, x0)]) : v'.cell? a0 = some x0 ∧ KC u v' [(a0, x0)] := kc1 (KC.call h.2 k)
/-- The marks lie there. -/
def Lies (w : World) (a : Option Addr) (n m : Nat) (V : Nat → Value) : Prop := 0 < n → ∃ b off, a = some ⟨b, off, none⟩ ∧ b < w.heap.size ∧ ∀ j, j < m → w.cell? ⟨b, off + j, none⟩ = some (V j)
theorem Lies.below {w w' : World} {a : Option Addr} {n m : Nat} {V : Nat → Value} (h : Lies w a n m V) (hb : Below w.heap.size w w') : Lies w' a n m V := by
  intro hn
  obtain ⟨b, off, h1, h2, h3⟩ := h hn
  exact ⟨b, off, h1, Nat.lt_of_lt_of_le h2 hb.size, fun j hj => by rw [hb.cell (p := ⟨b, off + j, none⟩) h2]; exact h3 j hj⟩
theorem Marked.lies {S : Nat → Prop} {w w' : World} {a : Option Addr} {n m : Nat} {V : Nat → Value} {K : Value → Prop} (h : Marked S w a n m V K w') : Lies w' a n m V := by
  intro hn
  obtain ⟨b, off, h1, _, T, xs, h2, _, h3⟩ := h.2 hn
  exact ⟨b, off, h1, h2.lt, fun j hj => h2.cell (h3 j hj)⟩
set_option maxHeartbeats 4000000 in
theorem heldPairS_any (a : Option Addr) (n c k : Nat) (w : World) (h : Lies w a n (n * 2) (mV k)) (hc : n ≤ c) (hn : n ≤ 1048576) (hk0 : 0 < k) (hk : k ≤ 576460752303423488) :
    Calls Try.prog 20 #[.slice a n c, .int .i64 k] w fun e w' => e = .returned (.int .i64 ((k + n * 2 : Nat) : Int)) ∧ Below w.heap.size w w' := by
  have H0 := hid h
  clear h
  go_enter Try.func20, Try.ntmps20
  go_wp2_with fail
  go_loopw [1, 5] (fun x i wr => ∃ j : Nat, x = .int .i64 ((k + j * 2 : Nat) : Int) ∧ i = .int .i64 j ∧ j ≤ n ∧ Hid (Below w.heap.size w wr)) (fun _ i _ => n - (intOf i).toNat)
  case atStart => exact ⟨0, rfl, rfl, Nat.zero_le _, Below.refl _ _⟩
  case round =>
    obtain ⟨j, rfl, rfl, hj, HB⟩ := hrel
    by_cases hlt : j < n
    · have hlt' : (j : Int) < (n : Int) := by omega
      have hj0 : (0 : Int) ≤ (j : Int) := by omega
      obtain ⟨b, off, ha, hbl, hcell⟩ := (H0.out.below HB.out) (by omega)
      subst ha
      have c0 := hcell (j * 2) (by omega)
      have c1 := hcell (j * 2 + 1) (by omega)
      simp only [mV] at c0 c1
      rw [← Nat.add_assoc] at c1
      rw [← Nat.add_assoc] at c1
      have HT1 := hid (fun w => markText_at (k + j * 2) ((k + j * 2 : Nat) : Int) rfl w (by omega) (by omega))
      have HT2 := hid (fun w => markText_at (k + j * 2 + 1) (((k + j * 2 : Nat) : Int) + 1) (by omega) w (by omega) (by omega))
      clear hcell
      generalize mt (k + j * 2) = m1 at *
      generalize mt (k + j * 2 + 1) = m2 at *
      generalize hkz : k + j * 2 = kz at *
      have hkz1 : kz ≤ 576460754400575488 := by omega
      have HK := hid hkz
      have T1 := hid (kc0_1 c0)
      have C1' := hid c1
      clear hkz c1
      go_wp2_with fail
      go_region_held3 (fun v => v.cell? ⟨b, off + j * 2, none⟩ = some (.string m1) ∧ KC wr v [(⟨b, off + j * 2, none⟩, .string m1)])
        (first | assumption | exact kc1 (T1.out.call (below_drew _)) | exact kc1c hbC (by assumption))
        (first | (go_at_call 55; refine (HT1.out _).mono ?_; rintro e w1 ⟨rfl, hbC⟩))
      rename_i hS
      have B1 := hid hS.2.bel
      have d2 : w1.cell? ⟨b, off + j * 2 + 1, none⟩ = some (.string m2) := by rw [B1.out.cell (p := ⟨b, off + j * 2 + 1, none⟩) hbl]; exact C1'.out
      have T2 := hid (kc0_1 d2)
      clear hS c0 T1 HT1 hbC
      go_wp2_with fail
      go_region_held3 (fun v => v.cell? ⟨b, off + j * 2 + 1, none⟩ = some (.string m2) ∧ KC w1 v [(⟨b, off + j * 2 + 1, none⟩, .string m2)])
        (first | assumption | exact kc1 (T2.out.call (below_drew _)) | exact kc1c hbC (by assumption))
        (first | (go_at_call 55; refine (HT2.out _).mono ?_; rintro e w2 ⟨rfl, hbC⟩))
      rename_i hS
      have B2 := hid (Below.then' (Below.then' HB.out B1.out (Nat.le_refl _)) hS.2.bel (Nat.le_refl _))
      clear hS T2 HT2 d2
      go_wp2
      go_roundw
      case rel => exact ⟨j + 1, by rw [show k + (j + 1) * 2 = kz + 2 by have := HK.out; omega]; go_num, by go_num, by omega, B2.out⟩
      case measure => simp [intOf]; omega
    · have hlt' : ¬ (j : Int) < (n : Int) := by omega
      have hjn : j = n := by omega
      subst hjn
      have HK : Hid ((k : Int) + (j : Int) * 2 = ((k + j * 2 : Nat) : Int)) := by show _ = _; omega
      generalize k + j * 2 = kz at *
      go_wp2
      go_ret
      exact ⟨by rw [HK.out]; rfl, HB.out⟩
end Go.Proofs.Ytnbafoennnhppaa
/-
  Marks in great rows of pairs; owned rows as the marks see them.
-/
namespace Go.Proofs.Ytnbafoennnhppaa
open Go.RowKit
set_option maxHeartbeats 4000000 in
theorem markPairS_big (S : Nat → Prop) (a : Option Addr) (n c k : Nat) (w : World) (h : Kw w S (.slice a n c) n (n * 2) isStr) (hn : n ≤ 2097152) (hk0 : 0 < k) (hk : k ≤ 576460752303423488) :
    Calls Try.prog 19 #[.slice a n c, .int .i64 k] w fun e w' => e = .returned (.int .i64 ((k + n * 2 : Nat) : Int)) ∧ Marked S w a n (n * 2) (mV k) isStr w' := by
  obtain ⟨a', c', h1, h2, h3, h4⟩ := h
  cases h1
  rcases Nat.eq_zero_or_pos n with hz | hp
  · clear h4
    subst hz
    go_enter Try.func19, Try.ntmps19
    go_wp2_with fail
    go_loop [1, 5] (fun x i => x = .int .i64 k ∧ i = .int .i64 (0 : Nat)) (fun _ _ => 0)
    case atStart => exact ⟨rfl, rfl⟩
    case round =>
      obtain ⟨rfl, rfl⟩ := hrel
      go_wp2
      go_ret
      exact ⟨rfl, Mk.refl _ _, fun h => absurd h (Nat.lt_irrefl _)⟩
  · obtain ⟨b, off, rfl, hS, hu, hc⟩ := h4 hp
    have HI : Hid (Mi w b off (n * 2) 0 (mV k) isStr) := Mi.start hu hc
    have HS := hid hS
    clear h4 hc hu hS
    go_enter Try.func19, Try.ntmps19
    go_wp2_with fail
    go_loopw [1, 5] (fun x i wr => ∃ j : Nat, x = .int .i64 ((k + j * 2 : Nat) : Int) ∧ i = .int .i64 j ∧ j ≤ n ∧ Hid (Mi wr b off (n * 2) (j * 2) (mV k) isStr) ∧ Hid (Mk S w wr)) (fun _ i _ => n - (intOf i).toNat)
    case atStart => exact ⟨0, rfl, rfl, Nat.zero_le _, HI.out, Mk.refl _ _⟩
    case round =>
      obtain ⟨j, rfl, rfl, hj, HX, HG⟩ := hrel
      by_cases hlt : j < n
      · have hlt' : (j : Int) < (n : Int) := by omega
        have hj0 : (0 : Int) ≤ (j : Int) := by omega
        generalize hkz : k + j * 2 = kz
        have hkz0 : 0 < kz := by omega
        have hkz1 : kz ≤ 576460754400575488 := by omega
        have HK := hid hkz
        clear hkz
        go_wp2_with fail
        refine (markText_at kz (kz : Int) rfl wr hkz0 (by omega)).mono ?_
        rintro e w1 ⟨rfl, hb1⟩
        have HX1 := hid (HX.out.below hb1)
        have HG1 := hid (HG.out.trans (mk_below hb1))
        clear hb1 HX HG
        obtain ⟨⟨u0, c0, s0⟩, f0⟩ := HX1.out.cell (j := j * 2) (by omega)
        obtain ⟨u0, rfl⟩ := s0
        have HX2 : Hid (Mi (w1.setCell ⟨b, off + j * 2, none⟩ (.string (mt kz))) b off (n * 2) (j * 2 + 1) (mV k) isStr) := by rw [← HK.out]; exact HX1.out.set rfl (by omega) ⟨_, rfl⟩
        have HG2 : Hid (Mk S w (w1.setCell ⟨b, off + j * 2, none⟩ (.string (mt kz)))) := by rw [← HK.out]; exact HG1.out.trans (mi_mk HX1.out HS.out rfl (by omega) (sim_mV k (j * 2)))
        clear HX1 HG1
        generalize mt kz = m0 at *
        go_wp2_with fail
        refine (markText_at (kz + 1) ((kz : Int) + 1) (by omega) _ (by omega) (by omega)).mono ?_
        generalize w1.setCell ⟨b, off + j * 2, none⟩ (.string m0) = w2 at *
        rintro e w3 ⟨rfl, hb1⟩
        have HX3 := hid (HX2.out.below hb1)
        have HG3 := hid (HG2.out.trans (mk_below hb1))
        clear hb1 HX2 HG2 c0 f0
        obtain ⟨⟨u1, c1, s1⟩, f1⟩ := HX3.out.cell (j := j * 2 + 1) (by omega)
        obtain ⟨u1, rfl⟩ := s1
        have HX4 : Hid (Mi (w3.setCell ⟨b, off + j * 2 + 1, none⟩ (.string (mt (kz + 1)))) b off (n * 2) (j * 2 + 2) (mV k) isStr) := by
          rw [← HK.out, show k + j * 2 + 1 = k + (j * 2 + 1) by omega]; exact HX3.out.set (by omega) (by omega) ⟨_, rfl⟩
        have HG4 : Hid (Mk S w (w3.setCell ⟨b, off + j * 2 + 1, none⟩ (.string (mt (kz + 1))))) := by
          rw [← HK.out, show k + j * 2 + 1 = k + (j * 2 + 1) by omega]; exact HG3.out.trans (mi_mk HX3.out HS.out (by omega) (by omega) (sim_mV k (j * 2 + 1)))
        clear HX3 HG3
        rw [← Nat.add_assoc] at c1 f1
        generalize mt (kz + 1) = m1 at *
        go_wp2
        go_roundw
        case rel => exact ⟨j + 1, by rw [show k + (j + 1) * 2 = kz + 2 by have := HK.out; omega]; go_num, by go_num, by omega, by rw [show (j + 1) * 2 = j * 2 + 2 by omega]; exact HX4.out, HG4.out⟩
        case measure => simp [intOf]; omega
      · have hlt' : ¬ (j : Int) < (n : Int) := by omega
        have hjn : j = n := by omega
        subst hjn
        generalize hkz : k + j * 2 = kz
        go_wp2
        go_ret
        exact ⟨rfl, HG.out, fun _ => ⟨b, off, rfl, HS.out, HX.out⟩⟩
set_option maxHeartbeats 4000000 in
theorem heldPairS_big (a : Option Addr) (n c k : Nat) (w : World) (h : Lies w a n (n * 2) (mV k)) (hc : n ≤ c) (hn : n ≤ 2097152) (hk0 : 0 < k) (hk : k ≤ 576460752303423488) :
    Calls Try.prog 20 #[.slice a n c, .int .i64 k] w fun e w' => e = .returned (.int .i64 ((k + n * 2 : Nat) : Int)) ∧ Below w.heap.size w w' := by
  have H0 := hid h
  clear h
  go_enter Try.func20, Try.ntmps20
  go_wp2_with fail
  go_loopw [1, 5] (fun x i wr => ∃ j : Nat, x = .int .i64 ((k + j * 2 : Nat) : Int) ∧ i = .int .i64 j ∧ j ≤ n ∧ Hid (Below w.heap.size w wr)) (fun _ i _ => n - (intOf i).toNat)
  case atStart => exact ⟨0, rfl, rfl, Nat.zero_le _, Below.refl _ _⟩
  case round =>
    obtain ⟨j, rfl, rfl, hj, HB⟩ := hrel
    by_cases hlt : j < n
    · have hlt' : (j : Int) < (n : Int) := by omega
      have hj0 : (0 : Int) ≤ (j : Int) := by omega
      obtain ⟨b, off, ha, hbl, hcell⟩ := (H0.out.below HB.out) (by omega)
      subst ha
      have c0 := hcell (j * 2) (by omega)
      have c1 := hcell (j * 2 + 1) (by omega)
      simp only [mV] at c0 c1
      rw [← Nat.add_assoc] at c1
      rw [← Nat.add_assoc] at c1
      have HT1 := hid (fun w => markText_at (k + j * 2) ((k + j * 2 : Nat) : Int) rfl w (by omega) (by omega))
      have HT2 := hid (fun w => markText_at (k + j * 2 + 1) (((k + j * 2 : Nat) : Int) + 1) (by omega) w (by omega) (by omega))
      clear hcell
      generalize mt (k + j * 2) = m1 at *
      generalize mt (k + j * 2 + 1) = m2 at *
      generalize hkz : k + j * 2 = kz at *
      have hkz1 : kz ≤ 576460754400575488 := by omega
      have HK := hid hkz
      have T1 := hid (kc0_1 c0)
      have C1' := hid c1
      clear hkz c1
      go_wp2_with fail
      go_region_held3 (fun v => v.cell? ⟨b, off + j * 2, none⟩ = some (.string m1) ∧ KC wr v [(⟨b, off + j * 2, none⟩, .string m1)])
        (first | assumption | exact kc1 (T1.out.call (below_drew _)) | exact kc1c hbC (by assumption))
        (first | (go_at_call 55; refine (HT1.out _).mono ?_; rintro e w1 ⟨rfl, hbC⟩))
      rename_i hS
      have B1 := hid hS.2.bel
      have d2 : w1.cell? ⟨b, off + j * 2 + 1, none⟩ = some (.string m2) := by rw [B1.out.cell (p := ⟨b, off + j * 2 + 1, none⟩) hbl]; exact C1'.out
      have T2 := hid (kc0_1 d2)
      clear hS c0 T1 HT1 hbC
      go_wp2_with fail
      go_region_held3 (fun v => v.cell? ⟨b, off + j * 2 + 1, none⟩ = some (.string m2) ∧ KC w1 v [(⟨b, off + j * 2 + 1, none⟩, .string m2)])
        (first | assumption | exact kc1 (T2.out.call (below_drew _)) | exact kc1c hbC (by assumption))
        (first | (go_at_call 55; refine (HT2.out _).mono ?_; rintro e w2 ⟨rfl, hbC⟩))
      rename_i hS
      have B2 := hid (Below.then' (Below.then' HB.out B1.out (Nat.le_refl _)) hS.2.bel (Nat.le_refl _))
      clear hS T2 HT2 d2
      go_wp2
      go_roundw
      case rel => exact ⟨j + 1, by rw [show k + (j + 1) * 2 = kz + 2 by have := HK.out; omega]; go_num, by go_num, by omega, B2.out⟩
      case measure => simp [intOf]; omega
    · have hlt' : ¬ (j : Int) < (n : Int) := by omega
      have hjn : j = n := by omega
      subst hjn
      have HK : Hid ((k : Int) + (j : Int) * 2 = ((k + j * 2 : Nat) : Int)) := by show _ = _; omega
      generalize k + j * 2 = kz at *
      go_wp2
      go_ret
      exact ⟨by rw [HK.out]; rfl, HB.out⟩
theorem pcs_strS (ps : List PB) : ∀ u ∈ pcs ps, isStr u := by
  induction ps with
  | nil => intro u hu; cases hu
  | cons p ps ih =>
    intro u hu
    simp only [pcs, List.mem_cons] at hu
    rcases hu with rfl | rfl | hu
    · exact ⟨_, rfl⟩
    · exact ⟨_, rfl⟩
    · exact ih u hu
theorem lies_to {w w' : World} {R : Nat → Prop} {a : Option Addr} {n m c : Nat} {V : Nat → Value} (h : Lies w a n m V) (ho : Only R w w') (hR : ∀ y, (Value.slice a n c).ownBlock = some y → ¬ R y) : Lies w' a n m V := by
  intro hn
  obtain ⟨b, off, rfl, h4, h5⟩ := h hn
  exact ⟨b, off, rfl, Nat.lt_of_lt_of_le h4 ho.size, fun j hj => (World.cell?_of_block (w := w) (a := ⟨b, off + j, none⟩) (ho.block b h4 (hR b rfl))).trans (h5 j hj)⟩
theorem kw_none {w : World} {S : Nat → Prop} {a : Option Addr} {c : Nat} {m : Nat} {K : Value → Prop} (hc : c ≤ 9223372036854775807) : Kw w S (.slice a 0 c) 0 m K := ⟨a, c, rfl, Nat.zero_le _, hc, fun h => absurd h (Nat.lt_irrefl _)⟩
theorem own_uf' {w : World} {base : Nat} {e : TypeId} {size : Nat} {v : Value} {n : Nat} {xs : List Value} (h : w.ownsRow base e size v n xs) {k : Nat} (hk : v.ownBlock = some k) : Uf w k := by
  rcases h.2 with ⟨rfl, _⟩ | ⟨g, cap, cur, rfl, h3, h4, h5, h6, h7, h8⟩
  · cases hk
  · cases hk
    exact ⟨_, _, h4⟩
theorem ow_kwb {w : World} {base : Nat} {v : Value} {l : List PB} (h : Ow w base v l) : Kw w (fun b => v.ownBlock = some b) v l.length (l.length * 2) isStr := by
  have := kw_of (S' := fun b => v.ownBlock = some b) (K := isStr) (h.pr (S := fun b => v.ownBlock = some b ∧ Uf w b) (fun k hk hb _ => ⟨hk, own_uf' h hk⟩)) (fun u hu => pcs_strS _ u hu) (fun b hb _ => hb)
  rwa [pcs_length] at this
theorem rp_to {w w' : World} {base : Nat} {v : Value} {f : List PB} (h : Rp w base v f) {R : Nat → Prop} (ho : Only R w w') (hR : ∀ b, base ≤ b → ¬ R b) : Rp w' base v f := by
  obtain ⟨a, m, c, rfl, h1, h2, h3, h4, h5⟩ := h
  refine ⟨a, m, c, rfl, h1, h2, h3, h4, fun hp => ?_⟩
  obtain ⟨b, h6, h7, T, xs, h8, h9⟩ := h5 hp
  exact ⟨b, h6, h7, T, xs, h8.to ho (hR b h7), h9⟩
theorem rp_kwb {w : World} {base : Nat} {v : Value} {l : List PB} (h : Rp w base v l) (P : Prop) (hP : P) : Kw w (fun b => base ≤ b ∧ P) v l.length (l.length * 2) isStr := by
  have := kw_of (S' := fun b => base ≤ b ∧ P) (K := isStr) h.pr (fun u hu => pcs_strS _ u hu) (fun b hb _ => ⟨⟨hb.1, hP⟩, hb.2⟩)
  rwa [pcs_length] at this
end Go.Proofs.Ytnbafoennnhppaa
/-
  Locks as plain data: names of transactions, rows of locks, what clashes, when a table of locks is right, asking and freeing.
-/
namespace Go.Proofs.Ytnbafoennnhppaa
open Go.RowKit
set_option linter.unusedVariables false
abbrev TX := Int × Int × Int
/-- A lock: its transaction, its range, whether it is exclusive. -/
abbrev LK := TX × (ByteArray × ByteArray) × Bool
def lk0 : LK := ((0, 0, 0), (⟨#[]⟩, ⟨#[]⟩), false)
def lAt (l : List LK) (i : Nat) : LK := l[i]?.getD lk0
theorem lAt_take {l : List LK} {i k : Nat} (h : i < k) : lAt (l.take k) i = lAt l i := by simp [lAt, List.getElem?_take_of_lt h]
theorem lAt_mem {l : List LK} {i : Nat} (h : i < l.length) : lAt l i ∈ l := by simp [lAt, h]
/-- The cells of a row of locks. -/
def lcs : List LK → List Value
  | [] => []
  | p :: ps => .int .i64 p.1.1 :: .int .i64 p.1.2.1 :: .int .i64 p.1.2.2 :: .string p.2.1.1 :: .string p.2.1.2 :: .bool p.2.2 :: lcs ps
theorem lcs_length (l : List LK) : (lcs l).length = l.length * 6 := by
  induction l with
  | nil => rfl
  | cons p ps ih => simp [lcs, ih]; omega
theorem lcs_append (l r : List LK) : lcs (l ++ r) = lcs l ++ lcs r := by
  induction l with
  | nil => rfl
  | cons p ps ih => simp only [lcs, List.cons_append, ih]
theorem lcs_take (l : List LK) : ∀ k, lcs (l.take k) = (lcs l).take (k * 6) := by
  induction l with
  | nil => intro k; simp [lcs]
  | cons p ps ih =>
    intro k
    cases k with
    | zero => rfl
    | succ k =>
      rw [show (k + 1) * 6 = k * 6 + 6 by omega]
      simp only [List.take_succ_cons, lcs, ih]
theorem lcs_at (l : List LK) : ∀ i, i < l.length → (lcs l)[i * 6]? = some (.int .i64 (lAt l i).1.1) ∧ (lcs l)[i * 6 + 1]? = some (.int .i64 (lAt l i).1.2.1) ∧ (lcs l)[i * 6 + 2]? = some (.int .i64 (lAt l i).1.2.2) ∧
    (lcs l)[i * 6 + 3]? = some (.string (lAt l i).2.1.1) ∧ (lcs l)[i * 6 + 4]? = some (.string (lAt l i).2.1.2) ∧ (lcs l)[i * 6 + 5]? = some (.bool (lAt l i).2.2) := by
  induction l with
  | nil => intro i h; exact absurd h (Nat.not_lt_zero _)
  | cons p ps ih =>
    intro i h
    cases i with
    | zero => exact ⟨rfl, rfl, rfl, rfl, rfl, rfl⟩
    | succ i =>
      have := ih i (by simpa using h)
      rw [show (i + 1) * 6 = i * 6 + 6 by omega, show i * 6 + 6 + 1 = i * 6 + 1 + 6 by omega, show i * 6 + 6 + 2 = i * 6 + 2 + 6 by omega, show i * 6 + 6 + 3 = i * 6 + 3 + 6 by omega, show i * 6 + 6 + 4 = i * 6 + 4 + 6 by omega, show i * 6 + 6 + 5 = i * 6 + 5 + 6 by omega]
      exact this
theorem lcs_set (l : List LK) (p : LK) : ∀ j, j < l.length → lcs (l.set j p) = ((((((lcs l).set (j * 6) (.int .i64 p.1.1)).set (j * 6 + 1) (.int .i64 p.1.2.1)).set (j * 6 + 2) (.int .i64 p.1.2.2)).set (j * 6 + 3) (.string p.2.1.1)).set (j * 6 + 4) (.string p.2.1.2)).set (j * 6 + 5) (.bool p.2.2) := by
  induction l with
  | nil => intro j h; exact absurd h (Nat.not_lt_zero _)
  | cons q l ih =>
    intro j h
    cases j with
    | zero => rfl
    | succ j =>
      have := ih j (by simpa using h)
      rw [show (j + 1) * 6 = j * 6 + 6 by omega, show j * 6 + 6 + 1 = j * 6 + 1 + 6 by omega, show j * 6 + 6 + 2 = j * 6 + 2 + 6 by omega, show j * 6 + 6 + 3 = j * 6 + 3 + 6 by omega, show j * 6 + 6 + 4 = j * 6 + 4 + 6 by omega, show j * 6 + 6 + 5 = j * 6 + 5 + 6 by omega]
      show Value.int .i64 q.1.1 :: Value.int .i64 q.1.2.1 :: Value.int .i64 q.1.2.2 :: Value.string q.2.1.1 :: Value.string q.2.1.2 :: Value.bool q.2.2 :: lcs (l.set j p) = _
      rw [this]
      rfl
theorem lcs_one (l : List LK) : ∀ u ∈ lcs l, u.oneCell' = true := by
  induction l with
  | nil => intro u hu; cases hu
  | cons p ps ih =>
    intro u hu
    simp only [lcs, List.mem_cons] at hu
    rcases hu with rfl | rfl | rfl | rfl | rfl | rfl | hu
    · rfl
    · rfl
    · rfl
    · rfl
    · rfl
    · rfl
    · exact ih u hu
/-- The slice value v leads to the locks l. -/
def Lr (w : World) (S : Nat → Prop) (v : Value) (l : List LK) : Prop := Rw w S v l.length (lcs l)
theorem Lr.to {w w' : World} {S R : Nat → Prop} {v : Value} {l : List LK} (h : Lr w S v l) (ho : Only R w w') (hd : ∀ b, S b → b < w.heap.size → ¬ R b) : Lr w' S v l := Rw.to h ho hd
theorem Lr.below {w w' : World} {S : Nat → Prop} {v : Value} {l : List LK} (h : Lr w S v l) (hb : Below w.heap.size w w') : Lr w' S v l := Rw.to h (only_of_below hb (fun _ => False)) (fun _ _ _ h => h)
theorem Lr.mono {w : World} {S R : Nat → Prop} {v : Value} {l : List LK} (h : Lr w S v l) (hd : ∀ b, S b → b < w.heap.size → R b) : Lr w R v l := Rw.mono h hd
theorem Lr.len {w : World} {S : Nat → Prop} {a : Option Addr} {n c : Nat} {l : List LK} (h : Lr w S (.slice a n c) l) : n = l.length ∧ n ≤ c ∧ c ≤ 9223372036854775807 := Rw.len h
theorem Lr.at {w : World} {S : Nat → Prop} {a : Option Addr} {n c : Nat} {l : List LK} (h : Lr w S (.slice a n c) l) (hp : 0 < n) : ∃ b off, a = some ⟨b, off, none⟩ ∧ S b ∧ b < w.heap.size ∧
    ∀ i, i < n → w.cell? ⟨b, off + i * 6, none⟩ = some (.int .i64 (lAt l i).1.1) ∧ w.cell? ⟨b, off + i * 6 + 1, none⟩ = some (.int .i64 (lAt l i).1.2.1) ∧ w.cell? ⟨b, off + i * 6 + 2, none⟩ = some (.int .i64 (lAt l i).1.2.2) ∧
      w.cell? ⟨b, off + i * 6 + 3, none⟩ = some (.string (lAt l i).2.1.1) ∧ w.cell? ⟨b, off + i * 6 + 4, none⟩ = some (.string (lAt l i).2.1.2) ∧ w.cell? ⟨b, off + i * 6 + 5, none⟩ = some (.bool (lAt l i).2.2) := by
  obtain ⟨b, off, h1, h2, h3, h4⟩ := Rw.at h hp
  refine ⟨b, off, h1, h2, h3, fun i hi => ?_⟩
  have hn := h.len.1
  obtain ⟨k0, k1, k2, k3, k4, k5⟩ := lcs_at l i (by omega)
  exact ⟨h4 _ _ k0, by rw [Nat.add_assoc]; exact h4 _ _ k1, by rw [Nat.add_assoc]; exact h4 _ _ k2, by rw [Nat.add_assoc]; exact h4 _ _ k3, by rw [Nat.add_assoc]; exact h4 _ _ k4, by rw [Nat.add_assoc]; exact h4 _ _ k5⟩
theorem lr_nil (w : World) (S : Nat → Prop) : Lr w S (.slice none 0 0) [] := rw_nil w S
/-- The first locks of a row. -/
theorem Lr.first {w : World} {S : Nat → Prop} {a : Option Addr} {n c : Nat} {l : List LK} (h : Lr w S (.slice a n c) l) (k : Nat) (hk : k ≤ n) : Lr w S (.slice a k c) (l.take k) := by
  obtain ⟨a', c', h1, h2, h3, h4, hn, h5⟩ := h
  cases h1
  have hl : (l.take k).length = k := by simp; omega
  unfold Lr
  rw [hl]
  refine ⟨a, c, rfl, by omega, h3, fun h0 => by subst h0; rfl, hn, fun hp => ?_⟩
  obtain ⟨b, off, h6, h7, h8, h9⟩ := h5 (by omega)
  refine ⟨b, off, h6, h7, h8, fun j u hu => h9 j u ?_⟩
  rw [lcs_take] at hu
  have hj : j < k * 6 := by
    rcases Nat.lt_or_ge j (k * 6) with h | h
    · exact h
    · rw [List.getElem?_eq_none (by simp; omega)] at hu; cases hu
  rwa [List.getElem?_take_of_lt hj] at hu
theorem Lr.offS {w : World} {S : Nat → Prop} {a : Option Addr} {n c : Nat} {l : List LK} (h : Lr w S (.slice a n c) l) (k : Nat) (hk : k ≤ n) : Lr w S (.slice a k c) (l.take k) := h.first k hk
theorem anyl_take {α : Type} (l : List α) (f : α → Bool) (d : α) {k : Nat} (h : k < l.length) : (l.take (k + 1)).any f = ((l.take k).any f || f (l[k]?.getD d)) := by
  rw [List.take_succ_eq_append_getElem h, List.any_append]
  simp [h]
theorem anyl_yes {α : Type} (l : List α) (f : α → Bool) (d : α) {k : Nat} (h : k < l.length) (hf : f (l[k]?.getD d) = true) : l.any f = true := by
  rw [List.any_eq_true]
  exact ⟨l[k], List.getElem_mem h, by simpa [h] using hf⟩
theorem rall_succ (f : Nat → Bool) (k : Nat) : (List.range (k + 1)).all f = ((List.range k).all f && f k) := by simp [List.range_succ, List.all_append]
theorem rall_no (f : Nat → Bool) {k n : Nat} (h : k < n) (hf : f k = false) : (List.range n).all f = false := by
  rw [List.all_eq_false]
  exact ⟨k, by simpa using h, by simp [hf]⟩
/-- When a name is right; when one is after another. -/
def txOk (x : TX) : Bool := decide (0 ≤ x.1) && (decide (x.1 ≤ 7) && (decide (1 ≤ x.2.1) && (decide (x.2.1 ≤ 999) && (decide (1 ≤ x.2.2) && decide (x.2.2 ≤ 999)))))
theorem txOk_iff (x : TX) : txOk x = true ↔ (0 ≤ x.1 ∧ x.1 ≤ 7 ∧ 1 ≤ x.2.1 ∧ x.2.1 ≤ 999 ∧ 1 ≤ x.2.2 ∧ x.2.2 ≤ 999) := by simp [txOk]
def txAfter (a b : TX) : Bool := txOk a && (txOk b && (decide (a.1 = b.1) && (decide (b.2.1 < a.2.1) || (decide (a.2.1 = b.2.1) && decide (b.2.2 < a.2.2)))))
def lkOk (x : LK) : Bool := txOk x.1 && rOk x.2.1.1 x.2.1.2
def clash (a b : LK) : Bool := !decide (a.1 = b.1) && ((a.2.2 || b.2.2) && bth a.2.1.1 a.2.1.2 b.2.1.1 b.2.1.2)
def anyC (l : List LK) (x : LK) : Bool := l.any (clash x)
def hasT (l : List LK) (t : TX) : Bool := l.any (fun y => decide (y.1 = t))
def hpk (l : List LK) (i : Nat) : Bool := lkOk (lAt l i) && !anyC (l.take i) (lAt l i)
def wpk (h l : List LK) (i : Nat) : Bool := lkOk (lAt l i) && (!hasT (l.take i) (lAt l i).1 && (anyC h (lAt l i) || anyC (l.take i) (lAt l i)))
def heldB (h : List LK) : Bool := (List.range h.length).all (hpk h)
def waitB (h l : List LK) : Bool := (List.range l.length).all (wpk h l)
/-- When a table of locks is right. -/
def lksOk (h l : List LK) : Bool := decide (h.length + l.length ≤ 60) && (heldB h && waitB h l)
theorem lksOk_len {h l : List LK} (e : lksOk h l = true) : h.length + l.length ≤ 60 := by
  simp [lksOk] at e
  exact e.1
/-- One lock more. -/
def mustW (h l : List LK) (x : LK) : Bool := anyC h x || anyC l x
def putL (h l : List LK) (x : LK) : List LK × List LK := if mustW h l x then (h, l ++ [x]) else (h ++ [x], l)
/-- LockAsk: the code, and the table. -/
def askC (h l : List LK) (x : LK) : Int := if lksOk h l && (lkOk x && !hasT l x.1) then (if h.length + l.length = 60 then 2 else if mustW h l x then 3 else 0) else 1
def askT (h l : List LK) (x : LK) : List LK × List LK := if lksOk h l && (lkOk x && !hasT l x.1) then (if h.length + l.length = 60 then ([], []) else putL h l x) else ([], [])
/-- LockFree over those that wait and aren't freed: the table, and what was granted. -/
def grant : List LK → List LK × List LK × List LK → List LK × List LK × List LK
  | [], s => s
  | y :: ys, (h, l, g) => grant ys (if mustW h l y then (h, l ++ [y], g) else (h ++ [y], l, g ++ [y]))
def others (l : List LK) (t : TX) : List LK := l.filter (fun y => !decide (y.1 = t))
def freeV (h l : List LK) (t : TX) : List LK × List LK × List LK := if lksOk h l then grant (others l t) (others h t, [], []) else ([], [], [])
end Go.Proofs.Ytnbafoennnhppaa
