/-
  A pair put into rising data, or its key taken out: the specification's way.
-/
import Derived.Test.YtjbamfgfgbmieaaMt2
import Derived.Test.YtjbamfgfgbmieaaMt1
import Derived.Deep.AppendSrc
import Derived.RowKit
import Derived.Laws.IdiomStrings
import Derived.Deep.RegionHeld3
import Derived.Laws.Cover1
import Derived.Deep.DeepCutAuto
import Derived.Laws.StructEq
import Derived.Deep.WholeRow
namespace Go.Proofs.Ytjbamfgfgbmieaa
open Go.RowKit
def lpStep (k v : ByteArray) (s : List PB × Bool) (p : PB) : List PB × Bool :=
  let o1 := if s.2 = false ∧ klt p.1 k = false then s.1 ++ [(k, v)] else s.1
  ((if p.1 = k then o1 else o1 ++ [p]), s.2 || !klt p.1 k)
def lpS (l : List PB) (k v : ByteArray) (gone : Bool) (j : Nat) : List PB × Bool := (l.take j).foldl (lpStep k v) ([], gone)
def lpE (k v : ByteArray) (s : List PB × Bool) : List PB := if s.2 then s.1 else s.1 ++ [(k, v)]
def lpV (l : List PB) (k v : ByteArray) (gone : Bool) : List PB := lpE k v (lpS l k v gone l.length)
theorem lpS_step (l : List PB) (k v : ByteArray) (gone : Bool) (j : Nat) (h : j < l.length) : lpS l k v gone (j + 1) = lpStep k v (lpS l k v gone j) (pAtB l j) := by
  unfold lpS
  rw [List.take_succ_eq_append_getElem h, List.foldl_append, pAtB_lt h]
  rfl
theorem lp_true (k v : ByteArray) : ∀ (l acc : List PB), l.foldl (lpStep k v) (acc, true) = (acc ++ l.filter (fun p => !decide (p.1 = k)), true)
  | [], acc => by simp
  | p :: l, acc => by
    rw [List.foldl_cons]
    have e : lpStep k v (acc, true) p = (acc ++ (if p.1 = k then [] else [p]), true) := by
      unfold lpStep
      by_cases hk : p.1 = k <;> simp [hk]
    rw [e, lp_true k v l]
    by_cases hk : p.1 = k
    · simp [hk]
    · simp [hk]
theorem filt_gt {l : List PB} {k : ByteArray} (h : ∀ x ∈ l, klt k x.1 = true) : l.filter (fun p => !decide (p.1 = k)) = l := by
  refine List.filter_eq_self.2 fun x hx => ?_
  have h1 := h x hx
  have : ¬ x.1 = k := fun e => by rw [e, klt_irrefl] at h1; cases h1
  simp [this]
theorem lp_false (k v : ByteArray) : ∀ (l acc : List PB), Asc l → lpE k v (l.foldl (lpStep k v) (acc, false)) = acc ++ insP l (k, v)
  | [], acc, _ => by simp [lpE, insP_nil]
  | p :: l, acc, h => by
    rw [List.foldl_cons]
    by_cases hk : p.1 = k
    · have e : lpStep k v (acc, false) p = (acc ++ [(k, v)], true) := by
        unfold lpStep
        simp [hk, klt_irrefl]
      rw [e, lp_true, insP_eq (p := (k, v)) hk]
      have hg : l.filter (fun p => !decide (p.1 = k)) = l := filt_gt fun x hx => by have := asc_lt h hx; rw [hk] at this; exact this
      simp [lpE, hg]
    · cases hl : klt p.1 k with
      | true =>
        have e : lpStep k v (acc, false) p = (acc ++ [p], false) := by
          unfold lpStep
          simp [hk, hl]
        rw [e, lp_false k v l _ (asc_tail h), insP_lt (p := (k, v)) hl]
        simp
      | false =>
        have e : lpStep k v (acc, false) p = (acc ++ [(k, v)] ++ [p], true) := by
          unfold lpStep
          simp [hk, hl]
        have hkp : klt k p.1 = true := klt_total hl hk
        rw [e, lp_true, insP_gt (p := (k, v)) hl hk]
        have hg : l.filter (fun p => !decide (p.1 = k)) = l := filt_gt fun x hx => klt_trans hkp (asc_lt h hx)
        simp [lpE, hg]
theorem del_filt (k : ByteArray) : ∀ (l : List PB), Asc l → l.filter (fun p => !decide (p.1 = k)) = delP l k
  | [], _ => by simp [delP_nil]
  | p :: l, h => by
    by_cases hk : p.1 = k
    · rw [delP_eq hk]
      have hg : l.filter (fun p => !decide (p.1 = k)) = l := filt_gt fun x hx => by have := asc_lt h hx; rw [hk] at this; exact this
      simp [hk, hg]
    · cases hl : klt p.1 k with
      | true => rw [delP_lt hl, ← del_filt k l (asc_tail h)]; simp [hk]
      | false =>
        have hkp : klt k p.1 = true := klt_total hl hk
        have hg : l.filter (fun p => !decide (p.1 = k)) = l := filt_gt fun x hx => klt_trans hkp (asc_lt h hx)
        rw [delP_gt hl hk]
        simp [hk, hg]
theorem lpV_put {l : List PB} (h : Asc l) (k v : ByteArray) : lpV l k v false = insP l (k, v) := by
  unfold lpV lpS
  rw [List.take_length, lp_false k v l [] h]
  rfl
theorem lpV_del {l : List PB} (h : Asc l) (k v : ByteArray) : lpV l k v true = delP l k := by
  unfold lpV lpS
  rw [List.take_length, lp_true k v l []]
  simp [lpE, del_filt k l h]
set_option maxHeartbeats 8000000 in
set_option maxRecDepth 20000 in
theorem l10Put_any (S : Nat → Prop) (a : Option Addr) (n c : Nat) (l : List PB) (k v : ByteArray) (gone : Bool) (w : World) (h : Pr w S (.slice a n c) l) (hs : n ≤ 1048576) :
    Calls Try.prog 39 #[.slice a n c, .agg #[.string k, .string v, .bool gone]] w fun e w' => ∃ a' n' c', e = .returned (.slice a' n' c') ∧ Ow w' w.heap.size (.slice a' n' c') (lpV l k v gone) ∧ Below w.heap.size w w' := by
  have hb0 := below_new (o := .cells #[.string k, .string v, .bool gone] 74) (w := w) (Below.refl _ _)
  have HB0 := hid hb0
  have K0 := hid (Bk.new w 74 [.string k, .string v, .bool gone])
  have P0 := hid (h.below' hb0)
  have HN := hid (Rw.len h).1
  clear hb0 h
  go_enter Try.func39, Try.ntmps39
  have e2 := K0.out.cell (j := 2) rfl
  have hbn := below_new (o := .cells #[] 34) (w := w.alloc (.cells #[.string k, .string v, .bool gone] 74)) (Below.refl _ _)
  have HO1 := hid (ow_new (w.alloc (.cells #[.string k, .string v, .bool gone] 74)) (w.alloc (.cells #[.string k, .string v, .bool gone] 74)).heap.size (Nat.le_refl _))
  have HB1 := hid hbn
  have e2' := (K0.out.below hbn).cell (j := 2) rfl
  clear hbn
  go_wp2_with fail
  have HUZ : Hid ((w.alloc (.cells #[.string k, .string v, .bool gone] 74)).heap.size = w.heap.size + 1) := by show _ = _; simp
  generalize hU : w.alloc (.cells #[.string k, .string v, .bool gone] 74) = U at *
  clear hU e2 e2'
  go_loopw [5, 6, 8, 14] (fun x d y i wr => ∃ (j : Nat) (av : Option Addr) (nv cv : Nat) (O : List PB) (db : Bool), j ≤ n ∧ i = .int .i64 j ∧ x = .slice av nv cv ∧ d = .bool db ∧ Hid (lpS l k v gone j = (O, db)) ∧ Hid (Ow wr U.heap.size (.slice av nv cv) O) ∧ Hid (O.length ≤ j + (if db then 1 else 0)) ∧ Hid (Below U.heap.size U wr)) (fun _ _ _ i _ => n - (intOf i).toNat)
  case atStart => exact ⟨0, _, 0, 0, [], gone, Nat.zero_le _, rfl, rfl, rfl, rfl, by have := HO1.out; rw [HUZ.out] at this ⊢; exact this, Nat.zero_le _, HB1.out⟩
  case round =>
    obtain ⟨j, av, nv, cv, O, db, hj, rfl, rfl, rfl, HS, HO, HL, HB⟩ := hrel
    clear HO1 HB1
    by_cases hlt : j < n
    · have hlt' : (j : Int) < (n : Int) := by omega
      have hj0 : (0 : Int) ≤ (j : Int) := by omega
      have HSJ : Hid (lpS l k v gone (j + 1) = lpStep k v (O, db) (pAtB l j)) := by
        show _ = _
        rw [lpS_step l k v gone j (by rw [← HN.out]; exact hlt), HS.out]
      have PJ := hid (P0.out.below' HB.out)
      obtain ⟨b, off, rfl, _, hbw, hcell⟩ := PJ.out.at (by omega)
      obtain ⟨d0, d1⟩ := hcell j hlt
      have hOl := fun y hy => (World.ownsRow.lt HO.out y hy)
      have HOL := hid hOl
      clear hcell hbw PJ HS hOl
      generalize pAtB l j = cur at *
      obtain ⟨kk, vv⟩ := cur
      simp only at d0 d1
      have hbp := below_new (o := .cells #[.string kk, .string vv] 34) (w := wr) (Below.refl _ _)
      have KP2 := hid (Bk.new wr 34 [.string kk, .string vv])
      have HO2 := hid (HO.out.kept hbp)
      have HB2 := hid (HB.out.trans (hbp.mono HB.out.size))
      have HW2 : Hid (wr.heap.size < (wr.alloc (.cells #[.string kk, .string vv] 34)).heap.size) := KP2.out.lt
      clear hbp HO
      have hcv := (Rw.len (HO2.out.pr (S := fun _ => True) (fun _ _ _ _ => trivial))).2
      rcases tri k kk with ⟨t1, t2, t3, t4⟩ | rfl | ⟨t1, t2, t3, t4⟩
      · have h1 : klt kk k = false := t2
        have h2 : ¬ kk = k := fun e => by rw [e] at t3; simp at t3
        have H1 := hid h1
        have H2 := hid h2
        clear h2
        clear h1
        cases db with
        | true =>
          have HLE : Hid (O.length ≤ 1048576) := by show _ ≤ _; have := HL.out; simp at this; omega
          have e0 := (K0.out.below HB2.out).cell (j := 0) rfl
          have e1 := (K0.out.below HB2.out).cell (j := 1) rfl
          have q0 := KP2.out.cell (j := 0) rfl
          have q1 := KP2.out.cell (j := 1) rfl
          have hb := below_new (o := .cells #[.string kk, .string vv] 34) (w := (wr.alloc (.cells #[.string kk, .string vv] 34))) (Below.refl _ _)
          have KS : Hid (Bk ((wr.alloc (.cells #[.string kk, .string vv] 34)).alloc (.cells #[.string kk, .string vv] 34)) (wr.heap.size + 1) 34 [.string kk, .string vv]) := by have := Bk.new (wr.alloc (.cells #[.string kk, .string vv] 34)) 34 [.string kk, .string vv]; show Bk _ _ _ _; simpa using this
          have HOa := hid (HO2.out.kept hb)
          have KPa := hid (KP2.out.below hb)
          have HBa := hid (HB2.out.trans (hb.mono HB2.out.size))
          have HWa := hid (Nat.lt_of_lt_of_le HW2.out hb.size)
          clear hb HO2 HB2
          go_wp2_with (at_builtin; refine wpList_append_pair1 rfl _ _ rfl U.heap.size _ O rfl HOa.out (wr.heap.size + 1) kk vv rfl KS.out ?q1 ?q2 ?_)
          case q1 => exact HLE.out
          case q2 => first | exact HBa.out.size | (have h := HBa.out.size; simp at h; omega)
          intro a7 n7 c7 w7 hO hg hown
          have HO7 : Hid (Ow w7 U.heap.size (.slice a7 n7 c7) (O ++ [(kk, vv)])) := by show Ow _ _ _ _; first | exact hO | simpa using hO
          have HB7 : Hid (Below U.heap.size U w7) := HBa.out.trans (grown_belowB HOa.out hg HBa.out.size)
          have KP7 : Hid (Bk w7 wr.heap.size 34 [.string kk, .string vv]) := KPa.out.to (only_of_grown hg (R := fun y => (Value.slice av nv cv).ownBlock = some y) (fun q hq => hq)) (fun e => by have := (HOL.out _ e).2; omega)
          have HW7 : Hid (wr.heap.size < w7.heap.size) := Nat.lt_of_lt_of_le HWa.out hg.size
          have HOL7 : Hid (∀ y, (Value.slice a7 n7 c7).ownBlock = some y → U.heap.size ≤ y ∧ (y < wr.heap.size ∨ wr.heap.size < y)) := by
            intro y hy
            refine ⟨(World.ownsRow.lt hO y hy).1, ?_⟩
            rcases hown with e | e
            · rw [e] at hy; exact .inl (HOL.out y hy).2
            · rw [e] at hy; cases hy; exact .inr (by have h := HW2.out; first | omega | (simp at h ⊢; omega) | simp)
          clear e0 e1 q0 q1
          clear hO hg hown KS HOa KPa HBa HWa
          have HLF : Hid ((O ++ [(kk, vv)]).length ≤ j + 1 + (if true then 1 else 0)) := by show _ ≤ _; have := HL.out; simp at this ⊢; omega
          clear HOL HOL7
          have HS1 : Hid (lpS l k v gone (j + 1) = (O ++ [(kk, vv)], true)) := by
            show _ = _
            rw [HSJ.out]
            unfold lpStep
            simp [H1.out, H2.out]
          clear HSJ
          go_wp2
          go_roundw
          case rel => exact ⟨j + 1, a7, n7, c7, O ++ [(kk, vv)], _, by omega, by go_num, rfl, rfl, HS1.out, HO7.out, HLF.out, HB7.out⟩
          case measure => simp [intOf]; omega
        | false =>
          have HLE : Hid (O.length ≤ 1048576) := by show _ ≤ _; have := HL.out; simp at this; omega
          have e0 := (K0.out.below HB2.out).cell (j := 0) rfl
          have e1 := (K0.out.below HB2.out).cell (j := 1) rfl
          have q0 := KP2.out.cell (j := 0) rfl
          have q1 := KP2.out.cell (j := 1) rfl
          have hb := below_new (o := .cells #[.string k, .string v] 34) (w := (wr.alloc (.cells #[.string kk, .string vv] 34))) (Below.refl _ _)
          have KS : Hid (Bk ((wr.alloc (.cells #[.string kk, .string vv] 34)).alloc (.cells #[.string k, .string v] 34)) (wr.heap.size + 1) 34 [.string k, .string v]) := by have := Bk.new (wr.alloc (.cells #[.string kk, .string vv] 34)) 34 [.string k, .string v]; show Bk _ _ _ _; simpa using this
          have HOa := hid (HO2.out.kept hb)
          have KPa := hid (KP2.out.below hb)
          have HBa := hid (HB2.out.trans (hb.mono HB2.out.size))
          have HWa := hid (Nat.lt_of_lt_of_le HW2.out hb.size)
          clear hb HO2 HB2
          go_wp2_with (at_builtin; refine wpList_append_pair1 rfl _ _ rfl U.heap.size _ O rfl HOa.out (wr.heap.size + 1) k v rfl KS.out ?q1 ?q2 ?_)
          case q1 => exact HLE.out
          case q2 => first | exact HBa.out.size | (have h := HBa.out.size; simp at h; omega)
          intro a7 n7 c7 w7 hO hg hown
          have HO7 : Hid (Ow w7 U.heap.size (.slice a7 n7 c7) (O ++ [(k, v)])) := by show Ow _ _ _ _; first | exact hO | simpa using hO
          have HB7 : Hid (Below U.heap.size U w7) := HBa.out.trans (grown_belowB HOa.out hg HBa.out.size)
          have KP7 : Hid (Bk w7 wr.heap.size 34 [.string kk, .string vv]) := KPa.out.to (only_of_grown hg (R := fun y => (Value.slice av nv cv).ownBlock = some y) (fun q hq => hq)) (fun e => by have := (HOL.out _ e).2; omega)
          have HW7 : Hid (wr.heap.size < w7.heap.size) := Nat.lt_of_lt_of_le HWa.out hg.size
          have HOL7 : Hid (∀ y, (Value.slice a7 n7 c7).ownBlock = some y → U.heap.size ≤ y ∧ (y < wr.heap.size ∨ wr.heap.size < y)) := by
            intro y hy
            refine ⟨(World.ownsRow.lt hO y hy).1, ?_⟩
            rcases hown with e | e
            · rw [e] at hy; exact .inl (HOL.out y hy).2
            · rw [e] at hy; cases hy; exact .inr (by have h := HW2.out; first | omega | (simp at h ⊢; omega) | simp)
          clear e0 e1 q0 q1
          clear hO hg hown KS HOa KPa HBa HWa
          have HLE2 : Hid ((O ++ [(k, v)]).length ≤ 1048576) := by show _ ≤ _; have := HL.out; simp at this ⊢; omega
          have e0 := (K0.out.below HB7.out).cell (j := 0) rfl
          have e1 := (K0.out.below HB7.out).cell (j := 1) rfl
          have q0 := KP7.out.cell (j := 0) rfl
          have q1 := KP7.out.cell (j := 1) rfl
          have hb := below_new (o := .cells #[.string kk, .string vv] 34) (w := w7) (Below.refl _ _)
          have KS := hid (Bk.new w7 34 [.string kk, .string vv])
          have HOa := hid (HO7.out.kept hb)
          have KPa := hid (KP7.out.below hb)
          have HBa := hid (HB7.out.trans (hb.mono HB7.out.size))
          have HWa := hid (Nat.lt_of_lt_of_le HW7.out hb.size)
          clear hb HO7 HB7
          go_wp2_with (at_builtin; refine wpList_append_pair1 rfl _ _ rfl U.heap.size _ (O ++ [(k, v)]) rfl HOa.out (w7.heap.size) kk vv rfl KS.out ?q1 ?q2 ?_)
          case q1 => exact HLE2.out
          case q2 => first | exact HBa.out.size | (have h := HBa.out.size; simp at h; omega)
          intro a8 n8 c8 w8 hO hg hown
          have HO8 : Hid (Ow w8 U.heap.size (.slice a8 n8 c8) ((O ++ [(k, v)]) ++ [(kk, vv)])) := by show Ow _ _ _ _; first | exact hO | simpa using hO
          have HB8 : Hid (Below U.heap.size U w8) := HBa.out.trans (grown_belowB HOa.out hg HBa.out.size)
          have KP8 : Hid (Bk w8 wr.heap.size 34 [.string kk, .string vv]) := KPa.out.to (only_of_grown hg (R := fun y => (Value.slice a7 n7 c7).ownBlock = some y) (fun q hq => hq)) (fun e => by have := (HOL7.out _ e).2; omega)
          have HW8 : Hid (wr.heap.size < w8.heap.size) := Nat.lt_of_lt_of_le HWa.out hg.size
          have HOL8 : Hid (∀ y, (Value.slice a8 n8 c8).ownBlock = some y → U.heap.size ≤ y ∧ (y < wr.heap.size ∨ wr.heap.size < y)) := by
            intro y hy
            refine ⟨(World.ownsRow.lt hO y hy).1, ?_⟩
            rcases hown with e | e
            · rw [e] at hy; exact (HOL7.out y hy).2
            · rw [e] at hy; cases hy; exact .inr (by have h := HW7.out; first | omega | (simp at h ⊢; omega) | simp)
          clear e0 e1 q0 q1
          clear hO hg hown KS HOa KPa HBa HWa
          have HLF : Hid ((O ++ [(k, v)] ++ [(kk, vv)]).length ≤ j + 1 + (if true then 1 else 0)) := by show _ ≤ _; have := HL.out; simp at this ⊢; omega
          clear HOL HOL7 HOL8
          have HS1 : Hid (lpS l k v gone (j + 1) = (O ++ [(k, v)] ++ [(kk, vv)], true)) := by
            show _ = _
            rw [HSJ.out]
            unfold lpStep
            simp [H1.out, H2.out]
          clear HSJ
          go_wp2
          go_roundw
          case rel => exact ⟨j + 1, a8, n8, c8, O ++ [(k, v)] ++ [(kk, vv)], _, by omega, by go_num, rfl, rfl, HS1.out, HO8.out, HLF.out, HB8.out⟩
          case measure => simp [intOf]; omega
      · have h1 : klt k k = false := klt_irrefl k
        have t1 := less_irrefl k.toList
        have H1 := hid h1
        clear h1
        cases db with
        | true =>
          have HLE : Hid (O.length ≤ 1048576) := by show _ ≤ _; have := HL.out; simp at this; omega
          have HLF : Hid (O.length ≤ j + 1 + (if true then 1 else 0)) := by show _ ≤ _; have := HL.out; simp at this ⊢; omega
          have e0 := (K0.out.below HB2.out).cell (j := 0) rfl
          have e1 := (K0.out.below HB2.out).cell (j := 1) rfl
          have q0 := KP2.out.cell (j := 0) rfl
          have q1 := KP2.out.cell (j := 1) rfl
          have HS1 : Hid (lpS l k v gone (j + 1) = (O, true)) := by
            show _ = _
            rw [HSJ.out]
            unfold lpStep
            simp [H1.out]
          clear HSJ
          go_wp2
          go_roundw
          case rel => exact ⟨j + 1, av, nv, cv, O, _, by omega, by go_num, rfl, rfl, HS1.out, HO2.out, HLF.out, HB2.out⟩
          case measure => simp [intOf]; omega
        | false =>
          have HLE : Hid (O.length ≤ 1048576) := by show _ ≤ _; have := HL.out; simp at this; omega
          have e0 := (K0.out.below HB2.out).cell (j := 0) rfl
          have e1 := (K0.out.below HB2.out).cell (j := 1) rfl
          have q0 := KP2.out.cell (j := 0) rfl
          have q1 := KP2.out.cell (j := 1) rfl
          have hb := below_new (o := .cells #[.string k, .string v] 34) (w := (wr.alloc (.cells #[.string k, .string vv] 34))) (Below.refl _ _)
          have KS : Hid (Bk ((wr.alloc (.cells #[.string k, .string vv] 34)).alloc (.cells #[.string k, .string v] 34)) (wr.heap.size + 1) 34 [.string k, .string v]) := by have := Bk.new (wr.alloc (.cells #[.string k, .string vv] 34)) 34 [.string k, .string v]; show Bk _ _ _ _; simpa using this
          have HOa := hid (HO2.out.kept hb)
          have KPa := hid (KP2.out.below hb)
          have HBa := hid (HB2.out.trans (hb.mono HB2.out.size))
          have HWa := hid (Nat.lt_of_lt_of_le HW2.out hb.size)
          clear hb HO2 HB2
          go_wp2_with (at_builtin; refine wpList_append_pair1 rfl _ _ rfl U.heap.size _ O rfl HOa.out (wr.heap.size + 1) k v rfl KS.out ?q1 ?q2 ?_)
          case q1 => exact HLE.out
          case q2 => first | exact HBa.out.size | (have h := HBa.out.size; simp at h; omega)
          intro a7 n7 c7 w7 hO hg hown
          have HO7 : Hid (Ow w7 U.heap.size (.slice a7 n7 c7) (O ++ [(k, v)])) := by show Ow _ _ _ _; first | exact hO | simpa using hO
          have HB7 : Hid (Below U.heap.size U w7) := HBa.out.trans (grown_belowB HOa.out hg HBa.out.size)
          have KP7 : Hid (Bk w7 wr.heap.size 34 [.string k, .string vv]) := KPa.out.to (only_of_grown hg (R := fun y => (Value.slice av nv cv).ownBlock = some y) (fun q hq => hq)) (fun e => by have := (HOL.out _ e).2; omega)
          have HW7 : Hid (wr.heap.size < w7.heap.size) := Nat.lt_of_lt_of_le HWa.out hg.size
          have HOL7 : Hid (∀ y, (Value.slice a7 n7 c7).ownBlock = some y → U.heap.size ≤ y ∧ (y < wr.heap.size ∨ wr.heap.size < y)) := by
            intro y hy
            refine ⟨(World.ownsRow.lt hO y hy).1, ?_⟩
            rcases hown with e | e
            · rw [e] at hy; exact .inl (HOL.out y hy).2
            · rw [e] at hy; cases hy; exact .inr (by have h := HW2.out; first | omega | (simp at h ⊢; omega) | simp)
          clear e0 e1 q0 q1
          clear hO hg hown KS HOa KPa HBa HWa
          have e0 := (K0.out.below HB7.out).cell (j := 0) rfl
          have e1 := (K0.out.below HB7.out).cell (j := 1) rfl
          have q0 := KP7.out.cell (j := 0) rfl
          have q1 := KP7.out.cell (j := 1) rfl
          have HLF : Hid ((O ++ [(k, v)]).length ≤ j + 1 + (if true then 1 else 0)) := by show _ ≤ _; have := HL.out; simp at this ⊢; omega
          clear HOL HOL7
          have HS1 : Hid (lpS l k v gone (j + 1) = (O ++ [(k, v)], true)) := by
            show _ = _
            rw [HSJ.out]
            unfold lpStep
            simp [H1.out]
          clear HSJ
          go_wp2
          go_roundw
          case rel => exact ⟨j + 1, a7, n7, c7, O ++ [(k, v)], _, by omega, by go_num, rfl, rfl, HS1.out, HO7.out, HLF.out, HB7.out⟩
          case measure => simp [intOf]; omega
      · have h1 : klt kk k = true := t2
        have h2 : ¬ kk = k := fun e => by rw [e] at t3; simp at t3
        have H1 := hid h1
        have H2 := hid h2
        clear h2
        clear h1
        cases db with
        | true =>
          have HLE : Hid (O.length ≤ 1048576) := by show _ ≤ _; have := HL.out; simp at this; omega
          have e0 := (K0.out.below HB2.out).cell (j := 0) rfl
          have e1 := (K0.out.below HB2.out).cell (j := 1) rfl
          have q0 := KP2.out.cell (j := 0) rfl
          have q1 := KP2.out.cell (j := 1) rfl
          have hb := below_new (o := .cells #[.string kk, .string vv] 34) (w := (wr.alloc (.cells #[.string kk, .string vv] 34))) (Below.refl _ _)
          have KS : Hid (Bk ((wr.alloc (.cells #[.string kk, .string vv] 34)).alloc (.cells #[.string kk, .string vv] 34)) (wr.heap.size + 1) 34 [.string kk, .string vv]) := by have := Bk.new (wr.alloc (.cells #[.string kk, .string vv] 34)) 34 [.string kk, .string vv]; show Bk _ _ _ _; simpa using this
          have HOa := hid (HO2.out.kept hb)
          have KPa := hid (KP2.out.below hb)
          have HBa := hid (HB2.out.trans (hb.mono HB2.out.size))
          have HWa := hid (Nat.lt_of_lt_of_le HW2.out hb.size)
          clear hb HO2 HB2
          go_wp2_with (at_builtin; refine wpList_append_pair1 rfl _ _ rfl U.heap.size _ O rfl HOa.out (wr.heap.size + 1) kk vv rfl KS.out ?q1 ?q2 ?_)
          case q1 => exact HLE.out
          case q2 => first | exact HBa.out.size | (have h := HBa.out.size; simp at h; omega)
          intro a7 n7 c7 w7 hO hg hown
          have HO7 : Hid (Ow w7 U.heap.size (.slice a7 n7 c7) (O ++ [(kk, vv)])) := by show Ow _ _ _ _; first | exact hO | simpa using hO
          have HB7 : Hid (Below U.heap.size U w7) := HBa.out.trans (grown_belowB HOa.out hg HBa.out.size)
          have KP7 : Hid (Bk w7 wr.heap.size 34 [.string kk, .string vv]) := KPa.out.to (only_of_grown hg (R := fun y => (Value.slice av nv cv).ownBlock = some y) (fun q hq => hq)) (fun e => by have := (HOL.out _ e).2; omega)
          have HW7 : Hid (wr.heap.size < w7.heap.size) := Nat.lt_of_lt_of_le HWa.out hg.size
          have HOL7 : Hid (∀ y, (Value.slice a7 n7 c7).ownBlock = some y → U.heap.size ≤ y ∧ (y < wr.heap.size ∨ wr.heap.size < y)) := by
            intro y hy
            refine ⟨(World.ownsRow.lt hO y hy).1, ?_⟩
            rcases hown with e | e
            · rw [e] at hy; exact .inl (HOL.out y hy).2
            · rw [e] at hy; cases hy; exact .inr (by have h := HW2.out; first | omega | (simp at h ⊢; omega) | simp)
          clear e0 e1 q0 q1
          clear hO hg hown KS HOa KPa HBa HWa
          have HLF : Hid ((O ++ [(kk, vv)]).length ≤ j + 1 + (if true then 1 else 0)) := by show _ ≤ _; have := HL.out; simp at this ⊢; omega
          clear HOL HOL7
          have HS1 : Hid (lpS l k v gone (j + 1) = (O ++ [(kk, vv)], true)) := by
            show _ = _
            rw [HSJ.out]
            unfold lpStep
            simp [H1.out, H2.out]
          clear HSJ
          go_wp2
          go_roundw
          case rel => exact ⟨j + 1, a7, n7, c7, O ++ [(kk, vv)], _, by omega, by go_num, rfl, rfl, HS1.out, HO7.out, HLF.out, HB7.out⟩
          case measure => simp [intOf]; omega
        | false =>
          have HLE : Hid (O.length ≤ 1048576) := by show _ ≤ _; have := HL.out; simp at this; omega
          have e0 := (K0.out.below HB2.out).cell (j := 0) rfl
          have e1 := (K0.out.below HB2.out).cell (j := 1) rfl
          have q0 := KP2.out.cell (j := 0) rfl
          have q1 := KP2.out.cell (j := 1) rfl
          have hb := below_new (o := .cells #[.string kk, .string vv] 34) (w := (wr.alloc (.cells #[.string kk, .string vv] 34))) (Below.refl _ _)
          have KS : Hid (Bk ((wr.alloc (.cells #[.string kk, .string vv] 34)).alloc (.cells #[.string kk, .string vv] 34)) (wr.heap.size + 1) 34 [.string kk, .string vv]) := by have := Bk.new (wr.alloc (.cells #[.string kk, .string vv] 34)) 34 [.string kk, .string vv]; show Bk _ _ _ _; simpa using this
          have HOa := hid (HO2.out.kept hb)
          have KPa := hid (KP2.out.below hb)
          have HBa := hid (HB2.out.trans (hb.mono HB2.out.size))
          have HWa := hid (Nat.lt_of_lt_of_le HW2.out hb.size)
          clear hb HO2 HB2
          go_wp2_with (at_builtin; refine wpList_append_pair1 rfl _ _ rfl U.heap.size _ O rfl HOa.out (wr.heap.size + 1) kk vv rfl KS.out ?q1 ?q2 ?_)
          case q1 => exact HLE.out
          case q2 => first | exact HBa.out.size | (have h := HBa.out.size; simp at h; omega)
          intro a7 n7 c7 w7 hO hg hown
          have HO7 : Hid (Ow w7 U.heap.size (.slice a7 n7 c7) (O ++ [(kk, vv)])) := by show Ow _ _ _ _; first | exact hO | simpa using hO
          have HB7 : Hid (Below U.heap.size U w7) := HBa.out.trans (grown_belowB HOa.out hg HBa.out.size)
          have KP7 : Hid (Bk w7 wr.heap.size 34 [.string kk, .string vv]) := KPa.out.to (only_of_grown hg (R := fun y => (Value.slice av nv cv).ownBlock = some y) (fun q hq => hq)) (fun e => by have := (HOL.out _ e).2; omega)
          have HW7 : Hid (wr.heap.size < w7.heap.size) := Nat.lt_of_lt_of_le HWa.out hg.size
          have HOL7 : Hid (∀ y, (Value.slice a7 n7 c7).ownBlock = some y → U.heap.size ≤ y ∧ (y < wr.heap.size ∨ wr.heap.size < y)) := by
            intro y hy
            refine ⟨(World.ownsRow.lt hO y hy).1, ?_⟩
            rcases hown with e | e
            · rw [e] at hy; exact .inl (HOL.out y hy).2
            · rw [e] at hy; cases hy; exact .inr (by have h := HW2.out; first | omega | (simp at h ⊢; omega) | simp)
          clear e0 e1 q0 q1
          clear hO hg hown KS HOa KPa HBa HWa
          have HLF : Hid ((O ++ [(kk, vv)]).length ≤ j + 1 + (if false then 1 else 0)) := by show _ ≤ _; have := HL.out; simp at this ⊢; omega
          clear HOL HOL7
          have HS1 : Hid (lpS l k v gone (j + 1) = (O ++ [(kk, vv)], false)) := by
            show _ = _
            rw [HSJ.out]
            unfold lpStep
            simp [H1.out, H2.out]
          clear HSJ
          go_wp2
          go_roundw
          case rel => exact ⟨j + 1, a7, n7, c7, O ++ [(kk, vv)], _, by omega, by go_num, rfl, rfl, HS1.out, HO7.out, HLF.out, HB7.out⟩
          case measure => simp [intOf]; omega
    · have hlt' : ¬ (j : Int) < (n : Int) := by omega
      have HV : Hid (lpV l k v gone = lpE k v (O, db)) := by
        show _ = _
        unfold lpV
        rw [← HN.out, show n = j by omega, HS.out]
      clear HS
      have e0 := (K0.out.below HB.out).cell (j := 0) rfl
      have e1 := (K0.out.below HB.out).cell (j := 1) rfl
      cases db with
      | true =>
        go_wp2
        go_ret
        exact ⟨_, _, _, rfl, by rw [HV.out]; exact ow_mono HO.out HB0.out.size, HB0.out.trans (HB.out.mono HB0.out.size)⟩
      | false =>
        have HLE : Hid (O.length ≤ 1048576) := by show _ ≤ _; have := HL.out; simp at this; omega
        have hb := below_new (o := .cells #[.string k, .string v] 34) (w := wr) (Below.refl _ _)
        have KS := hid (Bk.new wr 34 [.string k, .string v])
        have HOa := hid (HO.out.kept hb)
        have HBa := hid (HB.out.trans (hb.mono HB.out.size))
        clear hb HO HB
        go_wp2_with (at_builtin; refine wpList_append_pair1 rfl _ _ rfl U.heap.size _ O rfl HOa.out wr.heap.size k v rfl KS.out ?q1 ?q2 ?_)
        case q1 => exact HLE.out
        case q2 => first | exact HBa.out.size | (have h := HBa.out.size; simp at h; omega)
        intro a7 n7 c7 w7 hO hg hown
        have HO7 : Hid (Ow w7 U.heap.size (.slice a7 n7 c7) (O ++ [(k, v)])) := hO
        have HB7 : Hid (Below U.heap.size U w7) := HBa.out.trans (grown_belowB HOa.out hg HBa.out.size)
        clear hO hg hown e0 e1 HOa HBa KS
        go_wp2
        go_ret
        exact ⟨_, _, _, rfl, by rw [HV.out]; exact ow_mono HO7.out HB0.out.size, HB0.out.trans (HB7.out.mono HB0.out.size)⟩
end Go.Proofs.Ytjbamfgfgbmieaa
/-
  The built-in append, onto a slice of bytes that the call owns, from any slice of bytes, the nil one too: it owns both behind it.
-/
namespace Go.Proofs.Ytjbamfgfgbmieaa
open Go.RowKit

/-- The slice value v owns a row of its own, from block number B on, whose first bytes are zs. -/
def Ob (w : World) (B : Nat) (v : Value) (zs : List Int) : Prop := w.ownsRow B 5 1 v zs.length (zs.map (Value.int .u8))

theorem run_append_own_nil {P : Program} {w : World} {base : Nat} {t ty e : TypeId} {i : TypeInfo} (ht : P.underlying t = some (.slice e)) (hi : P.info? e = some i)
    {v : Value} {n : Nat} {xs : List Value} (hown : w.ownsRow base e 1 v n xs) (c : Nat) :
    (Builtin.append_ #[t, t] ty #[v, .slice none 0 c]).run P w = .ok v w := by
  rcases hown.2 with ⟨rfl, rfl⟩ | ⟨g, cap, cur, rfl, hbg, hg, hnc, hcm, hcs, htake⟩
  · simp [Builtin.append_, run_underlying ht, sizeOf, typeInfo, hi, Builtin.lenOf, Builtin.firstCells]
  · have hr := run_append_room_src (P := P) w t t ty e i ht hi g 0 n cap (.slice none 0 c) 0 [] (Src.ofNil w ht c) (by omega) (by intro j hj; simp at hj) (by intro j hj; simp at hj)
    rw [hr]
    rfl

theorem run_append_rd {w : World} (ty : TypeId) (base : Nat) (v : Value) (zs : List Int) (hown : Ob w base v zs) (ao : Option Addr) (m c : Nat) (ys : List Int) (hsrc : Rd w ao m c ys)
    (hb : zs.length + ys.length ≤ 70368744177664) (hbase : base ≤ w.heap.size) :
    ∃ v' w', (Builtin.append_ #[22, 22] ty #[v, .slice ao m c]).run Try.prog w = .ok v' w' ∧ Ob w' base v' (zs ++ ys) ∧ w.grownBy w' v.ownBlock := by
  obtain ⟨i0, hi, hz0, hz1, hz2⟩ := info_parts infoU8
  obtain ⟨h1, h2, h3, h30, h4, h5⟩ := hsrc
  cases ao with
  | none =>
    have hm : m = 0 := by
      rcases Nat.eq_zero_or_pos m with h | h
      · exact h
      · obtain ⟨b, off, e, _⟩ := h5 h
        cases e
    subst hm
    have hy : ys = [] := List.eq_nil_of_length_eq_zero h1.symm
    subst hy
    exact ⟨v, w, run_append_own_nil Try.underlying22 hi hown c, by simpa using hown, ⟨rfl, rfl, rfl, Nat.le_refl _, fun _ _ _ => rfl⟩⟩
  | some ad =>
    obtain ⟨v', w', hr, ho, hg, _⟩ := run_append_own (P := Try.prog) w base 22 ty 5 i0 (.int .u8 0) 1 1 Try.underlying22 hi hz0 hz1 hz2 rfl (by decide) v zs.length (zs.map (Value.int .u8)) hown ad m c (ys.map (Value.int .u8))
      (by simp [h1]) (by
        intro j u hu
        have hj : j < ys.length := by
          have := (List.getElem?_eq_some_iff.1 hu).1
          simpa using this
        obtain ⟨b, off, e, _, hc⟩ := h5 (by omega)
        cases e
        have := hc j (by omega)
        rw [Addr.add_lit, this]
        simp [hj] at hu
        simp [hj, hu]) (by
        intro u hu
        obtain ⟨x, _, rfl⟩ := List.mem_map.1 hu
        rfl) (by unfold maxLen; omega) (by omega) hbase
    refine ⟨v', w', hr, ?_, hg⟩
    unfold Ob
    rw [List.length_append, List.map_append, ← h1]
    exact ho

theorem wpList_append_rd {w : World} {ops : Array Oper} {rest : List Oper} {o : Oper} {a : Act} {Q : Exit → Act → World → Prop} (hgd : o.guard = none) (s x : Operand)
    (ho : o.op = .call { callee := .builtin .append, args := #[s, x], argTypes := #[22, 22] }) (base : Nat) (v : Value) (zs : List Int) (hs : a.eval s = v) (hown : Ob w base v zs)
    (ao : Option Addr) (m c : Nat) (ys : List Int) (hx : a.eval x = .slice ao m c) (hsrc : Rd w ao m c ys) (hb : zs.length + ys.length ≤ 70368744177664) (hbase : base ≤ w.heap.size)
    (h : ∀ v' w', Ob w' base v' (zs ++ ys) → w.grownBy w' v.ownBlock → wpList Try.prog ops Q rest (a.put o.dst v') w') : wpList Try.prog ops Q (o :: rest) a w := by
  refine wpList_plain hgd fun K hK => ?_
  obtain ⟨v', w', hr, h2, h3⟩ := run_append_rd (w := w) o.type base v zs hown ao m c ys hsrc hb hbase
  unfold Oper.wp execOp
  simp only [ho, resolve, invoke, builtin, Sem.run_bind, Sem.run_pure, Result.andThen_ok, List.map_toArray, List.map_cons, List.map_nil, hs, hx, hr]
  exact hK _ _ (h v' w' h2 h3)

/-- An owned slice, read. -/
theorem Ob.rd {w : World} {B : Nat} {v : Value} {zs : List Int} (h : Ob w B v zs) (hl : ∀ i : Nat, 0 ≤ zs[i]?.getD 0 ∧ zs[i]?.getD 0 ≤ 255) (hb : zs.length ≤ 70368744177664) :
    ∃ a c, v = .slice a zs.length c ∧ Rd w a zs.length c zs ∧ ∀ x, a = some x → B ≤ x.block := by
  rcases h.2 with ⟨rfl, h0⟩ | ⟨g, cap, cur, rfl, hbg, hg, hnc, hcm, hcs, htake⟩
  · exact ⟨none, 0, by rw [h0], ⟨rfl, by omega, by omega, by omega, hl, fun hp => by omega⟩, fun x hx => by cases hx⟩
  · refine ⟨some ⟨g, 0, none⟩, cap, rfl, ⟨rfl, hnc, by unfold maxLen at hcm; omega, by omega, hl, fun _ => ⟨g, 0, rfl, ?_, fun i hi => ?_⟩⟩, fun x hx => by cases hx; exact hbg⟩
    · rcases Nat.lt_or_ge g w.heap.size with h | h
      · exact h
      · rw [Array.getElem?_eq_none h] at hg; cases hg
    · have hc := h.cells (g := g) rfl i (.int .u8 (zs[i]?.getD 0)) (by simp [hi])
      rw [Addr.add_lit] at hc
      exact hc
theorem Ob.shape {w : World} {B : Nat} {v : Value} {zs : List Int} (h : Ob w B v zs) : ∃ a c, v = .slice a zs.length c := by
  rcases h.2 with ⟨rfl, h0⟩ | ⟨g, cap, cur, rfl, _⟩
  · exact ⟨none, 0, by rw [h0]⟩
  · exact ⟨_, cap, rfl⟩
theorem Ob.alloc {w : World} {B : Nat} {v : Value} {zs : List Int} (h : Ob w B v zs) (o : Obj) : Ob (w.alloc o) B v zs := World.ownsRow.alloc h o
/-- The empty literal. -/
theorem ob_new (w : World) (B : Nat) (hB : B ≤ w.heap.size) : Ob (w.alloc (.cells #[] 5)) B (.slice (some ⟨w.heap.size, 0, none⟩) 0 0) [] :=
  ⟨rfl, .inr ⟨w.heap.size, 0, #[], rfl, hB, heap_alloc_new w _, Nat.le_refl _, by decide, rfl, rfl⟩⟩
/-- What append leaves, below. -/
theorem Ob.below {w w1 w2 : World} {B : Nat} {v : Value} {zs : List Int} (h : Ob w1 B v zs) (hb : Below B w w1) (hB : B ≤ w1.heap.size) (hg : w1.grownBy w2 v.ownBlock) : Below B w w2 :=
  hb.grown hg hB fun k hk => (World.ownsRow.lt h k hk).1
/-- One byte in a row of its own. -/
theorem rd_one (w : World) (z : Int) (h0 : 0 ≤ z) (h1 : z ≤ 255) : Rd (w.alloc (.cells #[.int .u8 z] 5)) (some ⟨w.heap.size, 0, none⟩) 1 1 [z] := by
  refine ⟨rfl, Nat.le_refl _, by omega, by omega, fun i => ?_, fun _ => ⟨w.heap.size, 0, rfl, by simp, fun i hi => ?_⟩⟩
  · match i with
    | 0 => exact ⟨h0, h1⟩
    | n + 1 => simp
  · have : i = 0 := by omega
    subst this
    rw [World.cell?_alloc_at (hn := rfl)]
    simp

end Go.Proofs.Ytjbamfgfgbmieaa
/-
  Plain mathematics: the digits of a number to the base 128, and how a number is read from bytes.
-/
namespace Go.Proofs.Ytjbamfgfgbmieaa

/-- The digits of n, the lowest first, each but the last with 128 added; f of them at most before the last. -/
def encF : Nat → Int → List Int
  | 0, n => [n]
  | f + 1, n => if 128 ≤ n then (128 + n % 128) :: encF f (n / 128) else [n]
def enc (n : Int) : List Int := encF 6 n
/-- What f digits and one more can hold. -/
def bnd : Nat → Int
  | 0 => 128
  | f + 1 => 128 * bnd f

theorem bnd_pos (f : Nat) : 128 ≤ bnd f := by
  induction f with
  | zero => simp [bnd]
  | succ f ih => simp only [bnd]; omega
theorem encF_small (f : Nat) (n : Int) (h : n < 128) : encF f n = [n] := by
  cases f with
  | zero => rfl
  | succ f => simp only [encF]; rw [if_neg (by omega)]
theorem encF_big (f : Nat) (n : Int) (h : 128 ≤ n) : encF (f + 1) n = (128 + n % 128) :: encF f (n / 128) := by
  simp only [encF]; rw [if_pos h]
theorem bnd_down (f : Nat) (n : Int) (h : n < bnd (f + 1)) : n / 128 < bnd f := by
  simp only [bnd] at h
  omega
theorem encF_byte (f : Nat) : ∀ n : Int, 0 ≤ n → n < bnd f → ∀ z ∈ encF f n, 0 ≤ z ∧ z ≤ 255 := by
  induction f with
  | zero =>
    intro n h0 h1 z hz
    simp [encF] at hz
    simp [bnd] at h1
    omega
  | succ f ih =>
    intro n h0 h1 z hz
    by_cases h : 128 ≤ n
    · rw [encF_big f n h] at hz
      rcases List.mem_cons.1 hz with e | e
      · omega
      · exact ih (n / 128) (by omega) (bnd_down f n h1) z e
    · rw [encF_small _ n (by omega)] at hz
      simp at hz
      omega
theorem encF_len (f : Nat) : ∀ n : Int, 1 ≤ (encF f n).length ∧ (encF f n).length ≤ f + 1 := by
  induction f with
  | zero => intro n; simp [encF]
  | succ f ih =>
    intro n
    by_cases h : 128 ≤ n
    · rw [encF_big f n h]
      have := ih (n / 128)
      simp; omega
    · rw [encF_small _ n (by omega)]
      simp
theorem enc_byte (n : Int) (h0 : 0 ≤ n) (h1 : n ≤ 1099511627775) : ∀ z ∈ enc n, 0 ≤ z ∧ z ≤ 255 := encF_byte 6 n h0 (by simp [bnd]; omega)
theorem enc_len (n : Int) : 1 ≤ (enc n).length ∧ (enc n).length ≤ 7 := encF_len 6 n

theorem byte_at {zs : List Int} (h : ∀ z ∈ zs, 0 ≤ z ∧ z ≤ 255) (i : Nat) : 0 ≤ zs[i]?.getD 0 ∧ zs[i]?.getD 0 ≤ 255 := by
  by_cases hi : i < zs.length
  · have := h zs[i] (List.getElem_mem hi)
    simpa [hi] using this
  · have : zs[i]? = none := List.getElem?_eq_none (by omega)
    simp [this]
theorem at_byte {zs : List Int} (h : ∀ i : Nat, 0 ≤ zs[i]?.getD 0 ∧ zs[i]?.getD 0 ≤ 255) : ∀ z ∈ zs, 0 ≤ z ∧ z ≤ 255 := by
  intro z hz
  obtain ⟨i, hi, rfl⟩ := List.getElem_of_mem hz
  have := h i
  simpa [hi] using this
theorem byte_append {xs ys : List Int} (hx : ∀ z ∈ xs, 0 ≤ z ∧ z ≤ 255) (hy : ∀ z ∈ ys, 0 ≤ z ∧ z ≤ 255) : ∀ z ∈ xs ++ ys, 0 ≤ z ∧ z ≤ 255 := by
  intro z hz
  rcases List.mem_append.1 hz with h | h
  · exact hx z h
  · exact hy z h

/-- What PutVar answers: the bytes, where the number is one and the bytes are not too many. -/
def pv (zs : List Int) (n : Int) : Option (List Int) := if (0 ≤ n ∧ n ≤ 1099511627775) ∧ (zs ++ enc n).length ≤ 4096 then some (zs ++ enc n) else none
theorem pv_bad (zs : List Int) (n : Int) (h : n < 0 ∨ 1099511627775 < n) : pv zs n = none := by
  unfold pv; rw [if_neg (by omega)]
theorem pv_long (zs : List Int) (n : Int) (h : 4096 < (zs ++ enc n).length) : pv zs n = none := by
  unfold pv; rw [if_neg (by omega)]
theorem pv_ok (zs : List Int) (n : Int) (h0 : 0 ≤ n) (h1 : n ≤ 1099511627775) (h : (zs ++ enc n).length ≤ 4096) : pv zs n = some (zs ++ enc n) := by
  unfold pv; rw [if_pos ⟨⟨h0, h1⟩, h⟩]

/-- The weight of the digit that f more may follow, up to six digits. -/
def uOf : Nat → Int
  | 0 => 4398046511104
  | 1 => 34359738368
  | 2 => 268435456
  | 3 => 2097152
  | 4 => 16384
  | 5 => 128
  | _ => 1
theorem uOf_next (f : Nat) (h : f < 6) : uOf (f + 1) * 128 = uOf f := by
  match f, h with
  | 0, _ => rfl
  | 1, _ => rfl
  | 2, _ => rfl
  | 3, _ => rfl
  | 4, _ => rfl
  | 5, _ => rfl
theorem uOf_le (f : Nat) (h : 0 < f) : 1 ≤ uOf f ∧ uOf f ≤ 34359738368 := by
  match f, h with
  | 1, _ => simp [uOf]
  | 2, _ => simp [uOf]
  | 3, _ => simp [uOf]
  | 4, _ => simp [uOf]
  | 5, _ => simp [uOf]
  | n + 6, _ => simp [uOf]
theorem uOf_one (f : Nat) (h : 0 < f) (h6 : f ≤ 6) : 1 < uOf f ↔ f < 6 := by
  match f, h, h6 with
  | 1, _, _ => simp [uOf]
  | 2, _, _ => simp [uOf]
  | 3, _, _ => simp [uOf]
  | 4, _, _ => simp [uOf]
  | 5, _, _ => simp [uOf]
  | 6, _, _ => simp [uOf]

/-- Reading on at place k: n is what is read, u the weight of the next digit, f how many digits may come. -/
def gvGo : Nat → List Int → Nat → Int → Int → Int × Int
  | 0, _, _, _, _ => (0, -1)
  | f + 1, zs, k, n, u =>
    if k < zs.length then
      if 128 ≤ zs[k]?.getD 0 then gvGo f zs (k + 1) (n + (zs[k]?.getD 0 - 128) * u) (u * 128)
      else if 1099511627775 < n + zs[k]?.getD 0 * u ∨ (zs[k]?.getD 0 = 0 ∧ 1 < u) then (0, -1) else (n + zs[k]?.getD 0 * u, (k : Int) + 1)
    else (0, -1)
/-- What GetVar answers. -/
def gv (zs : List Int) (at' : Int) : Int × Int := if at' < 0 then (0, -1) else gvGo 6 zs at'.toNat 0 1
theorem gvGo_end (f : Nat) (zs : List Int) (k : Nat) (n u : Int) (h : zs.length ≤ k) : gvGo f zs k n u = (0, -1) := by
  cases f with
  | zero => rfl
  | succ f => simp only [gvGo]; rw [if_neg (by omega)]
theorem gvGo_more (f : Nat) (zs : List Int) (k : Nat) (n u : Int) (h : k < zs.length) (hd : 128 ≤ zs[k]?.getD 0) : gvGo (f + 1) zs k n u = gvGo f zs (k + 1) (n + (zs[k]?.getD 0 - 128) * u) (u * 128) := by
  simp only [gvGo]; rw [if_pos h, if_pos hd]
theorem gvGo_bad (f : Nat) (zs : List Int) (k : Nat) (n u : Int) (h : k < zs.length) (hd : zs[k]?.getD 0 < 128) (hb : 1099511627775 < n + zs[k]?.getD 0 * u ∨ (zs[k]?.getD 0 = 0 ∧ 1 < u)) : gvGo (f + 1) zs k n u = (0, -1) := by
  simp only [gvGo]; rw [if_pos h, if_neg (by omega), if_pos hb]
theorem gvGo_good (f : Nat) (zs : List Int) (k : Nat) (n u : Int) (h : k < zs.length) (hd : zs[k]?.getD 0 < 128) (hb : ¬ (1099511627775 < n + zs[k]?.getD 0 * u ∨ (zs[k]?.getD 0 = 0 ∧ 1 < u))) : gvGo (f + 1) zs k n u = (n + zs[k]?.getD 0 * u, (k : Int) + 1) := by
  simp only [gvGo]; rw [if_pos h, if_neg (by omega), if_neg hb]

/-- How many bytes a code has. -/
theorem encF_length_eq : ∀ (j f : Nat) (n : Int), 0 ≤ n → j ≤ f → ((encF f n).length = j + 1 ↔ ((j = 0 ∨ bnd (j - 1) ≤ n) ∧ (n < bnd j ∨ j = f))) := by
  intro j
  induction j with
  | zero =>
    intro f n h0 hj
    cases f with
    | zero => simp [encF]
    | succ f =>
      by_cases h : 128 ≤ n
      · rw [encF_big f n h]
        have := encF_len f (n / 128)
        have hb : bnd 0 = 128 := rfl
        simp only [List.length_cons]
        omega
      · rw [encF_small _ n (by omega)]
        simp [bnd]; omega
  | succ j ih =>
    intro f n h0 hj
    cases f with
    | zero => omega
    | succ f =>
      by_cases h : 128 ≤ n
      · rw [encF_big f n h]
        have e := ih f (n / 128) (by omega) (by omega)
        simp only [List.length_cons, Nat.add_right_cancel_iff] at e ⊢
        rw [e]
        cases j with
        | zero => simp [bnd]; omega
        | succ j =>
          simp only [bnd, Nat.add_sub_cancel]
          omega
      · rw [encF_small _ n (by omega)]
        have := bnd_pos j
        simp; omega

end Go.Proofs.Ytjbamfgfgbmieaa
/-
  The draws of the laws' inputs, as far as the laws turn on them: each ends, touches nothing but its own cursor, and answers within bounds.
-/
namespace Go.Proofs.Ytjbamfgfgbmieaa
open Go.RowKit

/-- Block g is a cursor over some bytes. -/
def Cu (w : World) (g : Nat) : Prop :=
  ∃ a n c zs i h, w.cell? ⟨g, 0, none⟩ = some (.slice a n c) ∧ w.cell? ⟨g, 1, none⟩ = some (.int .i64 (i : Nat)) ∧ w.cell? ⟨g, 2, none⟩ = some (.int .i64 h) ∧
    w.frozen? ⟨g, 1, none⟩ = false ∧ w.frozen? ⟨g, 2, none⟩ = false ∧ Rd w a n c zs ∧ n ≤ 1048576 ∧ (∀ x, a = some x → 0 < n → x.block < g) ∧ i ≤ n
theorem and255 (x : Int) : 0 ≤ bits .and .i64 x 255 ∧ bits .and .i64 x 255 ≤ 255 := by
  have h : ((BitVec.ofInt 64 x) &&& (BitVec.ofInt 64 255)).toNat ≤ 255 := by
    rw [BitVec.toNat_and]
    exact Nat.le_trans Nat.and_le_right (by decide)
  have e : bits .and .i64 x 255 = IntKind.i64.wrap (((BitVec.ofInt 64 x) &&& (BitVec.ofInt 64 255)).toNat : Int) := rfl
  rw [e]
  generalize ((BitVec.ofInt 64 x) &&& (BitVec.ofInt 64 255)).toNat = m at h
  have : IntKind.i64.wrap (m : Int) = m := by simp [IntKind.wrap, IntKind.signed, IntKind.bits]; omega
  omega
theorem Cu.lt {w : World} {g : Nat} (h : Cu w g) : g < w.heap.size := by
  obtain ⟨a, n, c, zs, i, h, c0, _⟩ := h
  exact block_lt c0
/-- A cursor keeps in a world that has kept its block and all that lies below. -/
theorem Cu.kept {w w' : World} {g : Nat} {row : Option Nat} (h : Cu w g) (hg : w.grownBy w' row) (hr : ∀ k, row = some k → g < k) : Cu w' g := by
  have hlt := h.lt
  obtain ⟨a, n, c, zs, i, h, c0, c1, c2, f1, f2, hrd, hn, hag, hin⟩ := h
  have hne : some g ≠ row := fun e => by have := hr g e.symm; omega
  have hb := hg.block g hlt hne
  refine ⟨a, n, c, zs, i, h, ?_, ?_, ?_, ?_, ?_, ?_, hn, hag, hin⟩
  · rw [World.cell?_of_block (w := w) (a := ⟨g, 0, none⟩) hb]; exact c0
  · rw [World.cell?_of_block (w := w) (a := ⟨g, 1, none⟩) hb]; exact c1
  · rw [World.cell?_of_block (w := w) (a := ⟨g, 2, none⟩) hb]; exact c2
  · rw [World.frozen?_of_block (w := w) (a := ⟨g, 1, none⟩) hb]; exact f1
  · rw [World.frozen?_of_block (w := w) (a := ⟨g, 2, none⟩) hb]; exact f2
  · obtain ⟨h1, h2, h3, h30, h4, h5⟩ := hrd
    refine ⟨h1, h2, h3, h30, h4, fun hp => ?_⟩
    obtain ⟨b, off, rfl, hb, hc⟩ := h5 hp
    refine ⟨b, off, rfl, Nat.lt_of_lt_of_le hb hg.size, fun i hi => ?_⟩
    rw [World.cell?_of_block (w := w) (a := ⟨b, off + i, none⟩) (hg.block b hb (fun e => by have := hr b e.symm; have := hag _ rfl hp; simp at this; omega))]
    exact hc i hi
theorem grownBy_same (w : World) (row : Option Nat) : w.grownBy w row := ⟨rfl, rfl, rfl, Nat.le_refl _, fun _ _ _ => rfl⟩
theorem grownBy_set {w w' : World} {b : Nat} (h : w.grownBy w' (some b)) (o : Nat) (v : Value) : w.grownBy (w'.setCell ⟨b, o, none⟩ v) (some b) :=
  ⟨h.os, h.tape, h.output, by simp [World.setCell]; exact h.size, fun k hk hne => by rw [Below.heap_setCell _ _ _ _ (fun e => hne (by rw [e]))]; exact h.block k hk hne⟩
theorem grownBy_drewN {w w' : World} {row : Option Nat} (h : w.grownBy w' row) (q : Nat) : w.grownBy (w'.drewN q) row := ⟨h.os, h.tape, h.output, h.size, h.block⟩
theorem grownBy_trans {w w1 w2 : World} {row : Option Nat} (h : w.grownBy w1 row) (h2 : w1.grownBy w2 row) : w.grownBy w2 row :=
  ⟨h2.os.trans h.os, h2.tape.trans h.tape, h2.output.trans h.output, Nat.le_trans h.size h2.size, fun k hk hne => (h2.block k (Nat.lt_of_lt_of_le hk h.size) hne).trans (h.block k hk hne)⟩
/-- The numbers of a cursor may change. -/
theorem cu_set {w : World} {g n c i i' : Nat} {a : Option Addr} {zs : List Int} {h h' : Int} (c0 : w.cell? ⟨g, 0, none⟩ = some (.slice a n c)) (c1 : w.cell? ⟨g, 1, none⟩ = some (.int .i64 (i : Nat))) (c2 : w.cell? ⟨g, 2, none⟩ = some (.int .i64 h))
    (f1 : w.frozen? ⟨g, 1, none⟩ = false) (f2 : w.frozen? ⟨g, 2, none⟩ = false) (hr : Rd w a n c zs) (hn : n ≤ 1048576) (hag : ∀ x, a = some x → 0 < n → x.block < g) (hin : i ≤ n) (o : Nat) (v : Value)
    (hv : (o = 1 ∧ v = .int .i64 (i' : Nat) ∧ i' ≤ n) ∨ (o = 2 ∧ v = .int .i64 h')) : Cu (w.setCell ⟨g, o, none⟩ v) g := by
  have hrd : Rd (w.setCell ⟨g, o, none⟩ v) a n c zs := by
    obtain ⟨h1, h2, h3, h30, h4, h5⟩ := hr
    refine ⟨h1, h2, h3, h30, h4, fun hp => ?_⟩
    obtain ⟨b, off, rfl, hb, hc⟩ := h5 hp
    have := hag _ rfl hp
    simp at this
    refine ⟨b, off, rfl, by simpa [World.setCell] using hb, fun i hi => ?_⟩
    rw [World.cell?_setCell_other (h := by simp only [ne_eq, Addr.mk.injEq, not_and]; intro h; omega)]
    exact hc i hi
  rcases hv with ⟨rfl, rfl, hi'⟩ | ⟨rfl, rfl⟩
  · refine ⟨a, n, c, zs, i', h, ?_, World.cell?_setCell_same _ _ _ c1, ?_, by simp [f1], by simp [f2], hrd, hn, hag, hi'⟩
    · rw [World.cell?_setCell_other (h := by simp)]; exact c0
    · rw [World.cell?_setCell_other (h := by simp)]; exact c2
  · refine ⟨a, n, c, zs, i, h', ?_, ?_, World.cell?_setCell_same _ _ _ c2, by simp [f1], by simp [f2], hrd, hn, hag, hin⟩
    · rw [World.cell?_setCell_other (h := by simp)]; exact c0
    · rw [World.cell?_setCell_other (h := by simp)]; exact c1
theorem grownBy_alloc (w : World) (o : Obj) (row : Option Nat) : w.grownBy (w.alloc o) row :=
  ⟨rfl, rfl, rfl, by simp, fun k hk _ => heap_alloc_old w o hk⟩
theorem Cu.alloc {w : World} {g : Nat} (h : Cu w g) (o : Obj) : Cu (w.alloc o) g := h.kept (grownBy_alloc w o none) (fun k e => by cases e)
theorem row_kept {w w' : World} {g b k : Nat} (h : w.grownBy w' (some g)) (hb : b < w.heap.size) (hne : b ≠ g) : w'.cell? ⟨b, k, none⟩ = w.cell? ⟨b, k, none⟩ :=
  World.cell?_of_block (w := w) (a := ⟨b, k, none⟩) (h.block b hb (fun e => hne (by cases e; rfl)))
theorem below_of_grown {w w' : World} {g : Nat} (h : w.grownBy w' (some g)) (hg : g < w.heap.size) : Below g w w' :=
  ⟨h.os, h.tape, h.output, h.size, fun k hk => h.block k (by omega) (fun e => by cases e; omega)⟩
theorem Cu.drewN {w : World} {g : Nat} (h : Cu w g) (q : Nat) : Cu (w.drewN q) g := h

set_option maxHeartbeats 800000 in
theorem byte_any (g : Nat) (w : World) (h : Cu w g) :
    Calls Try.prog 61 #[.pointer (some ⟨g, 0, none⟩)] w fun e w' => (∃ x : Int, e = .returned (.int .i64 x) ∧ 0 ≤ x ∧ x ≤ 255) ∧ w.grownBy w' (some g) ∧ Cu w' g := by
  obtain ⟨a, n, c, zs, i, h, c0, c1, c2, f1, f2, hr, hn, hag, hin⟩ := h
  have HS := hid (fun h' => cu_set (i' := 0) (h' := h') c0 c1 c2 f1 f2 hr hn hag hin 2 _ (.inr ⟨rfl, rfl⟩))
  have HR := hid hr
  have HA := hid hag
  clear hr hag
  have HF : Hid (∀ h' : Int, w.grownBy (w.setCell ⟨g, 2, none⟩ (.int .i64 h')) (some g)) := fun h' => grownBy_set (grownBy_same w (some g)) 2 _
  by_cases hlt : i < n
  · have hlt' : (i : Int) < (n : Int) := by omega
    obtain ⟨b, off, ha, hbw, hcell⟩ := HR.out.2.2.2.2.2 (by omega)
    have hci := hcell i hlt
    have hb0 := (HR.out.2.2.2.2.1 i).1
    have hb1 := (HR.out.2.2.2.2.1 i).2
    have hbg : b < g := HA.out _ ha (by omega)
    clear hcell
    subst ha
    go_enter Try.func61, Try.ntmps61
    go_wp2
    generalize wrap64 (wrap64 (h * 6364136223846793005) + 1442695040888963407) = h2
    have d0 : (w.setCell ⟨g, 2, none⟩ (.int .i64 h2)).cell? ⟨g, 0, none⟩ = some (.slice (some ⟨b, off, none⟩) n c) := by rw [World.cell?_setCell_other (h := by simp)]; exact c0
    have d1 : (w.setCell ⟨g, 2, none⟩ (.int .i64 h2)).cell? ⟨g, 1, none⟩ = some (.int .i64 (i : Int)) := by rw [World.cell?_setCell_other (h := by simp)]; exact c1
    have d2 : (w.setCell ⟨g, 2, none⟩ (.int .i64 h2)).cell? ⟨g, 2, none⟩ = some (.int .i64 h2) := World.cell?_setCell_same _ _ _ c2
    have di : (w.setCell ⟨g, 2, none⟩ (.int .i64 h2)).cell? ⟨b, off + i, none⟩ = some (.int .u8 (zs[i]?.getD 0)) := by rw [World.cell?_setCell_other (h := by simp only [ne_eq, Addr.mk.injEq, not_and]; intro h; omega)]; exact hci
    have e1 : (w.setCell ⟨g, 2, none⟩ (.int .i64 h2)).frozen? ⟨g, 1, none⟩ = false := by simpa using f1
    have HS2 := hid (HS.out h2)
    have HF2 := hid (HF.out h2)
    generalize w.setCell ⟨g, 2, none⟩ (.int .i64 h2) = w1 at d0 d1 d2 di e1 HS2 HF2
    have HC : Hid (Cu (w1.setCell ⟨g, 1, none⟩ (.int .i64 ((i : Int) + 1))) g) := by
      obtain ⟨a', n', c', zs', i', h', c0', c1', c2', f1', f2', hr', hn', hag', hin'⟩ := HS2.out
      rw [d0] at c0'
      cases c0'
      exact cu_set (i' := i + 1) (h' := 0) d0 d1 c2' f1' f2' hr' hn' hag' hin 1 _ (.inl ⟨rfl, by simp, by omega⟩)
    have HF3 : Hid (w.grownBy (w1.setCell ⟨g, 1, none⟩ (.int .i64 ((i : Int) + 1))) (some g)) := grownBy_set HF2.out 1 _
    clear c0 c1 c2 hci f1 f2
    go_quiet (fail)
    go_wp2
    generalize hy : bits .and .i64 _ 255 = y
    have hy0 : 0 ≤ y := by rw [← hy]; exact (and255 _).1
    have hy1 : y ≤ 255 := by rw [← hy]; exact (and255 _).2
    clear hy
    go_quiet (fail)
    go_wp2
    go_quiet (fail)
    go_wp2
    go_ret
    exact ⟨⟨_, rfl, (and255 _).1, (and255 _).2⟩, grownBy_set (grownBy_drewN HF2.out _) 1 _, HC.out.drewN _⟩
  · have hlt' : ¬ (i : Int) < (n : Int) := by omega
    go_enter Try.func61, Try.ntmps61
    go_wp2
    go_quiet (fail)
    go_wp2
    go_quiet (fail)
    go_wp2
    go_ret
    refine ⟨⟨_, rfl, (and255 _).1, (and255 _).2⟩, grownBy_drewN (grownBy_drewN ?_ _) _, Cu.drewN (Cu.drewN ?_ _) _⟩
    · exact HF.out _
    · exact HS.out _

set_option maxHeartbeats 800000 in
theorem below_any (g : Nat) (m : Int) (w : World) (h : Cu w g) (hm1 : 1 ≤ m) (hm2 : m ≤ 1048576) :
    Calls Try.prog 32 #[.pointer (some ⟨g, 0, none⟩), .int .i64 m] w fun e w' => (∃ x : Int, e = .returned (.int .i64 x) ∧ 0 ≤ x ∧ x < m) ∧ w.grownBy w' (some g) ∧ Cu w' g := by
  have HC := hid h
  clear h
  by_cases hs : m ≤ 256
  · go_enter Try.func32, Try.ntmps32
    go_wp2_with fail
    refine (byte_any g w HC.out).mono ?_
    rintro e w1 ⟨⟨x, rfl, hx0, hx1⟩, hg1, hc1⟩
    have HG := hid hg1
    have HC1 := hid hc1
    clear hg1 hc1
    go_wp2
    go_ret
    refine ⟨⟨_, rfl, ?_, ?_⟩, HG.out, HC1.out⟩
    · exact Int.emod_nonneg _ (by omega)
    · exact Int.emod_lt_of_pos _ (by omega)
  · go_enter Try.func32, Try.ntmps32
    go_wp2_with fail
    refine (byte_any g w HC.out).mono ?_
    rintro e w1 ⟨⟨x, rfl, hx0, hx1⟩, hg1, hc1⟩
    have HG1 := hid hg1
    have HC1 := hid hc1
    clear hg1 hc1
    go_wp2_with fail
    refine (byte_any g w1 HC1.out).mono ?_
    rintro e w2 ⟨⟨y, rfl, hy0, hy1⟩, hg1, hc1⟩
    have HG2 := hid (grownBy_trans HG1.out hg1)
    have HC2 := hid hc1
    clear hg1 hc1
    go_wp2_with fail
    refine (byte_any g w2 HC2.out).mono ?_
    rintro e w3 ⟨⟨z, rfl, hz0, hz1⟩, hg1, hc1⟩
    have HG3 := hid (grownBy_trans HG2.out hg1)
    have HC3 := hid hc1
    clear hg1 hc1
    go_wp2_with fail
    refine (byte_any g w3 HC3.out).mono ?_
    rintro e w4 ⟨⟨u, rfl, hu0, hu1⟩, hg1, hc1⟩
    have HG4 := hid (grownBy_trans HG3.out hg1)
    have HC4 := hid hc1
    clear hg1 hc1
    go_wp2
    go_ret
    refine ⟨⟨_, rfl, ?_, ?_⟩, HG4.out, HC4.out⟩
    · exact Int.emod_nonneg _ (by omega)
    · exact Int.emod_lt_of_pos _ (by omega)

set_option maxHeartbeats 1600000 in
theorem raw_any (g : Nat) (w : World) (h : Cu w g) :
    Calls Try.prog 62 #[.pointer (some ⟨g, 0, none⟩)] w fun e w' => (∃ x : Int, e = .returned (.int .i64 x) ∧ -9223372036854775808 ≤ x ∧ x ≤ 9223372036854775807) ∧ w.grownBy w' (some g) := by
  have HC := hid h
  clear h
  go_enter Try.func62, Try.ntmps62
  go_wp2_with fail
  refine (below_any g 10 w HC.out (by omega) (by omega)).mono ?_
  rintro e w1 ⟨⟨k, rfl, hk0, hk1⟩, hg1, hc1⟩
  have HG1 := hid hg1
  have HC1 := hid hc1
  clear hg1 hc1
  rcases (by omega : k < 4 ∨ k = 4 ∨ k = 5 ∨ k = 6 ∨ k = 7 ∨ k = 8 ∨ k = 9) with h | rfl | rfl | rfl | rfl | rfl | rfl
  · go_wp2_with fail
    refine (below_any g 20 w1 HC1.out (by omega) (by omega)).mono ?_
    rintro e w2 ⟨⟨x, rfl, hx0, hx1⟩, hg1, hc1⟩
    have HG2 := hid (grownBy_trans HG1.out hg1)
    clear hg1 hc1
    go_wp2
    go_ret
    exact ⟨⟨_, rfl, by omega, by omega⟩, HG2.out⟩
  · go_wp2_with fail
    refine (below_any g 3 w1 HC1.out (by omega) (by omega)).mono ?_
    rintro e w2 ⟨⟨x, rfl, hx0, hx1⟩, hg1, hc1⟩
    have HG2 := hid (grownBy_trans HG1.out hg1)
    clear hg1 hc1
    go_wp2
    go_ret
    exact ⟨⟨_, rfl, by omega, by omega⟩, HG2.out⟩
  · go_wp2_with fail
    refine (below_any g 2 w1 HC1.out (by omega) (by omega)).mono ?_
    rintro e w2 ⟨⟨x, rfl, hx0, hx1⟩, hg1, hc1⟩
    have HG2 := hid (grownBy_trans HG1.out hg1)
    clear hg1 hc1
    go_wp2
    go_ret
    exact ⟨⟨_, rfl, by omega, by omega⟩, HG2.out⟩
  · go_wp2_with fail
    refine (below_any g 2 w1 HC1.out (by omega) (by omega)).mono ?_
    rintro e w2 ⟨⟨x, rfl, hx0, hx1⟩, hg1, hc1⟩
    have HG2 := hid (grownBy_trans HG1.out hg1)
    clear hg1 hc1
    go_wp2
    go_ret
    exact ⟨⟨_, rfl, by omega, by omega⟩, HG2.out⟩
  · go_wp2_with fail
    refine (below_any g 2 w1 HC1.out (by omega) (by omega)).mono ?_
    rintro e w2 ⟨⟨x, rfl, hx0, hx1⟩, hg1, hc1⟩
    have HG2 := hid (grownBy_trans HG1.out hg1)
    clear hg1 hc1
    go_wp2
    go_ret
    exact ⟨⟨_, rfl, by omega, by omega⟩, HG2.out⟩
  · go_wp2_with fail
    have hgl : w1.grownBy (w1.alloc (.cells #[.int .i64 127, .int .i64 128, .int .i64 16383, .int .i64 16384, .int .i64 255, .int .i64 256, .int .i64 4096, .int .i64 4097] 3)) (some g) := grownBy_alloc w1 _ _
    have HGL := hid hgl
    clear hgl
    refine (below_any g 8 _ (HC1.out.alloc _) (by omega) (by omega)).mono ?_
    rintro e w2 ⟨⟨x, rfl, hx0, hx1⟩, hg1, hc1⟩
    have HG2 := hid (grownBy_trans (grownBy_trans HG1.out HGL.out) hg1)
    have hcl := fun k => row_kept (b := w1.heap.size) (k := k) hg1 (by simp) (by have := HC1.out.lt; omega)
    clear hg1 hc1
    rcases (by omega : x = 0 ∨ x = 1 ∨ x = 2 ∨ x = 3 ∨ x = 4 ∨ x = 5 ∨ x = 6 ∨ x = 7) with rfl | rfl | rfl | rfl | rfl | rfl | rfl | rfl
    · have hc := (hcl 0).trans (by rw [World.cell?_alloc_at (hn := rfl)])
      clear hcl
      go_wp2
      go_ret
      exact ⟨⟨_, rfl, by omega, by omega⟩, HG2.out⟩
    · have hc := (hcl 1).trans (by rw [World.cell?_alloc_at (hn := rfl)])
      clear hcl
      go_wp2
      go_ret
      exact ⟨⟨_, rfl, by omega, by omega⟩, HG2.out⟩
    · have hc := (hcl 2).trans (by rw [World.cell?_alloc_at (hn := rfl)])
      clear hcl
      go_wp2
      go_ret
      exact ⟨⟨_, rfl, by omega, by omega⟩, HG2.out⟩
    · have hc := (hcl 3).trans (by rw [World.cell?_alloc_at (hn := rfl)])
      clear hcl
      go_wp2
      go_ret
      exact ⟨⟨_, rfl, by omega, by omega⟩, HG2.out⟩
    · have hc := (hcl 4).trans (by rw [World.cell?_alloc_at (hn := rfl)])
      clear hcl
      go_wp2
      go_ret
      exact ⟨⟨_, rfl, by omega, by omega⟩, HG2.out⟩
    · have hc := (hcl 5).trans (by rw [World.cell?_alloc_at (hn := rfl)])
      clear hcl
      go_wp2
      go_ret
      exact ⟨⟨_, rfl, by omega, by omega⟩, HG2.out⟩
    · have hc := (hcl 6).trans (by rw [World.cell?_alloc_at (hn := rfl)])
      clear hcl
      go_wp2
      go_ret
      exact ⟨⟨_, rfl, by omega, by omega⟩, HG2.out⟩
    · have hc := (hcl 7).trans (by rw [World.cell?_alloc_at (hn := rfl)])
      clear hcl
      go_wp2
      go_ret
      exact ⟨⟨_, rfl, by omega, by omega⟩, HG2.out⟩
  · go_wp2_with fail
    refine (below_any g 65536 w1 HC1.out (by omega) (by omega)).mono ?_
    rintro e w2 ⟨⟨x, rfl, hx0, hx1⟩, hg1, hc1⟩
    have HG2 := hid (grownBy_trans HG1.out hg1)
    clear hg1 hc1
    go_wp2
    go_ret
    exact ⟨⟨_, rfl, by omega, by omega⟩, HG2.out⟩

/-- A row keeps where another block is touched. -/
theorem Ob.kept {w w' : World} {B g : Nat} {v : Value} {zs : List Int} (h : Ob w B v zs) (hg : w.grownBy w' (some g)) (hB : g < B) : Ob w' B v zs := by
  have hlt := fun k hk => World.ownsRow.lt h k hk
  obtain ⟨h1, h2⟩ := h
  refine ⟨h1, ?_⟩
  rcases h2 with h | ⟨k, cap, cur, rfl, hbg, hk, hr⟩
  · exact .inl h
  · refine .inr ⟨k, cap, cur, rfl, hbg, ?_, hr⟩
    have := (hlt k rfl).2
    rw [hg.block k this (fun e => by cases e; omega)]
    exact hk
/-- What append onto a new row leaves of what was there. -/
theorem grown_append {w w1 w2 : World} {g : Nat} {v : Value} {zs : List Int} (h : w.grownBy w1 (some g)) (ho : Ob w1 w.heap.size v zs) (h2 : w1.grownBy w2 v.ownBlock) : w.grownBy w2 (some g) := by
  refine ⟨h2.os.trans h.os, h2.tape.trans h.tape, h2.output.trans h.output, Nat.le_trans h.size h2.size, fun k hk hne => ?_⟩
  rw [h2.block k (Nat.lt_of_lt_of_le hk h.size) (fun e => by have := (World.ownsRow.lt ho k e.symm).1; omega)]
  exact h.block k hk hne

theorem new_any (a : Option Addr) (n c : Nat) (zs : List Int) (w : World) (h : Rd w a n c zs) (hl : n ≤ 1048576) :
    Calls Try.prog 29 #[.slice a n c] w fun e w' => e = .returned (.pointer (some ⟨w.heap.size, 0, none⟩)) ∧ Below w.heap.size w w' ∧ Cu w' w.heap.size := by
  have HR := hid h
  obtain ⟨hn0, hc, hm, hnm, hb, hcell⟩ := h
  have HN := hid hn0
  clear hn0
  go_enter Try.func29, Try.ntmps29
  go_wp2
  go_loop [3, 4] (fun s i => ∃ (k : Nat) (x : Int), i = .int .i64 k ∧ k ≤ n ∧ s = .int .i64 x) (fun _ i => n - (intOf i).toNat)
  case atStart => exact ⟨0, _, rfl, Nat.zero_le _, rfl⟩
  case round =>
    obtain ⟨k, x, rfl, hk, rfl⟩ := hrel
    by_cases hkn : k < n ∧ k < 4000
    · obtain ⟨hkn, hk4⟩ := hkn
      have hkn' : (k : Int) < (n : Int) := by omega
      have hk4' : (k : Int) < 4000 := by omega
      obtain ⟨b, off, ha, hbw, hcell⟩ := hcell (by omega)
      have hck := hcell k hkn
      have hb0 := (hb k).1
      have hb1 := (hb k).2
      clear hcell hb
      rw [ha]
      go_wp2
      go_round
      case rel => exact ⟨k + 1, _, by go_num, by omega, rfl⟩
      case measure => simp [intOf]; omega
    · have HC : Hid (Cu (w.alloc (.cells #[.slice a n c, .int .i64 0, .int .i64 x] 96)) w.heap.size) := by
        refine ⟨a, n, c, zs, 0, x, ?_, ?_, ?_, World.frozen?_alloc_at (hn := rfl) .., World.frozen?_alloc_at (hn := rfl) .., HR.out.kept ((Below.refl _ _).alloc (Nat.le_refl _) _), hl, HR.out.lt, Nat.zero_le _⟩
        · rw [World.cell?_alloc_at (hn := rfl)]; rfl
        · rw [World.cell?_alloc_at (hn := rfl)]; rfl
        · rw [World.cell?_alloc_at (hn := rfl)]; rfl
      have HB : Hid (Below w.heap.size w (w.alloc (.cells #[.slice a n c, .int .i64 0, .int .i64 x] 96))) := (Below.refl _ _).alloc (Nat.le_refl _) _
      clear hcell hb
      rcases (by omega : ¬ (k : Int) < (n : Int) ∨ ((k : Int) < (n : Int) ∧ ¬ (k : Int) < 4000)) with h1 | ⟨h1, h2⟩
      all_goals
        clear hkn
        go_wp2
        go_ret
        exact ⟨rfl, HB.out, HC.out⟩
end Go.Proofs.Ytjbamfgfgbmieaa
/-
  'string(b)' of a slice of bytes that is read.
-/
namespace Go.Proofs.Ytjbamfgfgbmieaa
open Go.RowKit

/-- The string of these bytes. -/
def strOf (zs : List Int) : ByteArray := ⟨(zs.map fun z => UInt8.ofNat z.toNat).toArray⟩
theorem foldl_push (zs : List Int) : ∀ s : ByteArray, zs.foldl (fun r n => r.push (UInt8.ofNat n.toNat)) s = ⟨(s.data.toList ++ zs.map fun z => UInt8.ofNat z.toNat).toArray⟩ := by
  induction zs with
  | nil => intro s; simp
  | cons z zs ih =>
    intro s
    rw [List.foldl_cons, ih]
    simp [ByteArray.push]
theorem strOf_foldl (zs : List Int) : zs.foldl (fun r n => r.push (UInt8.ofNat n.toNat)) ByteArray.empty = strOf zs := by
  rw [foldl_push]
  simp only [strOf]
  rfl

/-- 'string(b)'. -/
theorem run_str {w : World} {a : Option Addr} {n c : Nat} {zs : List Int} (h : Rd w a n c zs) : (convert 22 9 (.slice a n c)).run Try.prog w = .ok (.string (strOf zs)) w := by
  rw [run_convert_bytes_string w _ _ _ a n c Try.underlying22 Try.underlying5 Try.underlying9]
  obtain ⟨h1, h2, h3, h30, h4, h5⟩ := h
  cases a with
  | none =>
    have hm : n = 0 := by
      rcases Nat.eq_zero_or_pos n with h | h
      · exact h
      · obtain ⟨b, off, e, _⟩ := h5 h
        cases e
    have hz : zs = [] := List.eq_nil_of_length_eq_zero (by omega)
    subst hz
    rfl
  | some x =>
    rw [run_bytesToString w x n c zs, strOf_foldl]
    have hl := run_firstCells_some (P := Try.prog) w 1 n x n c (zs.map (Value.int .u8)) (by simp [h1]) (by
        intro j u hu
        have hj : j < zs.length := by
          have := (List.getElem?_eq_some_iff.1 hu).1
          simpa using this
        obtain ⟨b, off, e, _, hc⟩ := h5 (by omega)
        cases e
        have := hc j (by omega)
        rw [Addr.add_lit, this]
        simp [hj] at hu
        simp [hj, hu])
    simpa [Builtin.firstCells] using hl
end Go.Proofs.Ytjbamfgfgbmieaa
/-
  The decimal texts of the draws: some strings that are not long.
-/
namespace Go.Proofs.Ytjbamfgfgbmieaa
open Go.RowKit
theorem below_allocN (w : World) (o : Obj) : Below w.heap.size w (w.alloc o) := (Below.refl _ _).alloc (Nat.le_refl _) o
theorem grown_of_below {w w' : World} (h : Below w.heap.size w w') (row : Option Nat) : w.grownBy w' row := ⟨h.os, h.tape, h.output, h.size, fun k hk _ => h.block k hk⟩
theorem Cu.below {w w' : World} {g : Nat} (h : Cu w g) (hb : Below w.heap.size w w') : Cu w' g := h.kept (grown_of_below hb none) (fun k e => by cases e)
theorem strOf_size (o : List Int) : (strOf o).size = o.length := by
  show (strOf o).data.size = o.length
  simp [strOf]
theorem rd_lit (w : World) (z : Int) (h0 : 0 ≤ z) (h1 : z ≤ 255) : Rd (w.alloc (.cells #[.int .u8 z] 5)) (some ⟨w.heap.size, 0, none⟩) 1 1 [z] := by
  have := rd_new w [z] (by simp) (fun i => by cases i <;> simp <;> omega)
  simpa [byteVals] using this
theorem thn2 {u v v' : World} (h : Below u.heap.size u v) (k : Below v.heap.size v v') : Below u.heap.size u v' := h.trans (k.mono h.size)
theorem specNumD_any (m : Int) (w : World) (h0 : 0 ≤ m) (h1 : m ≤ 100000) : Calls Try.prog 99 #[.int .i64 m] w fun e w' => e = .returned (.bool true) ∧ w = w' := by
  go_enter Try.func99, Try.ntmps99
  go_wp2
  go_ret
  exact ⟨by rw [show decide (m ≤ 1099511627775) = true from decide_eq_true (by omega)]; rfl, rfl⟩
set_option maxHeartbeats 2000000 in
theorem numText1 (m : Int) (w : World) (h0 : 0 ≤ m) (h1 : m < 10) : Calls Try.prog 92 #[.int .i64 m] w fun e w' => (∃ s : ByteArray, e = .returned (.string s) ∧ s.size ≤ 2) ∧ Below w.heap.size w w' := by
  have hst := run_str (rd_lit w (48 + m) (by omega) (by omega))
  have hss := strOf_size [48 + m]
  generalize strOf [48 + m] = s at hst hss
  go_enter Try.func92, Try.ntmps92
  go_wp2_with fail
  refine (specNumD_any m _ h0 (by omega)).mono ?_
  rintro e w1 ⟨rfl, rfl⟩
  go_wp2
  go_ret
  exact ⟨⟨_, rfl, by simp at hss; omega⟩, below_new (Below.refl _ _)⟩
set_option maxHeartbeats 2000000 in
set_option maxRecDepth 100000 in
theorem numStep (m : Int) (w : World) (c : Nat) (hc : c ≤ 100) (h0' : 10 ≤ m) (h1 : m < 100000) (HQ0 : Hid (∀ w, Calls Try.prog 92 #[.int .i64 (m.tdiv 10)] w fun e w' => (∃ s : ByteArray, e = .returned (.string s) ∧ s.size ≤ c) ∧ Below w.heap.size w w')) : Calls Try.prog 92 #[.int .i64 m] w fun e w' => (∃ s : ByteArray, e = .returned (.string s) ∧ s.size ≤ c + 1) ∧ Below w.heap.size w w' := by
  have h0 : 0 ≤ m := by omega
  have h2 : ¬ m < 10 := by omega
  go_enter Try.func92, Try.ntmps92
  go_wp2_with fail
  refine (specNumD_any m _ h0 (by omega)).mono ?_
  rintro e w1 ⟨rfl, rfl⟩
  obtain ⟨q, hq, hq0, hq1⟩ : ∃ q : Int, m.tdiv 10 = q ∧ 0 ≤ q ∧ q < 10000 := ⟨_, rfl, Int.tdiv_nonneg h0 (by omega), by have := Int.tdiv_eq_ediv_of_nonneg (b := 10) h0; omega⟩
  obtain ⟨z, hz, hz0, hz1⟩ : ∃ z : Int, m.tmod 10 = z ∧ 0 ≤ z ∧ z < 10 := ⟨_, rfl, Int.tmod_nonneg _ h0, by have := Int.tmod_eq_emod_of_nonneg (b := 10) h0; omega⟩
  have hwq : IntKind.i64.wrap q = q := by simp [IntKind.wrap, IntKind.signed, IntKind.bits]; omega
  have hwz : IntKind.i64.wrap (48 + z) = 48 + z := by simp [IntKind.wrap, IntKind.signed, IntKind.bits]; omega
  have hw8 : IntKind.u8.wrap (48 + z) = 48 + z := by simp [IntKind.wrap, IntKind.signed, IntKind.bits]; omega
  have hts : (strOf [48 + z]).size = 1 := strOf_size [48 + z]
  have hst : ∀ W : World, (convert 22 9 (.slice (some ⟨W.heap.size, 0, none⟩) 1 1)).run Try.prog (W.alloc (.cells #[.int .u8 (48 + z)] 5)) = .ok (.string (strOf [48 + z])) (W.alloc (.cells #[.int .u8 (48 + z)] 5)) := fun W => run_str (rd_lit W (48 + z) (by omega) (by omega))
  have HK : Hid (∀ W W' : World, Below (W.alloc (.cells #[.int .u8 (48 + z)] 5)).heap.size (W.alloc (.cells #[.int .u8 (48 + z)] 5)) W' → (convert 22 9 (.slice (some ⟨W.heap.size, 0, none⟩) 1 1)).run Try.prog W' = .ok (.string (strOf [48 + z])) W') := fun W W' hb => run_str ((rd_lit W (48 + z) (by omega) (by omega)).kept hb)
  have hst3 : (convert 22 9 (.slice (some ⟨w.heap.size, 0, none⟩) 1 1)).run Try.prog (w.alloc (.cells #[.int .u8 (48 + z)] 5)).drew = .ok (.string (strOf [48 + z])) (w.alloc (.cells #[.int .u8 (48 + z)] 5)).drew := hst w.drew
  have HQ : Hid (∀ w, Calls Try.prog 92 #[.int .i64 q] w fun e w' => (∃ s : ByteArray, e = .returned (.string s) ∧ s.size ≤ c) ∧ Below w.heap.size w w') := hq ▸ HQ0.out
  clear HQ0
  generalize strOf [48 + z] = t at *
  go_wp2_with fail
  refine wp_region_noPanic ?_
  refine wp_region_held_drew (S := fun v => Below w.heap.size w v) (by kernel_rfl) ?_ (fun hHeld => ?_)
  · exact below_drew _
  simp only [List.size_toArray, List.length_cons, List.length_nil, Array.replicate_succ, Array.replicate_zero, Nat.reduceAdd, List.push_toArray, List.nil_append, List.cons_append]
  refine wpAnyH_take (i := 0) (v := .int .i64 m) rfl (by kernel_rfl) (by kernel_rfl) (by kernel_rfl) (fun _ _ _ h => h) (Or.inl ⟨by rfl, ?_⟩) (by assumption) ?_
  · intro w hSw
    go_simp
  try simp only [List.getElem_toArray]
  try simp only [List.getElem_cons_succ]
  try simp only [List.getElem_cons_zero]
  try simp only [Act.put]
  try simp only [List.setIfInBounds_toArray]
  try simp only [List.set_cons_succ]
  try simp only [List.set_cons_zero]
  refine wpAnyH_take (i := 1) (v := .int .i64 q) rfl (by kernel_rfl) (by kernel_rfl) (by kernel_rfl) (fun _ _ _ h => h) (Or.inl ⟨by rfl, ?_⟩) (by assumption) ?_
  · intro w hSw
    go_simp
  try simp only [List.getElem_toArray]
  try simp only [List.getElem_cons_succ]
  try simp only [List.getElem_cons_zero]
  try simp only [Act.put]
  try simp only [List.setIfInBounds_toArray]
  try simp only [List.set_cons_succ]
  try simp only [List.set_cons_zero]
  refine wpAnyH_take (i := 3) (v := .int .i64 m) rfl (by kernel_rfl) (by kernel_rfl) (by kernel_rfl) (fun _ _ _ h => h) (Or.inl ⟨by rfl, ?_⟩) (by assumption) ?_
  · intro w hSw
    go_simp
  try simp only [List.getElem_toArray]
  try simp only [List.getElem_cons_succ]
  try simp only [List.getElem_cons_zero]
  try simp only [Act.put]
  try simp only [List.setIfInBounds_toArray]
  try simp only [List.set_cons_succ]
  try simp only [List.set_cons_zero]
  refine wpAnyH_take (i := 4) (v := .int .i64 z) rfl (by kernel_rfl) (by kernel_rfl) (by kernel_rfl) (fun _ _ _ h => h) (Or.inl ⟨by rfl, ?_⟩) (by assumption) ?_
  · intro w hSw
    go_simp
  try simp only [List.getElem_toArray]
  try simp only [List.getElem_cons_succ]
  try simp only [List.getElem_cons_zero]
  try simp only [Act.put]
  try simp only [List.setIfInBounds_toArray]
  try simp only [List.set_cons_succ]
  try simp only [List.set_cons_zero]
  refine wpAnyH_take (i := 5) (v := .int .i64 (48 + z)) rfl (by kernel_rfl) (by kernel_rfl) (by kernel_rfl) (fun _ _ _ h => h) (Or.inl ⟨by rfl, ?_⟩) (by assumption) ?_
  · intro w hSw
    go_simp
  try simp only [List.getElem_toArray]
  try simp only [List.getElem_cons_succ]
  try simp only [List.getElem_cons_zero]
  try simp only [Act.put]
  try simp only [List.setIfInBounds_toArray]
  try simp only [List.set_cons_succ]
  try simp only [List.set_cons_zero]
  refine wpAnyH_take (i := 6) (v := .int .u8 (48 + z)) rfl (by kernel_rfl) (by kernel_rfl) (by kernel_rfl) (fun _ _ _ h => h) (Or.inl ⟨by rfl, ?_⟩) (by assumption) ?_
  · intro w hSw
    go_simp
  try simp only [List.getElem_toArray]
  try simp only [List.getElem_cons_succ]
  try simp only [List.getElem_cons_zero]
  try simp only [Act.put]
  try simp only [List.setIfInBounds_toArray]
  try simp only [List.set_cons_succ]
  try simp only [List.set_cons_zero]
  refine wpAnyH_ready (rs := [2, 7]) (by kernel_rfl) (by simp) ?_
  refine AllReadyH.cons rfl (fun K1 hK => ?_) ?_
  · skip
    go_simp
    refine (HQ.out _).mono ?_
    rintro e w' ⟨⟨s, rfl, hs⟩, hbC⟩
    have hs100 : s.size ≤ 100 := by omega
    go_wp2_with fail
    refine hK.out _ _ ?_ (fun hHeld => ?_)
    · exact thn2 (by assumption) hbC
    clear hK K1
    try simp only [List.getElem_toArray]
    try simp only [List.getElem_cons_succ]
    try simp only [List.getElem_cons_zero]
    try simp only [Act.put]
    try simp only [List.setIfInBounds_toArray]
    try simp only [List.set_cons_succ]
    try simp only [List.set_cons_zero]
    refine wpAnyH_ready (rs := [7]) (by kernel_rfl) (by simp) ?_
    refine AllReadyH.cons rfl (fun K1 hK => ?_) AllReadyH.nil
    go_simp
    try go_wp2_with fail
    refine hK.out _ _ ?_ (fun hHeld => ?_)
    · exact thn2 (by assumption) (below_allocN _ _)
    clear hK K1
    try simp only [List.getElem_toArray]
    try simp only [List.getElem_cons_succ]
    try simp only [List.getElem_cons_zero]
    try simp only [Act.put]
    try simp only [List.setIfInBounds_toArray]
    try simp only [List.set_cons_succ]
    try simp only [List.set_cons_zero]
    refine wpAnyH_ready (rs := [8]) (by kernel_rfl) (by simp) ?_
    refine AllReadyH.cons rfl (fun K1 hK => ?_) AllReadyH.nil
    go_simp
    try go_wp2_with fail
    refine hK.out _ _ ?_ (fun hHeld => ?_)
    · assumption
    clear hK K1
    try simp only [List.getElem_toArray]
    try simp only [List.getElem_cons_succ]
    try simp only [List.getElem_cons_zero]
    try simp only [Act.put]
    try simp only [List.setIfInBounds_toArray]
    try simp only [List.set_cons_succ]
    try simp only [List.set_cons_zero]
    refine wpAnyH_ready (rs := [9]) (by kernel_rfl) (by simp) ?_
    refine AllReadyH.cons rfl (fun K1 hK => ?_) AllReadyH.nil
    go_simp
    try go_wp2_with fail
    refine hK.out _ _ ?_ (fun hHeld => ?_)
    · assumption
    clear hK K1
    try simp only [List.getElem_toArray]
    try simp only [List.getElem_cons_succ]
    try simp only [List.getElem_cons_zero]
    try simp only [Act.put]
    try simp only [List.setIfInBounds_toArray]
    try simp only [List.set_cons_succ]
    try simp only [List.set_cons_zero]
    refine wpAnyH_ready (rs := [10]) (by kernel_rfl) (by simp) ?_
    refine AllReadyH.cons rfl (fun K1 hK => ?_) AllReadyH.nil
    go_simp
    try go_wp2_with fail
    refine hK.out _ _ ?_ (fun hHeld => ?_)
    · assumption
    clear hK K1
    try simp only [List.getElem_toArray]
    try simp only [List.getElem_cons_succ]
    try simp only [List.getElem_cons_zero]
    try simp only [Act.put]
    try simp only [List.setIfInBounds_toArray]
    try simp only [List.set_cons_succ]
    try simp only [List.set_cons_zero]
    refine wpAnyH_done (by kernel_rfl) ?_ _
    refine NoPanic.normal ?_
    go_wp2
    go_ret
    exact ⟨⟨_, rfl, by rw [ByteArray.size_append]; omega⟩, by assumption⟩
  refine AllReadyH.cons rfl (fun K1 hK => ?_) AllReadyH.nil
  go_simp
  try go_wp2_with fail
  refine hK.out _ _ ?_ (fun hHeld => ?_)
  · exact thn2 (by assumption) (below_allocN _ _)
  clear hK K1
  try simp only [List.getElem_toArray]
  try simp only [List.getElem_cons_succ]
  try simp only [List.getElem_cons_zero]
  try simp only [Act.put]
  try simp only [List.setIfInBounds_toArray]
  try simp only [List.set_cons_succ]
  try simp only [List.set_cons_zero]
  refine wpAnyH_ready (rs := [2, 8]) (by kernel_rfl) (by simp) ?_
  refine AllReadyH.cons rfl (fun K1 hK => ?_) ?_
  · skip
    go_simp
    refine (HQ.out _).mono ?_
    rintro e w' ⟨⟨s, rfl, hs⟩, hbC⟩
    have hs100 : s.size ≤ 100 := by omega
    have hst2 : (convert 22 9 (.slice (some ⟨w.heap.size, 0, none⟩) 1 1)).run Try.prog w' = .ok (.string t) w' := HK.out w.drew w' hbC
    go_wp2_with fail
    refine hK.out _ _ ?_ (fun hHeld => ?_)
    · exact thn2 (by assumption) hbC
    clear hK K1
    try simp only [List.getElem_toArray]
    try simp only [List.getElem_cons_succ]
    try simp only [List.getElem_cons_zero]
    try simp only [Act.put]
    try simp only [List.setIfInBounds_toArray]
    try simp only [List.set_cons_succ]
    try simp only [List.set_cons_zero]
    refine wpAnyH_ready (rs := [8]) (by kernel_rfl) (by simp) ?_
    refine AllReadyH.cons rfl (fun K1 hK => ?_) AllReadyH.nil
    go_simp
    try go_wp2_with fail
    refine hK.out _ _ ?_ (fun hHeld => ?_)
    · assumption
    clear hK K1
    try simp only [List.getElem_toArray]
    try simp only [List.getElem_cons_succ]
    try simp only [List.getElem_cons_zero]
    try simp only [Act.put]
    try simp only [List.setIfInBounds_toArray]
    try simp only [List.set_cons_succ]
    try simp only [List.set_cons_zero]
    refine wpAnyH_ready (rs := [9]) (by kernel_rfl) (by simp) ?_
    refine AllReadyH.cons rfl (fun K1 hK => ?_) AllReadyH.nil
    go_simp
    try go_wp2_with fail
    refine hK.out _ _ ?_ (fun hHeld => ?_)
    · assumption
    clear hK K1
    try simp only [List.getElem_toArray]
    try simp only [List.getElem_cons_succ]
    try simp only [List.getElem_cons_zero]
    try simp only [Act.put]
    try simp only [List.setIfInBounds_toArray]
    try simp only [List.set_cons_succ]
    try simp only [List.set_cons_zero]
    refine wpAnyH_ready (rs := [10]) (by kernel_rfl) (by simp) ?_
    refine AllReadyH.cons rfl (fun K1 hK => ?_) AllReadyH.nil
    go_simp
    try go_wp2_with fail
    refine hK.out _ _ ?_ (fun hHeld => ?_)
    · assumption
    clear hK K1
    try simp only [List.getElem_toArray]
    try simp only [List.getElem_cons_succ]
    try simp only [List.getElem_cons_zero]
    try simp only [Act.put]
    try simp only [List.setIfInBounds_toArray]
    try simp only [List.set_cons_succ]
    try simp only [List.set_cons_zero]
    refine wpAnyH_done (by kernel_rfl) ?_ _
    refine NoPanic.normal ?_
    go_wp2
    go_ret
    exact ⟨⟨_, rfl, by rw [ByteArray.size_append]; omega⟩, by assumption⟩
  refine AllReadyH.cons rfl (fun K1 hK => ?_) AllReadyH.nil
  go_simp
  try go_wp2_with fail
  refine hK.out _ _ ?_ (fun hHeld => ?_)
  · assumption
  clear hK K1
  try simp only [List.getElem_toArray]
  try simp only [List.getElem_cons_succ]
  try simp only [List.getElem_cons_zero]
  try simp only [Act.put]
  try simp only [List.setIfInBounds_toArray]
  try simp only [List.set_cons_succ]
  try simp only [List.set_cons_zero]
  refine wpAnyH_ready (rs := [2]) (by kernel_rfl) (by simp) ?_
  refine AllReadyH.cons rfl (fun K1 hK => ?_) AllReadyH.nil
  go_simp
  refine (HQ.out _).mono ?_
  rintro e w' ⟨⟨s, rfl, hs⟩, hbC⟩
  have hs100 : s.size ≤ 100 := by omega
  go_wp2_with fail
  refine hK.out _ _ ?_ (fun hHeld => ?_)
  · exact thn2 (by assumption) hbC
  clear hK K1
  try simp only [List.getElem_toArray]
  try simp only [List.getElem_cons_succ]
  try simp only [List.getElem_cons_zero]
  try simp only [Act.put]
  try simp only [List.setIfInBounds_toArray]
  try simp only [List.set_cons_succ]
  try simp only [List.set_cons_zero]
  refine wpAnyH_ready (rs := [9]) (by kernel_rfl) (by simp) ?_
  refine AllReadyH.cons rfl (fun K1 hK => ?_) AllReadyH.nil
  go_simp
  try go_wp2_with fail
  refine hK.out _ _ ?_ (fun hHeld => ?_)
  · assumption
  clear hK K1
  try simp only [List.getElem_toArray]
  try simp only [List.getElem_cons_succ]
  try simp only [List.getElem_cons_zero]
  try simp only [Act.put]
  try simp only [List.setIfInBounds_toArray]
  try simp only [List.set_cons_succ]
  try simp only [List.set_cons_zero]
  refine wpAnyH_ready (rs := [10]) (by kernel_rfl) (by simp) ?_
  refine AllReadyH.cons rfl (fun K1 hK => ?_) AllReadyH.nil
  go_simp
  try go_wp2_with fail
  refine hK.out _ _ ?_ (fun hHeld => ?_)
  · assumption
  clear hK K1
  try simp only [List.getElem_toArray]
  try simp only [List.getElem_cons_succ]
  try simp only [List.getElem_cons_zero]
  try simp only [Act.put]
  try simp only [List.setIfInBounds_toArray]
  try simp only [List.set_cons_succ]
  try simp only [List.set_cons_zero]
  refine wpAnyH_done (by kernel_rfl) ?_ _
  refine NoPanic.normal ?_
  go_wp2
  go_ret
  exact ⟨⟨_, rfl, by rw [ByteArray.size_append]; omega⟩, by assumption⟩
theorem numText_any (m : Int) (w : World) (h0 : 0 ≤ m) (h1 : m < 100) : Calls Try.prog 92 #[.int .i64 m] w fun e w' => (∃ s : ByteArray, e = .returned (.string s) ∧ s.size ≤ 4) ∧ Below w.heap.size w w' := by
  by_cases h2 : m < 10
  · refine (numText1 m w h0 h2).mono ?_
    rintro e w' ⟨⟨s, rfl, hs⟩, hb⟩
    exact ⟨⟨s, rfl, by omega⟩, hb⟩
  · refine (numStep m w 2 (by omega) (by omega) (by omega) (hid fun w => numText1 _ w (Int.tdiv_nonneg h0 (by omega)) (by have := Int.tdiv_eq_ediv_of_nonneg (b := 10) h0; omega))).mono ?_
    rintro e w' ⟨⟨s, rfl, hs⟩, hb⟩
    exact ⟨⟨s, rfl, by omega⟩, hb⟩
theorem numText3 (m : Int) (w : World) (h0 : 0 ≤ m) (h1 : m < 1000) : Calls Try.prog 92 #[.int .i64 m] w fun e w' => (∃ s : ByteArray, e = .returned (.string s) ∧ s.size ≤ 5) ∧ Below w.heap.size w w' := by
  by_cases h2 : m < 100
  · refine (numText_any m w h0 h2).mono ?_
    rintro e w' ⟨⟨s, rfl, hs⟩, hb⟩
    exact ⟨⟨s, rfl, by omega⟩, hb⟩
  · exact numStep m w 4 (by omega) (by omega) (by omega) (hid fun w => numText_any _ w (Int.tdiv_nonneg h0 (by omega)) (by have := Int.tdiv_eq_ediv_of_nonneg (b := 10) h0; omega))
theorem numText4 (m : Int) (w : World) (h0 : 0 ≤ m) (h1 : m < 10000) : Calls Try.prog 92 #[.int .i64 m] w fun e w' => (∃ s : ByteArray, e = .returned (.string s) ∧ s.size ≤ 6) ∧ Below w.heap.size w w' := by
  by_cases h2 : m < 1000
  · refine (numText3 m w h0 h2).mono ?_
    rintro e w' ⟨⟨s, rfl, hs⟩, hb⟩
    exact ⟨⟨s, rfl, by omega⟩, hb⟩
  · exact numStep m w 5 (by omega) (by omega) (by omega) (hid fun w => numText3 _ w (Int.tdiv_nonneg h0 (by omega)) (by have := Int.tdiv_eq_ediv_of_nonneg (b := 10) h0; omega))
end Go.Proofs.Ytjbamfgfgbmieaa
/-
  The keys that the laws draw: some strings that are not too long.
-/
namespace Go.Proofs.Ytjbamfgfgbmieaa
open Go.RowKit
set_option maxHeartbeats 8000000 in
theorem key_any (g : Nat) (w : World) (h : Cu w g) : Calls Try.prog 78 #[.pointer (some ⟨g, 0, none⟩)] w fun e w' => (∃ s : ByteArray, e = .returned (.string s) ∧ s.size ≤ 17) ∧ w.grownBy w' (some g) ∧ Cu w' g := by
  have HC := hid h
  clear h
  go_enter Try.func78, Try.ntmps78
  go_wp2_with fail
  refine (below_any g 20 w HC.out (by omega) (by omega)).mono ?_
  rintro e w1 ⟨⟨x, rfl, hx0, hx1⟩, hg1, hc1⟩
  have HG1 := hid hg1
  have HC1 := hid hc1
  clear hg1 hc1 HC
  have hx : x = 0 ∨ x = 1 ∨ x = 2 ∨ x = 3 ∨ x = 4 ∨ x = 5 ∨ x = 6 ∨ x = 7 ∨ x = 8 ∨ x = 9 ∨ x = 10 ∨ x = 11 ∨ x = 12 ∨ x = 13 ∨ x = 14 ∨ x = 15 ∨ x = 16 ∨ x = 17 ∨ 18 ≤ x := by omega
  rcases hx with rfl | rfl | rfl | rfl | rfl | rfl | rfl | rfl | rfl | rfl | rfl | rfl | rfl | rfl | rfl | rfl | rfl | rfl | hx
  all_goals try clear hx0 hx1
  case inr.inr.inr.inr.inr.inr.inr.inr.inr.inr.inr.inr.inr.inr.inr.inr.inr.inr =>
    go_wp2_with fail
    refine (below_any g 30 w1 HC1.out (by omega) (by omega)).mono ?_
    rintro e w2 ⟨⟨y, rfl, hy0, hy1⟩, hg2, hc2⟩
    have HG2 := hid (grownBy_trans HG1.out hg2)
    have HC2 := hid hc2
    clear hg2 hc2 HG1 HC1
    go_wp2_with fail
    refine (numText_any y w2 hy0 (by omega)).mono ?_
    rintro e w3 ⟨⟨s, rfl, hs⟩, hb3⟩
    have HG3 := hid (grownBy_trans HG2.out (grown_of_below hb3 _))
    have HC3 := hid (HC2.out.below hb3)
    clear hb3 HG2 HC2
    have hcat : (⟨#[107]⟩ : ByteArray).size = 1 := rfl
    go_wp2
    go_ret
    exact ⟨⟨_, rfl, by simp [ByteArray.size_append]; omega⟩, HG3.out, HC3.out⟩
  case inr.inr.inr.inr.inr.inr.inr.inr.inr.inr.inr.inr.inr.inr.inr.inr.inl =>
    go_wp2
    go_ret
    exact ⟨⟨_, rfl, by decide⟩, HG1.out, HC1.out⟩
  case inr.inr.inr.inr.inr.inr.inr.inr.inr.inr.inr.inr.inr.inr.inr.inr.inr.inl =>
    go_wp2
    go_ret
    exact ⟨⟨_, rfl, by decide⟩, HG1.out, HC1.out⟩
  all_goals (go_wp2; go_ret; exact ⟨⟨_, rfl, by decide⟩, grownBy_trans HG1.out (grownBy_alloc _ _ _), HC1.out.alloc _⟩)
set_option maxHeartbeats 4000000 in
theorem anyKey_any (g : Nat) (w : World) (h : Cu w g) : Calls Try.prog 56 #[.pointer (some ⟨g, 0, none⟩)] w fun e w' => (∃ s : ByteArray, e = .returned (.string s) ∧ s.size ≤ 17) ∧ w.grownBy w' (some g) ∧ Cu w' g := by
  have HC := hid h
  clear h
  go_enter Try.func56, Try.ntmps56
  go_wp2_with fail
  refine (below_any g 8 w HC.out (by omega) (by omega)).mono ?_
  rintro e w1 ⟨⟨x, rfl, hx0, hx1⟩, hg1, hc1⟩
  have HG1 := hid hg1
  have HC1 := hid hc1
  clear hg1 hc1 HC
  by_cases hx : x = 0
  · subst hx
    clear hx0 hx1
    go_wp2_with fail
    refine (below_any g 4 _ (HC1.out.alloc _) (by omega) (by omega)).mono ?_
    rintro e w2 ⟨⟨y, rfl, hy0, hy1⟩, hg2, hc2⟩
    have HG2 := hid (grownBy_trans (grownBy_trans HG1.out (grownBy_alloc _ _ _)) hg2)
    have HC2 := hid hc2
    have hcl := fun k => row_kept (b := w1.heap.size) (k := k) hg2 (by simp) (by have := HC1.out.lt; omega)
    clear hg2 hc2
    rcases (by omega : y = 0 ∨ y = 1 ∨ y = 2 ∨ y = 3) with rfl | rfl | rfl | rfl
    · have hc := (hcl 0).trans (by rw [World.cell?_alloc_at (hn := rfl)])
      clear hcl
      go_wp2
      go_ret
      exact ⟨⟨_, rfl, by decide⟩, HG2.out, HC2.out⟩
    · have hc := (hcl 1).trans (by rw [World.cell?_alloc_at (hn := rfl)])
      clear hcl
      go_wp2
      go_ret
      exact ⟨⟨_, rfl, by decide⟩, HG2.out, HC2.out⟩
    · have hc := (hcl 2).trans (by rw [World.cell?_alloc_at (hn := rfl)])
      clear hcl
      go_wp2
      go_ret
      exact ⟨⟨_, rfl, by decide⟩, HG2.out, HC2.out⟩
    · have hc := (hcl 3).trans (by rw [World.cell?_alloc_at (hn := rfl)])
      clear hcl
      go_wp2
      go_ret
      exact ⟨⟨_, rfl, by decide⟩, HG2.out, HC2.out⟩
  · go_wp2_with fail
    refine (key_any g w1 HC1.out).mono ?_
    rintro e w2 ⟨⟨s, rfl, hs⟩, hg2, hc2⟩
    have HG2 := hid (grownBy_trans HG1.out hg2)
    have HC2 := hid hc2
    clear hg2 hc2 HG1 HC1
    go_wp2
    go_ret
    exact ⟨⟨_, rfl, hs⟩, HG2.out, HC2.out⟩
end Go.Proofs.Ytjbamfgfgbmieaa
/-
  The range that two ranges have in common: the specification's function.
-/
namespace Go.Proofs.Ytjbamfgfgbmieaa
open Go.RowKit

theorem Blk.set0 {w : World} {g : Nat} {lo hi x : ByteArray} (h : Blk w g lo hi) : Blk (w.setCell ⟨g, 0, none⟩ (.string x)) g x hi := by
  unfold Blk at h ⊢
  simp [World.setCell, Array.getElem?_modify, h]
theorem Blk.set1 {w : World} {g : Nat} {lo hi x : ByteArray} (h : Blk w g lo hi) : Blk (w.setCell ⟨g, 1, none⟩ (.string x)) g lo x := by
  unfold Blk at h ⊢
  simp [World.setCell, Array.getElem?_modify, h]
theorem Blk.other {w : World} {g g' o : Nat} {lo hi : ByteArray} {x : Value} (h : Blk w g lo hi) (hne : g ≠ g') : Blk (w.setCell ⟨g', o, none⟩ x) g lo hi := (Below.heap_setCell w ⟨g', o, none⟩ x g hne).trans h
theorem Trio.lo {w v : World} {la ha lb hb x : ByteArray} (T : Trio w v la ha lb hb) : Trio w (v.setCell ⟨w.heap.size, 0, none⟩ (.string x)) x ha lb hb :=
  ⟨T.bel.setCell (p := ⟨w.heap.size, 0, none⟩) (Nat.le_refl _) _, T.a.set0, T.b.other (by omega), T.r.other (by omega)⟩
theorem Trio.hi {w v : World} {la ha lb hb x : ByteArray} (T : Trio w v la ha lb hb) : Trio w (v.setCell ⟨w.heap.size, 1, none⟩ (.string x)) la x lb hb :=
  ⟨T.bel.setCell (p := ⟨w.heap.size, 1, none⟩) (Nat.le_refl _) _, T.a.set1, T.b.other (by omega), T.r.other (by omega)⟩
end Go.Proofs.Ytjbamfgfgbmieaa
/-
  The ranges that the laws draw: some ranges.
-/
namespace Go.Proofs.Ytjbamfgfgbmieaa
open Go.RowKit
theorem Blk.grown {v v' : World} {g b : Nat} {lo hi : ByteArray} (h : Blk v b lo hi) (hg : v.grownBy v' (some g)) (hne : g < b) : Blk v' b lo hi := (hg.block b h.lt (fun e => by cases e; omega)).trans h
theorem grown_new {w v : World} {row : Option Nat} (h : w.grownBy v row) (b o : Nat) (x : Value) (hb : w.heap.size ≤ b) : w.grownBy (v.setCell ⟨b, o, none⟩ x) row :=
  ⟨h.os, h.tape, h.output, by simp [World.setCell]; exact h.size, fun k hk hne => by rw [Below.heap_setCell _ _ _ _ (fun e => by simp at e; omega)]; exact h.block k hk hne⟩
theorem Cu.set {v : World} {g : Nat} (h : Cu v g) (b o : Nat) (x : Value) (hb : g < b) : Cu (v.setCell ⟨b, o, none⟩ x) g :=
  h.kept (grownBy_set (grownBy_same v (some b)) o x) (fun k e => by cases e; exact hb)
theorem grown_below {w v v' : World} {row : Option Nat} (h : w.grownBy v row) (hb : Below v.heap.size v v') : w.grownBy v' row := grownBy_trans h (grown_of_below hb row)
/-- A draw so far: its cursor g, and a new block b that holds a range. -/
structure Dw (w v : World) (g b : Nat) (lo hi : ByteArray) : Prop where
  gr : w.grownBy v (some g)
  cu : Cu v g
  bk : Blk v b lo hi
  nb : w.heap.size ≤ b
  ng : g < w.heap.size
theorem Dw.new {w : World} {g : Nat} (h : Cu w g) (lo hi : ByteArray) : Dw w (w.alloc (.cells #[.string lo, .string hi] 25)) g w.heap.size lo hi :=
  ⟨grownBy_alloc _ _ _, h.alloc _, Blk.new _ _ _, Nat.le_refl _, h.lt⟩
theorem Dw.step {w v v' : World} {g b : Nat} {lo hi : ByteArray} (h : Dw w v g b lo hi) (hg : v.grownBy v' (some g)) (hc : Cu v' g) : Dw w v' g b lo hi :=
  ⟨grownBy_trans h.gr hg, hc, h.bk.grown hg (by have := h.nb; have := h.ng; omega), h.nb, h.ng⟩
theorem Dw.call {w v v' : World} {g b : Nat} {lo hi : ByteArray} (h : Dw w v g b lo hi) (hb : Below v.heap.size v v') : Dw w v' g b lo hi := h.step (grown_of_below hb _) (h.cu.below hb)
theorem Dw.set0 {w v : World} {g b : Nat} {lo hi x : ByteArray} (h : Dw w v g b lo hi) : Dw w (v.setCell ⟨b, 0, none⟩ (.string x)) g b x hi :=
  ⟨grown_new h.gr _ _ _ h.nb, h.cu.set _ _ _ (by have := h.nb; have := h.ng; omega), h.bk.set0, h.nb, h.ng⟩
theorem Dw.set1 {w v : World} {g b : Nat} {lo hi x : ByteArray} (h : Dw w v g b lo hi) : Dw w (v.setCell ⟨b, 1, none⟩ (.string x)) g b lo x :=
  ⟨grown_new h.gr _ _ _ h.nb, h.cu.set _ _ _ (by have := h.nb; have := h.ng; omega), h.bk.set1, h.nb, h.ng⟩
set_option maxHeartbeats 4000000 in
theorem range_any (g : Nat) (w : World) (h : Cu w g) : Calls Try.prog 81 #[.pointer (some ⟨g, 0, none⟩)] w fun e w' => (∃ lo hi : ByteArray, e = .returned (.agg #[.string lo, .string hi])) ∧ w.grownBy w' (some g) ∧ Cu w' g := by
  have D0 := hid (Dw.new h ⟨#[]⟩ ⟨#[]⟩)
  clear h
  go_enter Try.func81, Try.ntmps81
  go_wp2_with fail
  refine (key_any g _ D0.out.cu).mono ?_
  rintro e w1 ⟨⟨a, rfl, ha⟩, hg1, hc1⟩
  have D1 := hid (D0.out.step hg1 hc1)
  clear hg1 hc1 D0
  go_wp2_with fail
  refine (key_any g _ D1.out.cu).mono ?_
  rintro e w2 ⟨⟨b, rfl, hb⟩, hg1, hc1⟩
  have D2 := hid (D1.out.step hg1 hc1)
  clear hg1 hc1 D1
  go_wp2_with fail
  refine (below_any g 6 _ D2.out.cu (by omega) (by omega)).mono ?_
  rintro e w3 ⟨⟨x, rfl, hx0, hx1⟩, hg1, hc1⟩
  have D3 := hid (D2.out.step hg1 hc1)
  clear hg1 hc1 D2
  obtain ⟨r0, r1, r2, r3⟩ := D3.out.bk.facts
  rcases (by omega : x = 0 ∨ x = 1 ∨ x = 2 ∨ 3 ≤ x) with rfl | rfl | rfl | hx
  · clear hx0 hx1
    go_wp2
    try simp only [Exit.inBlock, Exit.then]
    refine bodyPost_ret (v := rng ⟨#[]⟩ ⟨#[]⟩) ?_ rfl ?_
    · exact results_rng rfl _ _ _ rfl (by go_simp) (by go_simp)
    · exact ⟨⟨_, _, rfl⟩, D3.out.set0.set1.gr, D3.out.set0.set1.cu⟩
  · clear hx0 hx1
    go_wp2
    try simp only [Exit.inBlock, Exit.then]
    refine bodyPost_ret (v := rng a ⟨#[]⟩) ?_ rfl ?_
    · exact results_rng rfl _ _ _ rfl (by go_simp) (by go_simp)
    · exact ⟨⟨_, _, rfl⟩, D3.out.set0.set1.gr, D3.out.set0.set1.cu⟩
  · clear hx0 hx1
    go_wp2_with fail
    refine (specPointOf_any a _).mono ?_
    rintro e w4 ⟨rfl, hb4⟩
    have D4 := hid (D3.out.call hb4)
    clear hb4 D3 r0 r1 r2 r3
    obtain ⟨r0, r1, r2, r3⟩ := D4.out.bk.facts
    simp only [rng]
    go_wp2
    try simp only [Exit.inBlock, Exit.then]
    refine bodyPost_ret (v := rng (ptLo a) (ptHi a)) ?_ rfl ?_
    · exact results_rng rfl _ _ _ rfl (by go_simp) (by go_simp)
    · exact ⟨⟨_, _, rfl⟩, D4.out.set0.set1.gr, D4.out.set0.set1.cu⟩
  · have hx2 : (x == 2) = false := by simp; omega
    have hx3 : (x == 1) = false := by simp; omega
    have hx4 : (x == 0) = false := by simp; omega
    rcases tri a b with ⟨t1, t2, t3, t4⟩ | rfl | ⟨t1, t2, t3, t4⟩
    · go_wp2
      try simp only [Exit.inBlock, Exit.then]
      refine bodyPost_ret (v := rng a b) ?_ rfl ?_
      · exact results_rng rfl _ _ _ rfl (by go_simp) (by go_simp)
      · exact ⟨⟨_, _, rfl⟩, D3.out.set0.set1.gr, D3.out.set0.set1.cu⟩
    · go_wp2_with fail
      refine (specPointOf_any a _).mono ?_
      rintro e w4 ⟨rfl, hb4⟩
      have D4 := hid (D3.out.call hb4)
      clear hb4 D3 r0 r1 r2 r3
      obtain ⟨r0, r1, r2, r3⟩ := D4.out.bk.facts
      simp only [rng]
      go_wp2
      try simp only [Exit.inBlock, Exit.then]
      refine bodyPost_ret (v := rng (ptLo a) (ptHi a)) ?_ rfl ?_
      · exact results_rng rfl _ _ _ rfl (by go_simp) (by go_simp)
      · exact ⟨⟨_, _, rfl⟩, D4.out.set0.set1.gr, D4.out.set0.set1.cu⟩
    · go_wp2
      try simp only [Exit.inBlock, Exit.then]
      refine bodyPost_ret (v := rng b a) ?_ rfl ?_
      · exact results_rng rfl _ _ _ rfl (by go_simp) (by go_simp)
      · exact ⟨⟨_, _, rfl⟩, D3.out.set0.set1.gr, D3.out.set0.set1.cu⟩
end Go.Proofs.Ytjbamfgfgbmieaa
/-
  The ranges that the laws draw, right or not: some ranges.
-/
namespace Go.Proofs.Ytjbamfgfgbmieaa
open Go.RowKit
theorem rd_made (w : World) (k : Nat) (hk : k ≤ 8192) : Rd (w.alloc (.cells (madeCells #[.int .u8 0] k) 5)) (some ⟨w.heap.size, 0, none⟩) k k (List.replicate k 0) := by
  refine ⟨by simp, Nat.le_refl _, by omega, by omega, fun i => ?_, fun _ => ⟨w.heap.size, 0, rfl, by simp, fun i hi => ?_⟩⟩
  · by_cases h : i < k
    · simp [h]
    · rw [List.getElem?_eq_none (by simp; omega)]; simp
  · rw [World.cell?_alloc_at (hn := rfl)]
    have h1 : i < (madeCells #[.int .u8 0] k).size := by simp [madeCells]; omega
    rw [show (0 : Nat) + i = i from Nat.zero_add i, Array.getElem?_eq_getElem h1]
    simp [madeCells, Nat.mod_one, hi]
theorem made_any (m : Int) (k : Nat) (hk : m = k) (h : k ≤ 8192) : ∀ w, (Instr.makeSlice 22 (.int .i64 m) (.int .i64 m)).run Try.prog w = .ok (.slice (some ⟨w.heap.size, 0, none⟩) k k) (w.alloc (.cells (madeCells #[.int .u8 0] k) 5)) := by
  intro w
  subst hk
  exact run_make_row' (P := Try.prog) 22 5 (.int .u8 0) 1 Try.underlying22 infoU8 rfl .i64 .i64 k (by omega) (by omega) w
theorem Dw.other {w v : World} {g b b' o : Nat} {lo hi : ByteArray} {x : Value} (h : Dw w v g b lo hi) (hne : b ≠ b') (hb : w.heap.size ≤ b') : Dw w (v.setCell ⟨b', o, none⟩ x) g b lo hi :=
  ⟨grown_new h.gr _ _ _ hb, h.cu.set _ _ _ (by have := h.ng; omega), h.bk.other hne, h.nb, h.ng⟩
theorem Dw.alloc {w v : World} {g b : Nat} {lo hi : ByteArray} (h : Dw w v g b lo hi) (o : Obj) : Dw w (v.alloc o) g b lo hi := h.call (below_alloc _ _)
theorem Dw.next {w v : World} {g b : Nat} {lo hi : ByteArray} (h : Dw w v g b lo hi) (lo' hi' : ByteArray) : Dw w (v.alloc (.cells #[.string lo', .string hi'] 25)) g v.heap.size lo' hi' :=
  ⟨grownBy_trans h.gr (grownBy_alloc _ _ _), h.cu.alloc _, Blk.new _ _ _, h.gr.size, h.ng⟩
set_option maxHeartbeats 4000000 in
theorem anyRange_any (g : Nat) (w : World) (h : Cu w g) : Calls Try.prog 63 #[.pointer (some ⟨g, 0, none⟩)] w fun e w' => (∃ lo hi : ByteArray, e = .returned (.agg #[.string lo, .string hi])) ∧ w.grownBy w' (some g) ∧ Cu w' g := by
  have D0 := hid (Dw.new h ⟨#[]⟩ ⟨#[]⟩)
  clear h
  go_enter Try.func63, Try.ntmps63
  go_wp2_with fail
  refine (range_any g _ D0.out.cu).mono ?_
  rintro e w1 ⟨⟨a, b, rfl⟩, hg1, hc1⟩
  have D1 := hid (D0.out.step hg1 hc1)
  clear hg1 hc1 D0
  have hlt := D1.out.bk.lt
  have hne : ¬ w.heap.size = w1.heap.size := by omega
  have hne' : ¬ w1.heap.size = w.heap.size := by omega
  have HN := hid (D1.out.gr.size)
  go_wp2_with fail
  refine (below_any g 14 _ (D1.out.alloc _).cu (by omega) (by omega)).mono ?_
  rintro e w2 ⟨⟨x, rfl, hx0, hx1⟩, hg1, hc1⟩
  have D2 := hid ((D1.out.alloc _).step hg1 hc1)
  have E2 := hid ((D1.out.next a b).step hg1 hc1)
  clear hg1 hc1 D1
  generalize w1.heap.size = b2 at *
  obtain ⟨r0, r1, r2, r3⟩ := D2.out.bk.facts
  obtain ⟨q0, q1, q2, q3⟩ := E2.out.bk.facts
  rcases (by omega : x = 0 ∨ x = 1 ∨ x = 2 ∨ x = 3 ∨ 4 ≤ x) with rfl | rfl | rfl | rfl | hx
  · clear hx0 hx1
    go_wp2
    try simp only [Exit.inBlock, Exit.then]
    refine bodyPost_ret (v := rng a a) ?_ rfl ?_
    · exact results_rng rfl _ _ _ rfl (by go_simp) (by go_simp)
    · exact ⟨⟨_, _, rfl⟩, ((D2.out.other hne HN.out).set0.set1).gr, ((D2.out.other hne HN.out).set0.set1).cu⟩
  · clear hx0 hx1
    go_wp2_with fail
    refine (below_any g 2 _ D2.out.cu (by omega) (by omega)).mono ?_
    rintro e w3 ⟨⟨y, rfl, hy0, hy1⟩, hg1, hc1⟩
    have D3 := hid (D2.out.step hg1 hc1)
    have E3 := hid (E2.out.step hg1 hc1)
    clear hg1 hc1 D2 E2 r0 r1 r2 r3 q0 q1 q2 q3
    obtain ⟨r0, r1, r2, r3⟩ := (D3.out.alloc (.cells (madeCells #[.int .u8 0] (17 + y.toNat)) 5)).bk.facts
    obtain ⟨q0, q1, q2, q3⟩ := (E3.out.alloc (.cells (madeCells #[.int .u8 0] (17 + y.toNat)) 5)).bk.facts
    obtain ⟨k, rfl⟩ := Int.eq_ofNat_of_zero_le hy0
    have hmk := made_any (17 + (k : Int)) (17 + k) (by omega) (by omega)
    have hst6 := run_str (rd_made w3 (17 + k) (by omega))
    generalize strOf (List.replicate (17 + k) 0) = s6 at hst6
    simp only [Int.toNat_natCast] at r0 r1 r2 r3 q0 q1 q2 q3
    go_wp2_with fail
    try simp only [Exit.inBlock, Exit.then]
    refine bodyPost_ret (v := rng s6 b) ?_ rfl ?_
    · exact results_rng rfl _ _ _ rfl (by go_simp) (by go_simp)
    · exact ⟨⟨_, _, rfl⟩, (((D3.out.alloc _).other hne HN.out).set0.set1).gr, (((D3.out.alloc _).other hne HN.out).set0.set1).cu⟩
  · clear hx0 hx1
    go_wp2_with fail
    refine (below_any g 2 _ (D2.out.alloc _).cu (by omega) (by omega)).mono ?_
    rintro e w3 ⟨⟨y, rfl, hy0, hy1⟩, hg1, hc1⟩
    have D3 := hid ((D2.out.alloc _).step hg1 hc1)
    have E3 := hid ((E2.out.alloc _).step hg1 hc1)
    have hcl := fun k => row_kept (b := w2.heap.size) (k := k) hg1 (by simp) (by have := D2.out.cu.lt; omega)
    clear hg1 hc1 D2 E2 r0 r1 r2 r3 q0 q1 q2 q3
    obtain ⟨r0, r1, r2, r3⟩ := D3.out.bk.facts
    obtain ⟨q0, q1, q2, q3⟩ := E3.out.bk.facts
    rcases (by omega : y = 0 ∨ y = 1) with rfl | rfl
    · have hc := (hcl 0).trans (by rw [World.cell?_alloc_at (hn := rfl)])
      clear hcl
      go_wp2
      try simp only [Exit.inBlock, Exit.then]
      refine bodyPost_ret (v := rng a (⟨#[122, 122, 122, 122, 122, 122, 122, 122, 122, 122, 122, 122, 122, 122, 122, 122, 122]⟩ ++ ⟨#[]⟩)) ?_ rfl ?_
      · exact results_rng rfl _ _ _ rfl (by go_simp) (by go_simp)
      · exact ⟨⟨_, _, rfl⟩, ((D3.out.other hne HN.out).set0.set1).gr, ((D3.out.other hne HN.out).set0.set1).cu⟩
    · have hc := (hcl 1).trans (by rw [World.cell?_alloc_at (hn := rfl)])
      clear hcl
      go_wp2
      try simp only [Exit.inBlock, Exit.then]
      refine bodyPost_ret (v := rng a (⟨#[122, 122, 122, 122, 122, 122, 122, 122, 122, 122, 122, 122, 122, 122, 122, 122, 122]⟩ ++ ⟨#[122]⟩)) ?_ rfl ?_
      · exact results_rng rfl _ _ _ rfl (by go_simp) (by go_simp)
      · exact ⟨⟨_, _, rfl⟩, ((D3.out.other hne HN.out).set0.set1).gr, ((D3.out.other hne HN.out).set0.set1).cu⟩
  · clear hx0 hx1
    go_wp2
    try simp only [Exit.inBlock, Exit.then]
    refine bodyPost_ret (v := rng b a) ?_ rfl ?_
    · exact results_rng rfl _ _ _ rfl (by go_simp) (by go_simp)
    · exact ⟨⟨_, _, rfl⟩, (((D2.out.other hne HN.out).other hne HN.out).set0.set1).gr, (((D2.out.other hne HN.out).other hne HN.out).set0.set1).cu⟩
  · have hx2 : (x == 2) = false := by simp; omega
    have hx3 : (x == 1) = false := by simp; omega
    have hx4 : (x == 0) = false := by simp; omega
    have hx5 : (x == 3) = false := by simp; omega
    go_wp2
    try simp only [Exit.inBlock, Exit.then]
    refine bodyPost_ret (v := rng a b) ?_ rfl ?_
    · exact results_rng rfl _ _ _ rfl (by go_simp) (by go_simp)
    · exact ⟨⟨_, _, rfl⟩, (D2.out.set0.set1).gr, (D2.out.set0.set1).cu⟩
theorem results_rng2 {fn : Func} {p u : Tmp} (h : fn.results = #[.cell p 25, .cell u 25]) (tmps : Array Value) (w : World) (g g' : Nat) {lo hi lo' hi' : ByteArray} (hp : tmps.getD p undef = .pointer (some ⟨g, 0, none⟩)) (hq : tmps.getD u undef = .pointer (some ⟨g', 0, none⟩))
    (c0 : w.cell? ⟨g, 0, none⟩ = some (.string lo)) (c1 : w.cell? ⟨g, 1, none⟩ = some (.string hi)) (d0 : w.cell? ⟨g', 0, none⟩ = some (.string lo')) (d1 : w.cell? ⟨g', 1, none⟩ = some (.string hi')) : (results fn tmps).run Try.prog w = .ok (.tuple #[rng lo hi, rng lo' hi']) w := by
  have hp' : tmps[p]?.getD undef = .pointer (some ⟨g, 0, none⟩) := by simpa using hp
  have hq' : tmps[u]?.getD undef = .pointer (some ⟨g', 0, none⟩) := by simpa using hq
  simp [results, h, hp', hq', asAddr, load_rng c0 c1, load_rng d0 d1]
/-- A draw from the code: its cursor g, and block b for a result, that holds nothing yet. -/
structure R1 (w v : World) (g b : Nat) : Prop where
  bel : Below w.heap.size w v
  cu : Cu v g
  bk : Blk v b ⟨#[]⟩ ⟨#[]⟩
  nb : w.heap.size ≤ b
  ng : b < g
theorem R1.step {w v v' : World} {g b : Nat} (h : R1 w v g b) (hg : v.grownBy v' (some g)) (hc : Cu v' g) : R1 w v' g b :=
  ⟨h.bel.trans ((below_of_grown hg h.cu.lt).mono (by have := h.nb; have := h.ng; omega)), hc, ((below_of_grown hg h.cu.lt).block b h.ng).trans h.bk, h.nb, h.ng⟩
theorem R1.new {w u v : World} {b : Nat} (hu : Below w.heap.size w u) (hk : Blk u b ⟨#[]⟩ ⟨#[]⟩) (hb : w.heap.size ≤ b) (h : Below u.heap.size u v) (hc : Cu v u.heap.size) : R1 w v u.heap.size b :=
  ⟨thn2 hu h, hc, hk.kept h, hb, hk.lt⟩
theorem R1.alloc {w v : World} {g b : Nat} (h : R1 w v g b) (o : Obj) : R1 w (v.alloc o) g b := h.step (grownBy_alloc _ _ _) (h.cu.alloc _)
end Go.Proofs.Ytjbamfgfgbmieaa
/-
  l01Raw: the cursor stays one.
-/
namespace Go.Proofs.Ytjbamfgfgbmieaa
open Go.RowKit
set_option maxHeartbeats 1600000 in
theorem raw_cu (g : Nat) (w : World) (h : Cu w g) :
    Calls Try.prog 62 #[.pointer (some ⟨g, 0, none⟩)] w fun e w' => (∃ x : Int, e = .returned (.int .i64 x) ∧ -9223372036854775808 ≤ x ∧ x ≤ 9223372036854775807) ∧ w.grownBy w' (some g) ∧ Cu w' g := by
  have HC := hid h
  clear h
  go_enter Try.func62, Try.ntmps62
  go_wp2_with fail
  refine (below_any g 10 w HC.out (by omega) (by omega)).mono ?_
  rintro e w1 ⟨⟨k, rfl, hk0, hk1⟩, hg1, hc1⟩
  have HG1 := hid hg1
  have HC1 := hid hc1
  clear hg1 hc1
  rcases (by omega : k < 4 ∨ k = 4 ∨ k = 5 ∨ k = 6 ∨ k = 7 ∨ k = 8 ∨ k = 9) with h | rfl | rfl | rfl | rfl | rfl | rfl
  · go_wp2_with fail
    refine (below_any g 20 w1 HC1.out (by omega) (by omega)).mono ?_
    rintro e w2 ⟨⟨x, rfl, hx0, hx1⟩, hg1, hc1⟩
    have HG2 := hid (grownBy_trans HG1.out hg1)
    have HC2 := hid hc1
    clear hg1 hc1
    go_wp2
    go_ret
    exact ⟨⟨_, rfl, by omega, by omega⟩, HG2.out, HC2.out⟩
  · go_wp2_with fail
    refine (below_any g 3 w1 HC1.out (by omega) (by omega)).mono ?_
    rintro e w2 ⟨⟨x, rfl, hx0, hx1⟩, hg1, hc1⟩
    have HG2 := hid (grownBy_trans HG1.out hg1)
    have HC2 := hid hc1
    clear hg1 hc1
    go_wp2
    go_ret
    exact ⟨⟨_, rfl, by omega, by omega⟩, HG2.out, HC2.out⟩
  · go_wp2_with fail
    refine (below_any g 2 w1 HC1.out (by omega) (by omega)).mono ?_
    rintro e w2 ⟨⟨x, rfl, hx0, hx1⟩, hg1, hc1⟩
    have HG2 := hid (grownBy_trans HG1.out hg1)
    have HC2 := hid hc1
    clear hg1 hc1
    go_wp2
    go_ret
    exact ⟨⟨_, rfl, by omega, by omega⟩, HG2.out, HC2.out⟩
  · go_wp2_with fail
    refine (below_any g 2 w1 HC1.out (by omega) (by omega)).mono ?_
    rintro e w2 ⟨⟨x, rfl, hx0, hx1⟩, hg1, hc1⟩
    have HG2 := hid (grownBy_trans HG1.out hg1)
    have HC2 := hid hc1
    clear hg1 hc1
    go_wp2
    go_ret
    exact ⟨⟨_, rfl, by omega, by omega⟩, HG2.out, HC2.out⟩
  · go_wp2_with fail
    refine (below_any g 2 w1 HC1.out (by omega) (by omega)).mono ?_
    rintro e w2 ⟨⟨x, rfl, hx0, hx1⟩, hg1, hc1⟩
    have HG2 := hid (grownBy_trans HG1.out hg1)
    have HC2 := hid hc1
    clear hg1 hc1
    go_wp2
    go_ret
    exact ⟨⟨_, rfl, by omega, by omega⟩, HG2.out, HC2.out⟩
  · go_wp2_with fail
    have hgl : w1.grownBy (w1.alloc (.cells #[.int .i64 127, .int .i64 128, .int .i64 16383, .int .i64 16384, .int .i64 255, .int .i64 256, .int .i64 4096, .int .i64 4097] 3)) (some g) := grownBy_alloc w1 _ _
    have HGL := hid hgl
    clear hgl
    refine (below_any g 8 _ (HC1.out.alloc _) (by omega) (by omega)).mono ?_
    rintro e w2 ⟨⟨x, rfl, hx0, hx1⟩, hg1, hc1⟩
    have HG2 := hid (grownBy_trans (grownBy_trans HG1.out HGL.out) hg1)
    have hcl := fun k => row_kept (b := w1.heap.size) (k := k) hg1 (by simp) (by have := HC1.out.lt; omega)
    have HC2 := hid hc1
    clear hg1 hc1
    rcases (by omega : x = 0 ∨ x = 1 ∨ x = 2 ∨ x = 3 ∨ x = 4 ∨ x = 5 ∨ x = 6 ∨ x = 7) with rfl | rfl | rfl | rfl | rfl | rfl | rfl | rfl
    · have hc := (hcl 0).trans (by rw [World.cell?_alloc_at (hn := rfl)])
      clear hcl
      go_wp2
      go_ret
      exact ⟨⟨_, rfl, by omega, by omega⟩, HG2.out, HC2.out⟩
    · have hc := (hcl 1).trans (by rw [World.cell?_alloc_at (hn := rfl)])
      clear hcl
      go_wp2
      go_ret
      exact ⟨⟨_, rfl, by omega, by omega⟩, HG2.out, HC2.out⟩
    · have hc := (hcl 2).trans (by rw [World.cell?_alloc_at (hn := rfl)])
      clear hcl
      go_wp2
      go_ret
      exact ⟨⟨_, rfl, by omega, by omega⟩, HG2.out, HC2.out⟩
    · have hc := (hcl 3).trans (by rw [World.cell?_alloc_at (hn := rfl)])
      clear hcl
      go_wp2
      go_ret
      exact ⟨⟨_, rfl, by omega, by omega⟩, HG2.out, HC2.out⟩
    · have hc := (hcl 4).trans (by rw [World.cell?_alloc_at (hn := rfl)])
      clear hcl
      go_wp2
      go_ret
      exact ⟨⟨_, rfl, by omega, by omega⟩, HG2.out, HC2.out⟩
    · have hc := (hcl 5).trans (by rw [World.cell?_alloc_at (hn := rfl)])
      clear hcl
      go_wp2
      go_ret
      exact ⟨⟨_, rfl, by omega, by omega⟩, HG2.out, HC2.out⟩
    · have hc := (hcl 6).trans (by rw [World.cell?_alloc_at (hn := rfl)])
      clear hcl
      go_wp2
      go_ret
      exact ⟨⟨_, rfl, by omega, by omega⟩, HG2.out, HC2.out⟩
    · have hc := (hcl 7).trans (by rw [World.cell?_alloc_at (hn := rfl)])
      clear hcl
      go_wp2
      go_ret
      exact ⟨⟨_, rfl, by omega, by omega⟩, HG2.out, HC2.out⟩
  · go_wp2_with fail
    refine (below_any g 65536 w1 HC1.out (by omega) (by omega)).mono ?_
    rintro e w2 ⟨⟨x, rfl, hx0, hx1⟩, hg1, hc1⟩
    have HG2 := hid (grownBy_trans HG1.out hg1)
    have HC2 := hid hc1
    clear hg1 hc1
    go_wp2
    go_ret
    exact ⟨⟨_, rfl, by omega, by omega⟩, HG2.out, HC2.out⟩
end Go.Proofs.Ytjbamfgfgbmieaa
/-
  The records that the laws draw: some record.
-/
namespace Go.Proofs.Ytjbamfgfgbmieaa
open Go.RowKit
set_option linter.unusedVariables false
/-- A draw so far: its cursor g. -/
structure DG (w v : World) (g : Nat) : Prop where
  gr : w.grownBy v (some g)
  cu : Cu v g
  ng : g < w.heap.size
theorem DG.start {w : World} {g : Nat} (h : Cu w g) : DG w w g := ⟨grownBy_same _ _, h, h.lt⟩
theorem DG.step {w v v' : World} {g : Nat} (h : DG w v g) (hg : v.grownBy v' (some g)) (hc : Cu v' g) : DG w v' g := ⟨grownBy_trans h.gr hg, hc, h.ng⟩
theorem DG.call {w v v' : World} {g : Nat} (h : DG w v g) (hb : Below v.heap.size v v') : DG w v' g := h.step (grown_of_below hb _) (h.cu.below hb)
theorem DG.alloc {w v : World} {g : Nat} (h : DG w v g) (o : Obj) : DG w (v.alloc o) g := h.call (below_alloc _ _)
theorem DG.set {w v : World} {g : Nat} (h : DG w v g) {b : Nat} (hb : w.heap.size ≤ b) (o : Nat) (x : Value) : DG w (v.setCell ⟨b, o, none⟩ x) g := ⟨grown_new h.gr _ _ _ hb, h.cu.set _ _ _ (by have := h.ng; omega), h.ng⟩
theorem Bk.grownR {v v' : World} {b g : Nat} {T : TypeId} {vs : List Value} (h : Bk v b T vs) (hg : v.grownBy v' (some g)) (hne : b ≠ g) : Bk v' b T vs := (hg.block b h.lt (fun e => hne (by cases e; rfl))).trans h
theorem l08User_tab (k : Nat) (h : k < 12) : ∃ s : ByteArray, (#[.string ⟨#[97]⟩, .string ⟨#[98]⟩, .string ⟨#[99]⟩, .string ⟨#[100]⟩, .string ⟨#[101]⟩, .string ⟨#[102]⟩, .string ⟨#[103]⟩, .string ⟨#[104]⟩, .string ⟨#[97, 97]⟩, .string ⟨#[107, 49]⟩, .string ⟨#[122, 122, 122, 122, 122, 122, 122, 122]⟩, .string ⟨#[0]⟩] : Array Value)[k]? = some (.string s) := by
  rcases (by omega : k = 0 ∨ k = 1 ∨ k = 2 ∨ k = 3 ∨ k = 4 ∨ k = 5 ∨ k = 6 ∨ k = 7 ∨ k = 8 ∨ k = 9 ∨ k = 10 ∨ k = 11) with rfl | rfl | rfl | rfl | rfl | rfl | rfl | rfl | rfl | rfl | rfl | rfl
  · exact ⟨_, rfl⟩
  · exact ⟨_, rfl⟩
  · exact ⟨_, rfl⟩
  · exact ⟨_, rfl⟩
  · exact ⟨_, rfl⟩
  · exact ⟨_, rfl⟩
  · exact ⟨_, rfl⟩
  · exact ⟨_, rfl⟩
  · exact ⟨_, rfl⟩
  · exact ⟨_, rfl⟩
  · exact ⟨_, rfl⟩
  · exact ⟨_, rfl⟩
set_option maxHeartbeats 4000000 in
theorem l08User_any (g : Nat) (w : World) (h : Cu w g) : Calls Try.prog 59 #[.pointer (some ⟨g, 0, none⟩)] w fun e w' => (∃ s : ByteArray, e = .returned (.string s)) ∧ w.grownBy w' (some g) ∧ Cu w' g := by
  have D0 := hid ((DG.start h).alloc (.cells #[.string ⟨#[97]⟩, .string ⟨#[98]⟩, .string ⟨#[99]⟩, .string ⟨#[100]⟩, .string ⟨#[101]⟩, .string ⟨#[102]⟩, .string ⟨#[103]⟩, .string ⟨#[104]⟩, .string ⟨#[97, 97]⟩, .string ⟨#[107, 49]⟩, .string ⟨#[122, 122, 122, 122, 122, 122, 122, 122]⟩, .string ⟨#[0]⟩] 9))
  have K0 := hid (Bk.new w 9 [.string ⟨#[97]⟩, .string ⟨#[98]⟩, .string ⟨#[99]⟩, .string ⟨#[100]⟩, .string ⟨#[101]⟩, .string ⟨#[102]⟩, .string ⟨#[103]⟩, .string ⟨#[104]⟩, .string ⟨#[97, 97]⟩, .string ⟨#[107, 49]⟩, .string ⟨#[122, 122, 122, 122, 122, 122, 122, 122]⟩, .string ⟨#[0]⟩])
  clear h
  go_enter Try.func59, Try.ntmps59
  go_wp2_with fail
  refine (below_any g 24 _ D0.out.cu (by omega) (by omega)).mono ?_
  generalize w.alloc (.cells #[.string ⟨#[97]⟩, .string ⟨#[98]⟩, .string ⟨#[99]⟩, .string ⟨#[100]⟩, .string ⟨#[101]⟩, .string ⟨#[102]⟩, .string ⟨#[103]⟩, .string ⟨#[104]⟩, .string ⟨#[97, 97]⟩, .string ⟨#[107, 49]⟩, .string ⟨#[122, 122, 122, 122, 122, 122, 122, 122]⟩, .string ⟨#[0]⟩] 9) = U at *
  rintro e w1 ⟨⟨x, rfl, hx0, hx1⟩, hg1, hc1⟩
  have D1 := hid (D0.out.step hg1 hc1)
  have K1 := hid (K0.out.grownR hg1 (by have := D0.out.ng; omega))
  clear hg1 hc1 D0 K0
  obtain ⟨k, hk, hkl⟩ : ∃ k : Nat, x.tmod 12 = (k : Int) ∧ k < 12 := ⟨(x % 12).toNat, by rw [Int.tmod_eq_emod_of_nonneg hx0]; omega, by omega⟩
  obtain ⟨s, hs⟩ := l08User_tab k hkl
  have hc : w1.cell? ⟨w.heap.size, k, none⟩ = some (.string s) := K1.out.cell (j := k) (by simpa using hs)
  have hkl' : (k : Int) < 12 := by omega
  clear hs K1
  go_wp2
  go_ret
  exact ⟨⟨s, rfl⟩, D1.out.gr, D1.out.cu⟩
theorem l08Uval_tab (k : Nat) (h : k < 6) : ∃ s : ByteArray, (#[.string ⟨#[]⟩, .string ⟨#[49]⟩, .string ⟨#[50]⟩, .string ⟨#[120]⟩, .string ⟨#[121, 121]⟩, .string ⟨#[49, 50, 51, 52, 53, 54, 55, 56, 57, 48, 49, 50, 51, 52, 53, 54, 55, 56, 57, 48]⟩] : Array Value)[k]? = some (.string s) := by
  rcases (by omega : k = 0 ∨ k = 1 ∨ k = 2 ∨ k = 3 ∨ k = 4 ∨ k = 5) with rfl | rfl | rfl | rfl | rfl | rfl
  · exact ⟨_, rfl⟩
  · exact ⟨_, rfl⟩
  · exact ⟨_, rfl⟩
  · exact ⟨_, rfl⟩
  · exact ⟨_, rfl⟩
  · exact ⟨_, rfl⟩
set_option maxHeartbeats 4000000 in
theorem l08Uval_any (g : Nat) (w : World) (h : Cu w g) : Calls Try.prog 60 #[.pointer (some ⟨g, 0, none⟩)] w fun e w' => (∃ s : ByteArray, e = .returned (.string s)) ∧ w.grownBy w' (some g) ∧ Cu w' g := by
  have D0 := hid ((DG.start h).alloc (.cells #[.string ⟨#[]⟩, .string ⟨#[49]⟩, .string ⟨#[50]⟩, .string ⟨#[120]⟩, .string ⟨#[121, 121]⟩, .string ⟨#[49, 50, 51, 52, 53, 54, 55, 56, 57, 48, 49, 50, 51, 52, 53, 54, 55, 56, 57, 48]⟩] 9))
  have K0 := hid (Bk.new w 9 [.string ⟨#[]⟩, .string ⟨#[49]⟩, .string ⟨#[50]⟩, .string ⟨#[120]⟩, .string ⟨#[121, 121]⟩, .string ⟨#[49, 50, 51, 52, 53, 54, 55, 56, 57, 48, 49, 50, 51, 52, 53, 54, 55, 56, 57, 48]⟩])
  clear h
  go_enter Try.func60, Try.ntmps60
  go_wp2_with fail
  refine (below_any g 6 _ D0.out.cu (by omega) (by omega)).mono ?_
  generalize w.alloc (.cells #[.string ⟨#[]⟩, .string ⟨#[49]⟩, .string ⟨#[50]⟩, .string ⟨#[120]⟩, .string ⟨#[121, 121]⟩, .string ⟨#[49, 50, 51, 52, 53, 54, 55, 56, 57, 48, 49, 50, 51, 52, 53, 54, 55, 56, 57, 48]⟩] 9) = U at *
  rintro e w1 ⟨⟨x, rfl, hx0, hx1⟩, hg1, hc1⟩
  have D1 := hid (D0.out.step hg1 hc1)
  have K1 := hid (K0.out.grownR hg1 (by have := D0.out.ng; omega))
  clear hg1 hc1 D0 K0
  obtain ⟨k, rfl⟩ : ∃ k : Nat, x = (k : Int) := ⟨x.toNat, by omega⟩
  have hkl : k < 6 := by omega
  obtain ⟨s, hs⟩ := l08Uval_tab k hkl
  have hc : w1.cell? ⟨w.heap.size, k, none⟩ = some (.string s) := K1.out.cell (j := k) (by simpa using hs)
  have hkl' : (k : Int) < 6 := by omega
  clear hs K1
  go_wp2
  go_ret
  exact ⟨⟨s, rfl⟩, D1.out.gr, D1.out.cu⟩
end Go.Proofs.Ytjbamfgfgbmieaa
/-
  The reaches and records that the laws draw.
-/
namespace Go.Proofs.Ytjbamfgfgbmieaa
open Go.RowKit
set_option linter.unusedVariables false
set_option maxHeartbeats 4000000 in
theorem l08Reach_any (g : Nat) (w : World) (h : Cu w g) : Calls Try.prog 58 #[.pointer (some ⟨g, 0, none⟩)] w fun e w' => (∃ lo hi : ByteArray, e = .returned (.agg #[.string lo, .string hi])) ∧ w.grownBy w' (some g) ∧ Cu w' g := by
  have D0 := hid (Dw.new h ⟨#[]⟩ ⟨#[]⟩)
  clear h
  go_enter Try.func58, Try.ntmps58
  go_wp2_with fail
  refine (l08User_any g _ D0.out.cu).mono ?_
  rintro e w1 ⟨⟨a, rfl⟩, hg1, hc1⟩
  have D1 := hid (D0.out.step hg1 hc1)
  clear hg1 hc1 D0
  go_wp2_with fail
  refine (l08User_any g _ D1.out.cu).mono ?_
  rintro e w2 ⟨⟨b, rfl⟩, hg1, hc1⟩
  have D2 := hid (D1.out.step hg1 hc1)
  clear hg1 hc1 D1
  have HPO : Hid (∀ w, Calls Try.prog 80 #[.string a] w fun e w' => e = .returned (.agg #[.string (ptLo a), .string (ptHi a)]) ∧ Below w.heap.size w w') := fun w => specPointOf_any a w
  generalize ptLo a = pl at *
  generalize ptHi a = ph at *
  have late : Hid (∀ t1 : Op.bytesLess a.toList b.toList = true, True) := fun _ => trivial
  clear late
  rcases tri a b with ⟨t1, t2, t3, t4⟩ | rfl | ⟨t1, t2, t3, t4⟩
  · go_wp2_with fail
    refine (below_any g 4 _ D2.out.cu (by omega) (by omega)).mono ?_
    rintro e w3 ⟨⟨x, rfl, hx0, hx1⟩, hg1, hc1⟩
    have D3 := hid (D2.out.step hg1 hc1)
    clear hg1 hc1 D2
    obtain ⟨r0, r1, r2, r3⟩ := D3.out.bk.facts
    by_cases hx : x = 0
    · subst hx
      clear hx0 hx1
      go_wp2
      try simp only [Exit.inBlock, Exit.then]
      refine bodyPost_ret (v := rng a ⟨#[]⟩) ?_ rfl ?_
      · exact results_rng rfl _ _ _ rfl (by go_simp) (by go_simp)
      · exact ⟨⟨_, _, rfl⟩, D3.out.set0.set1.gr, D3.out.set0.set1.cu⟩
    · have hx2 : (x == 0) = false := by simpa using hx
      go_wp2
      try simp only [Exit.inBlock, Exit.then]
      refine bodyPost_ret (v := rng a b) ?_ rfl ?_
      · exact results_rng rfl _ _ _ rfl (by go_simp) (by go_simp)
      · exact ⟨⟨_, _, rfl⟩, D3.out.set0.set1.gr, D3.out.set0.set1.cu⟩
  · have t9 := less_irrefl a.toList
    go_wp2_with fail
    refine (HPO.out _).mono ?_
    rintro e w4 ⟨rfl, hb4⟩
    have D4 := hid (D2.out.call hb4)
    clear hb4 D2
    obtain ⟨r0, r1, r2, r3⟩ := D4.out.bk.facts
    go_wp2
    try simp only [Exit.inBlock, Exit.then]
    refine bodyPost_ret (v := rng pl ph) ?_ rfl ?_
    · exact results_rng rfl _ _ _ rfl (by go_simp) (by go_simp)
    · exact ⟨⟨_, _, rfl⟩, D4.out.set0.set1.gr, D4.out.set0.set1.cu⟩
  · go_wp2_with fail
    refine (HPO.out _).mono ?_
    rintro e w4 ⟨rfl, hb4⟩
    have D4 := hid (D2.out.call hb4)
    clear hb4 D2
    obtain ⟨r0, r1, r2, r3⟩ := D4.out.bk.facts
    go_wp2
    try simp only [Exit.inBlock, Exit.then]
    refine bodyPost_ret (v := rng pl ph) ?_ rfl ?_
    · exact results_rng rfl _ _ _ rfl (by go_simp) (by go_simp)
    · exact ⟨⟨_, _, rfl⟩, D4.out.set0.set1.gr, D4.out.set0.set1.cu⟩
end Go.Proofs.Ytjbamfgfgbmieaa
/-
  Drawn data.
-/
namespace Go.Proofs.Ytjbamfgfgbmieaa
open Go.RowKit
set_option linter.unusedVariables false
def lpB : Bool → Nat
  | true => 0
  | false => 1
theorem lpStep_len (k v : ByteArray) (s : List PB × Bool) (p : PB) : (lpStep k v s p).1.length + lpB (lpStep k v s p).2 ≤ s.1.length + lpB s.2 + 1 := by
  unfold lpStep
  obtain ⟨l, b⟩ := s
  cases b <;> cases hk : klt p.1 k <;> by_cases hp : p.1 = k <;> simp_all [lpB]
theorem lpF_len (k v : ByteArray) : ∀ (l : List PB) (s : List PB × Bool), (l.foldl (lpStep k v) s).1.length + lpB (l.foldl (lpStep k v) s).2 ≤ s.1.length + lpB s.2 + l.length
  | [], s => Nat.le_refl _
  | p :: l, s => by
    have h1 := lpStep_len k v s p
    have h2 := lpF_len k v l (lpStep k v s p)
    simp only [List.foldl_cons, List.length_cons]
    omega
theorem lpV_len (l : List PB) (k v : ByteArray) : (lpV l k v false).length ≤ l.length + 1 := by
  have h := lpF_len k v l ([], false)
  unfold lpV lpS lpE
  rw [List.take_length]
  generalize l.foldl (lpStep k v) ([], false) = s at *
  obtain ⟨o, b⟩ := s
  cases b <;> simp [lpB] at h ⊢ <;> omega
theorem ow_grownO {w w' : World} {B g : Nat} {v : Value} {l : List PB} (h : Ow w B v l) (hg : w.grownBy w' (some g)) (hlt : g < B) : Ow w' B v l :=
  h.to (only_of_grown hg (R := fun y => y = g) (fun q hq => by cases hq; rfl)) (fun q hq e => by have := (World.ownsRow.lt h q hq).1; omega)
set_option maxHeartbeats 4000000 in
theorem valS_any (g : Nat) (w : World) (h : Cu w g) : Calls Try.prog 79 #[.pointer (some ⟨g, 0, none⟩)] w fun e w' => (∃ s : ByteArray, e = .returned (.string s)) ∧ w.grownBy w' (some g) ∧ Cu w' g := by
  have HC := hid h
  clear h
  go_enter Try.func79, Try.ntmps79
  go_wp2_with fail
  refine (below_any g 12 w HC.out (by omega) (by omega)).mono ?_
  rintro e w1 ⟨⟨x, rfl, hx0, hx1⟩, hg1, hc1⟩
  have HG1 := hid hg1
  have HC1 := hid hc1
  clear hg1 hc1 HC
  by_cases h0 : x = 0
  · subst h0
    clear hx0 hx1
    go_wp2
    go_ret
    exact ⟨⟨_, rfl⟩, HG1.out, HC1.out⟩
  · by_cases h1 : x = 1
    · subst h1
      clear hx0 hx1 h0
      have hmk := made_any 60 60 (by omega) (by omega)
      have hst := run_str (rd_made w1 60 (by omega))
      generalize strOf (List.replicate 60 0) = s6 at hst
      go_wp2
      go_ret
      exact ⟨⟨_, rfl⟩, grownBy_trans HG1.out (grownBy_alloc _ _ _), HC1.out.alloc _⟩
    · go_wp2_with fail
      refine (below_any g 50 w1 HC1.out (by omega) (by omega)).mono ?_
      rintro e w2 ⟨⟨y, rfl, hy0, hy1⟩, hg2, hc2⟩
      have HG2 := hid (grownBy_trans HG1.out hg2)
      have HC2 := hid hc2
      clear hg2 hc2 HG1 HC1
      go_wp2_with fail
      refine (numText_any y w2 hy0 (by omega)).mono ?_
      rintro e w3 ⟨⟨s, rfl, hs⟩, hb3⟩
      have HG3 := hid (grownBy_trans HG2.out (grown_of_below hb3 _))
      have HC3 := hid (HC2.out.below hb3)
      clear hb3 HG2 HC2
      go_wp2
      go_ret
      exact ⟨⟨_, rfl⟩, HG3.out, HC3.out⟩
set_option maxHeartbeats 4000000 in
theorem anyValS_any (g : Nat) (w : World) (h : Cu w g) : Calls Try.prog 57 #[.pointer (some ⟨g, 0, none⟩)] w fun e w' => (∃ s : ByteArray, e = .returned (.string s)) ∧ w.grownBy w' (some g) ∧ Cu w' g := by
  have HC := hid h
  clear h
  go_enter Try.func57, Try.ntmps57
  go_wp2_with fail
  refine (below_any g 14 w HC.out (by omega) (by omega)).mono ?_
  rintro e w1 ⟨⟨x, rfl, hx0, hx1⟩, hg1, hc1⟩
  have HG1 := hid hg1
  have HC1 := hid hc1
  clear hg1 hc1 HC
  by_cases h0 : x = 0
  · subst h0
    have hmk := made_any 61 61 (by omega) (by omega)
    have hst := run_str (rd_made w1 61 (by omega))
    generalize strOf (List.replicate 61 0) = s6 at hst
    go_wp2
    go_ret
    exact ⟨⟨_, rfl⟩, grownBy_trans HG1.out (grownBy_alloc _ _ _), HC1.out.alloc _⟩
  · go_wp2_with fail
    refine (valS_any g w1 HC1.out).mono ?_
    rintro e w2 ⟨⟨s, rfl⟩, hg2, hc2⟩
    have HG2 := hid (grownBy_trans HG1.out hg2)
    have HC2 := hid hc2
    clear hg2 hc2
    go_wp2
    go_ret
    exact ⟨⟨_, rfl⟩, HG2.out, HC2.out⟩
set_option maxHeartbeats 4000000 in
theorem l13Data_any (g : Nat) (w : World) (h : Cu w g) : Calls Try.prog 55 #[.pointer (some ⟨g, 0, none⟩)] w fun e w' => (∃ a n c l, e = .returned (.slice a n c) ∧ n ≤ 7 ∧ Ow w' w.heap.size (.slice a n c) l) ∧ w.grownBy w' (some g) ∧ Cu w' g := by
  have D0 := hid ((DG.start h).alloc (.cells #[] 34))
  have O0 := hid (ow_new w w.heap.size (Nat.le_refl _))
  clear h
  go_enter Try.func55, Try.ntmps55
  go_wp2_with fail
  refine (below_any g 7 _ D0.out.cu (by omega) (by omega)).mono ?_
  generalize w.alloc (.cells #[] 34) = U at *
  rintro e w1 ⟨⟨x, rfl, hx0, hx1⟩, hg, hc⟩
  have O1 := hid (ow_grownO O0.out hg D0.out.ng)
  have D1 := hid (D0.out.step hg hc)
  clear hg hc D0 O0
  obtain ⟨k0, rfl⟩ : ∃ k0 : Nat, x = (k0 : Int) := ⟨x.toNat, by omega⟩
  go_wp2_with fail
  go_loopw [3, 4] (fun y i wr => ∃ (k : Nat) (av : Option Addr) (nv cv : Nat) (l : List PB), i = .int .i64 k ∧ y = .slice av nv cv ∧ nv + k ≤ 6 ∧ Hid (Ow wr w.heap.size (.slice av nv cv) l) ∧ Hid (DG w wr g)) (fun _ i _ => (intOf i).toNat)
  case atStart => exact ⟨k0, _, 0, 0, [], rfl, rfl, by omega, O1.out, D1.out⟩
  case round =>
    obtain ⟨k, av, nv, cv, l, rfl, rfl, hle, HO, HD⟩ := hrel
    clear O1 D1
    by_cases hlt : 0 < k
    · have hlt' : (0 : Int) < (k : Int) := by omega
      go_wp2_with fail
      refine (l08User_any g _ HD.out.cu).mono ?_
      rintro e w2 ⟨⟨s, rfl⟩, hg, hc⟩
      have O2 := hid (ow_grownO HO.out hg HD.out.ng)
      have D2 := hid (HD.out.step hg hc)
      clear hg hc HO HD
      go_wp2_with fail
      refine (l08Uval_any g _ D2.out.cu).mono ?_
      rintro e w3 ⟨⟨s2, rfl⟩, hg, hc⟩
      have O3 := hid (ow_grownO O2.out hg D2.out.ng)
      have D3 := hid (D2.out.step hg hc)
      clear hg hc O2 D2
      have HNL := hid (Rw.len (O3.out.pr (S := fun _ => True) (fun _ _ _ _ => trivial))).1
      go_wp2_with fail
      refine (l10Put_any (fun _ => True) av nv cv l s s2 false _ (O3.out.pr (fun _ _ _ _ => trivial)) (by omega)).mono ?_
      rintro e w4 ⟨a4, n4, c4, rfl, hO, hb⟩
      have HL4 : Hid (n4 ≤ nv + 1) := by
        show _ ≤ _
        have h1 := (Rw.len (hO.pr (S := fun _ => True) (fun _ _ _ _ => trivial))).1
        have h2 := lpV_len l s s2
        have h3 := HNL.out
        omega
      have O4 := hid (ow_mono hO D3.out.gr.size)
      have D4 := hid (D3.out.call hb)
      have HLE : Hid (n4 + (k - 1) ≤ 6) := by show _ ≤ _; have := HL4.out; omega
      clear hO hb O3 D3 HNL HL4
      obtain ⟨j, rfl⟩ : ∃ j, k = j + 1 := ⟨k - 1, by omega⟩
      have hw : IntKind.i64.wrap ((j : Int) + 1 - 1) = (j : Int) := by rw [IntKind.wrap_i64]; omega
      go_wp2
      go_roundw
      case rel => exact ⟨j, a4, n4, c4, _, by first | rfl | go_num, rfl, by have := HLE.out; omega, O4.out, D4.out⟩
      case measure => simp [intOf]
    · have hlt' : ¬ (0 : Int) < (k : Int) := by omega
      have hn7 : nv ≤ 7 := by omega
      go_wp2
      go_ret
      exact ⟨⟨_, _, _, rfl, hn7, _, HO.out⟩, HD.out.gr, HD.out.cu⟩
set_option maxHeartbeats 4000000 in
theorem l13Any_any (g : Nat) (w : World) (h : Cu w g) : Calls Try.prog 30 #[.pointer (some ⟨g, 0, none⟩)] w fun e w' => (∃ a n c l, e = .returned (.slice a n c) ∧ n ≤ 7 ∧ Pr w' (fun b => w.heap.size ≤ b) (.slice a n c) l) ∧ w.grownBy w' (some g) ∧ Cu w' g := by
  have D0 := hid (DG.start h)
  clear h
  go_enter Try.func30, Try.ntmps30
  go_wp2_with fail
  refine (l13Data_any g _ D0.out.cu).mono ?_
  rintro e w1 ⟨⟨a, n, c, l, rfl, hn7, hO⟩, hg, hc⟩
  have O1 := hid hO
  have D1 := hid (D0.out.step hg hc)
  clear hO hg hc
  have FIN : Hid (∀ v, DG w v g → Ow v w.heap.size (.slice a n c) l → True ∧ Pr v (fun b => w.heap.size ≤ b) (.slice a n c) l ∧ w.grownBy v (some g) ∧ Cu v g) := fun v hd ho => ⟨trivial, ho.pr (fun _ _ hb _ => hb), hd.gr, hd.cu⟩
  by_cases hn : 0 < n
  · have hn' : (0 : Int) < (n : Int) := by omega
    go_wp2_with fail
    refine (below_any g 8 _ D1.out.cu (by omega) (by omega)).mono ?_
    rintro e w2 ⟨⟨x, rfl, hx0, hx1⟩, hg, hc⟩
    have O2 := hid (ow_grownO O1.out hg D1.out.ng)
    have D2 := hid (D1.out.step hg hc)
    clear hg hc O1 D1
    by_cases hz : x = 0
    · subst hz
      go_wp2_with fail
      refine (below_any g (n : Int) _ D2.out.cu (by omega) (by omega)).mono ?_
      rintro e w3 ⟨⟨y, rfl, hy0, hy1⟩, hg, hc⟩
      have O3 := hid (ow_grownO O2.out hg D2.out.ng)
      have D3 := hid (D2.out.step hg hc)
      clear hg hc O2 D2
      obtain ⟨q, rfl⟩ : ∃ q : Nat, y = (q : Int) := ⟨y.toNat, by omega⟩
      go_wp2_with fail
      refine (anyKey_any g _ D3.out.cu).mono ?_
      rintro e w4 ⟨⟨s, rfl, _⟩, hg, hc⟩
      have O4 := hid (ow_grownO O3.out hg D3.out.ng)
      have D4 := hid (D3.out.step hg hc)
      clear hg hc O3 D3
      go_wp2_with fail
      refine (anyValS_any g _ D4.out.cu).mono ?_
      rintro e w5 ⟨⟨s2, rfl⟩, hg, hc⟩
      have O5 := hid (ow_grownO O4.out hg D4.out.ng)
      have D5 := hid (D4.out.step hg hc)
      clear hg hc O4 D4
      obtain ⟨b, rfl, hbb, hnl, hnc, hcc, hro⟩ := O5.out.ro hn
      have hq : q < n := by omega
      obtain ⟨a0, a1, a2, a3⟩ := hro.cell hq
      generalize pAtB l q = old at a0 a1
      obtain ⟨o0, o1⟩ := old
      simp only at a0 a1
      have hrs := hro.set hq s s2
      have P6 : Hid (Pr ((w5.setCell ⟨b, q * 2, none⟩ (.string s)).setCell ⟨b, q * 2 + 1, none⟩ (.string s2)) (fun z => w.heap.size ≤ z) (.slice (some ⟨b, 0, none⟩) n c) (l.set q (s, s2))) := by
        show Pr _ _ _ _
        refine hrs.pr (by rw [List.length_set]; exact hnl.symm) (Nat.le_refl _) hnc hcc (fun x hx => ?_) _ hbb
        unfold upd
        by_cases e : x = q
        · subst e
          rw [if_pos rfl]
          simp [pAtB, show x < l.length by omega]
        · rw [if_neg e]
          simp [pAtB, List.getElem?_set_ne (Ne.symm e)]
      have D6 : Hid (DG w ((w5.setCell ⟨b, q * 2, none⟩ (.string s)).setCell ⟨b, q * 2 + 1, none⟩ (.string s2)) g) := by
        have hne : g ≠ b := by have := D5.out.ng; omega
        have hon : Only (fun z => z = b) w5 ((w5.setCell ⟨b, q * 2, none⟩ (.string s)).setCell ⟨b, q * 2 + 1, none⟩ (.string s2)) := (only_set (R := fun z => z = b) (p := ⟨b, q * 2, none⟩) rfl _).trans (only_set (R := fun z => z = b) (p := ⟨b, q * 2 + 1, none⟩) rfl _)
        have gr := D5.out.gr
        refine ⟨⟨hon.os.trans gr.os, hon.tape.trans gr.tape, hon.output.trans gr.output, Nat.le_trans gr.size hon.size, fun z hz hz2 => (hon.block z (Nat.lt_of_lt_of_le hz gr.size) (fun e => by omega)).trans (gr.block z hz hz2)⟩, ?_, D5.out.ng⟩
        exact D5.out.cu.kept (row := some b) ⟨hon.os, hon.tape, hon.output, hon.size, fun k hk hk2 => hon.block k hk (fun e => hk2 (by rw [e]))⟩ (fun k e => by cases e; have := D5.out.ng; omega)
      clear hro hrs O5 D5 FIN hnl
      go_wp2
      go_ret
      exact ⟨⟨_, _, _, _, rfl, hn7, P6.out⟩, D6.out.gr, D6.out.cu⟩
    · go_wp2
      go_ret
      obtain ⟨_, f1, f2, f3⟩ := FIN.out _ D2.out O2.out
      exact ⟨⟨_, _, _, _, rfl, hn7, f1⟩, f2, f3⟩
  · have hn' : ¬ (0 : Int) < (n : Int) := by omega
    go_wp2
    go_ret
    obtain ⟨_, f1, f2, f3⟩ := FIN.out _ D1.out O1.out
    exact ⟨⟨_, _, _, _, rfl, hn7, f1⟩, f2, f3⟩
end Go.Proofs.Ytjbamfgfgbmieaa
/-
  Locks as plain data: names of transactions, rows of locks, what clashes, when a table of locks is right, asking and freeing.
-/
namespace Go.Proofs.Ytjbamfgfgbmieaa
open Go.RowKit
set_option linter.unusedVariables false
abbrev TX := Int × Int × Int
/-- A lock: its transaction, its range, whether it is exclusive. -/
abbrev LK := TX × (ByteArray × ByteArray) × Bool
def lk0 : LK := ((0, 0, 0), (⟨#[]⟩, ⟨#[]⟩), false)
def lAt (l : List LK) (i : Nat) : LK := l[i]?.getD lk0
theorem lAt_take {l : List LK} {i k : Nat} (h : i < k) : lAt (l.take k) i = lAt l i := by simp [lAt, List.getElem?_take_of_lt h]
theorem lAt_mem {l : List LK} {i : Nat} (h : i < l.length) : lAt l i ∈ l := by simp [lAt, h]
/-- The cells of a row of locks. -/
def lcs : List LK → List Value
  | [] => []
  | p :: ps => .int .i64 p.1.1 :: .int .i64 p.1.2.1 :: .int .i64 p.1.2.2 :: .string p.2.1.1 :: .string p.2.1.2 :: .bool p.2.2 :: lcs ps
theorem lcs_length (l : List LK) : (lcs l).length = l.length * 6 := by
  induction l with
  | nil => rfl
  | cons p ps ih => simp [lcs, ih]; omega
theorem lcs_append (l r : List LK) : lcs (l ++ r) = lcs l ++ lcs r := by
  induction l with
  | nil => rfl
  | cons p ps ih => simp only [lcs, List.cons_append, ih]
theorem lcs_take (l : List LK) : ∀ k, lcs (l.take k) = (lcs l).take (k * 6) := by
  induction l with
  | nil => intro k; simp [lcs]
  | cons p ps ih =>
    intro k
    cases k with
    | zero => rfl
    | succ k =>
      rw [show (k + 1) * 6 = k * 6 + 6 by omega]
      simp only [List.take_succ_cons, lcs, ih]
theorem lcs_at (l : List LK) : ∀ i, i < l.length → (lcs l)[i * 6]? = some (.int .i64 (lAt l i).1.1) ∧ (lcs l)[i * 6 + 1]? = some (.int .i64 (lAt l i).1.2.1) ∧ (lcs l)[i * 6 + 2]? = some (.int .i64 (lAt l i).1.2.2) ∧
    (lcs l)[i * 6 + 3]? = some (.string (lAt l i).2.1.1) ∧ (lcs l)[i * 6 + 4]? = some (.string (lAt l i).2.1.2) ∧ (lcs l)[i * 6 + 5]? = some (.bool (lAt l i).2.2) := by
  induction l with
  | nil => intro i h; exact absurd h (Nat.not_lt_zero _)
  | cons p ps ih =>
    intro i h
    cases i with
    | zero => exact ⟨rfl, rfl, rfl, rfl, rfl, rfl⟩
    | succ i =>
      have := ih i (by simpa using h)
      rw [show (i + 1) * 6 = i * 6 + 6 by omega, show i * 6 + 6 + 1 = i * 6 + 1 + 6 by omega, show i * 6 + 6 + 2 = i * 6 + 2 + 6 by omega, show i * 6 + 6 + 3 = i * 6 + 3 + 6 by omega, show i * 6 + 6 + 4 = i * 6 + 4 + 6 by omega, show i * 6 + 6 + 5 = i * 6 + 5 + 6 by omega]
      exact this
theorem lcs_set (l : List LK) (p : LK) : ∀ j, j < l.length → lcs (l.set j p) = ((((((lcs l).set (j * 6) (.int .i64 p.1.1)).set (j * 6 + 1) (.int .i64 p.1.2.1)).set (j * 6 + 2) (.int .i64 p.1.2.2)).set (j * 6 + 3) (.string p.2.1.1)).set (j * 6 + 4) (.string p.2.1.2)).set (j * 6 + 5) (.bool p.2.2) := by
  induction l with
  | nil => intro j h; exact absurd h (Nat.not_lt_zero _)
  | cons q l ih =>
    intro j h
    cases j with
    | zero => rfl
    | succ j =>
      have := ih j (by simpa using h)
      rw [show (j + 1) * 6 = j * 6 + 6 by omega, show j * 6 + 6 + 1 = j * 6 + 1 + 6 by omega, show j * 6 + 6 + 2 = j * 6 + 2 + 6 by omega, show j * 6 + 6 + 3 = j * 6 + 3 + 6 by omega, show j * 6 + 6 + 4 = j * 6 + 4 + 6 by omega, show j * 6 + 6 + 5 = j * 6 + 5 + 6 by omega]
      show Value.int .i64 q.1.1 :: Value.int .i64 q.1.2.1 :: Value.int .i64 q.1.2.2 :: Value.string q.2.1.1 :: Value.string q.2.1.2 :: Value.bool q.2.2 :: lcs (l.set j p) = _
      rw [this]
      rfl
theorem lcs_one (l : List LK) : ∀ u ∈ lcs l, u.oneCell' = true := by
  induction l with
  | nil => intro u hu; cases hu
  | cons p ps ih =>
    intro u hu
    simp only [lcs, List.mem_cons] at hu
    rcases hu with rfl | rfl | rfl | rfl | rfl | rfl | hu
    · rfl
    · rfl
    · rfl
    · rfl
    · rfl
    · rfl
    · exact ih u hu
/-- The slice value v leads to the locks l. -/
def Lr (w : World) (S : Nat → Prop) (v : Value) (l : List LK) : Prop := Rw w S v l.length (lcs l)
theorem Lr.to {w w' : World} {S R : Nat → Prop} {v : Value} {l : List LK} (h : Lr w S v l) (ho : Only R w w') (hd : ∀ b, S b → b < w.heap.size → ¬ R b) : Lr w' S v l := Rw.to h ho hd
theorem Lr.below {w w' : World} {S : Nat → Prop} {v : Value} {l : List LK} (h : Lr w S v l) (hb : Below w.heap.size w w') : Lr w' S v l := Rw.to h (only_of_below hb (fun _ => False)) (fun _ _ _ h => h)
theorem Lr.mono {w : World} {S R : Nat → Prop} {v : Value} {l : List LK} (h : Lr w S v l) (hd : ∀ b, S b → b < w.heap.size → R b) : Lr w R v l := Rw.mono h hd
theorem Lr.len {w : World} {S : Nat → Prop} {a : Option Addr} {n c : Nat} {l : List LK} (h : Lr w S (.slice a n c) l) : n = l.length ∧ n ≤ c ∧ c ≤ 9223372036854775807 := Rw.len h
theorem Lr.at {w : World} {S : Nat → Prop} {a : Option Addr} {n c : Nat} {l : List LK} (h : Lr w S (.slice a n c) l) (hp : 0 < n) : ∃ b off, a = some ⟨b, off, none⟩ ∧ S b ∧ b < w.heap.size ∧
    ∀ i, i < n → w.cell? ⟨b, off + i * 6, none⟩ = some (.int .i64 (lAt l i).1.1) ∧ w.cell? ⟨b, off + i * 6 + 1, none⟩ = some (.int .i64 (lAt l i).1.2.1) ∧ w.cell? ⟨b, off + i * 6 + 2, none⟩ = some (.int .i64 (lAt l i).1.2.2) ∧
      w.cell? ⟨b, off + i * 6 + 3, none⟩ = some (.string (lAt l i).2.1.1) ∧ w.cell? ⟨b, off + i * 6 + 4, none⟩ = some (.string (lAt l i).2.1.2) ∧ w.cell? ⟨b, off + i * 6 + 5, none⟩ = some (.bool (lAt l i).2.2) := by
  obtain ⟨b, off, h1, h2, h3, h4⟩ := Rw.at h hp
  refine ⟨b, off, h1, h2, h3, fun i hi => ?_⟩
  have hn := h.len.1
  obtain ⟨k0, k1, k2, k3, k4, k5⟩ := lcs_at l i (by omega)
  exact ⟨h4 _ _ k0, by rw [Nat.add_assoc]; exact h4 _ _ k1, by rw [Nat.add_assoc]; exact h4 _ _ k2, by rw [Nat.add_assoc]; exact h4 _ _ k3, by rw [Nat.add_assoc]; exact h4 _ _ k4, by rw [Nat.add_assoc]; exact h4 _ _ k5⟩
theorem lr_nil (w : World) (S : Nat → Prop) : Lr w S (.slice none 0 0) [] := rw_nil w S
/-- The first locks of a row. -/
theorem Lr.first {w : World} {S : Nat → Prop} {a : Option Addr} {n c : Nat} {l : List LK} (h : Lr w S (.slice a n c) l) (k : Nat) (hk : k ≤ n) : Lr w S (.slice a k c) (l.take k) := by
  obtain ⟨a', c', h1, h2, h3, h4, hn, h5⟩ := h
  cases h1
  have hl : (l.take k).length = k := by simp; omega
  unfold Lr
  rw [hl]
  refine ⟨a, c, rfl, by omega, h3, fun h0 => by subst h0; rfl, hn, fun hp => ?_⟩
  obtain ⟨b, off, h6, h7, h8, h9⟩ := h5 (by omega)
  refine ⟨b, off, h6, h7, h8, fun j u hu => h9 j u ?_⟩
  rw [lcs_take] at hu
  have hj : j < k * 6 := by
    rcases Nat.lt_or_ge j (k * 6) with h | h
    · exact h
    · rw [List.getElem?_eq_none (by simp; omega)] at hu; cases hu
  rwa [List.getElem?_take_of_lt hj] at hu
theorem Lr.offS {w : World} {S : Nat → Prop} {a : Option Addr} {n c : Nat} {l : List LK} (h : Lr w S (.slice a n c) l) (k : Nat) (hk : k ≤ n) : Lr w S (.slice a k c) (l.take k) := h.first k hk
theorem anyl_take {α : Type} (l : List α) (f : α → Bool) (d : α) {k : Nat} (h : k < l.length) : (l.take (k + 1)).any f = ((l.take k).any f || f (l[k]?.getD d)) := by
  rw [List.take_succ_eq_append_getElem h, List.any_append]
  simp [h]
theorem anyl_yes {α : Type} (l : List α) (f : α → Bool) (d : α) {k : Nat} (h : k < l.length) (hf : f (l[k]?.getD d) = true) : l.any f = true := by
  rw [List.any_eq_true]
  exact ⟨l[k], List.getElem_mem h, by simpa [h] using hf⟩
theorem rall_succ (f : Nat → Bool) (k : Nat) : (List.range (k + 1)).all f = ((List.range k).all f && f k) := by simp [List.range_succ, List.all_append]
theorem rall_no (f : Nat → Bool) {k n : Nat} (h : k < n) (hf : f k = false) : (List.range n).all f = false := by
  rw [List.all_eq_false]
  exact ⟨k, by simpa using h, by simp [hf]⟩
/-- When a name is right; when one is after another. -/
def txOk (x : TX) : Bool := decide (0 ≤ x.1) && (decide (x.1 ≤ 7) && (decide (1 ≤ x.2.1) && (decide (x.2.1 ≤ 999) && (decide (1 ≤ x.2.2) && decide (x.2.2 ≤ 999)))))
theorem txOk_iff (x : TX) : txOk x = true ↔ (0 ≤ x.1 ∧ x.1 ≤ 7 ∧ 1 ≤ x.2.1 ∧ x.2.1 ≤ 999 ∧ 1 ≤ x.2.2 ∧ x.2.2 ≤ 999) := by simp [txOk]
def txAfter (a b : TX) : Bool := txOk a && (txOk b && (decide (a.1 = b.1) && (decide (b.2.1 < a.2.1) || (decide (a.2.1 = b.2.1) && decide (b.2.2 < a.2.2)))))
def lkOk (x : LK) : Bool := txOk x.1 && rOk x.2.1.1 x.2.1.2
def clash (a b : LK) : Bool := !decide (a.1 = b.1) && ((a.2.2 || b.2.2) && bth a.2.1.1 a.2.1.2 b.2.1.1 b.2.1.2)
def anyC (l : List LK) (x : LK) : Bool := l.any (clash x)
def hasT (l : List LK) (t : TX) : Bool := l.any (fun y => decide (y.1 = t))
def hpk (l : List LK) (i : Nat) : Bool := lkOk (lAt l i) && !anyC (l.take i) (lAt l i)
def wpk (h l : List LK) (i : Nat) : Bool := lkOk (lAt l i) && (!hasT (l.take i) (lAt l i).1 && (anyC h (lAt l i) || anyC (l.take i) (lAt l i)))
def heldB (h : List LK) : Bool := (List.range h.length).all (hpk h)
def waitB (h l : List LK) : Bool := (List.range l.length).all (wpk h l)
/-- When a table of locks is right. -/
def lksOk (h l : List LK) : Bool := decide (h.length + l.length ≤ 60) && (heldB h && waitB h l)
theorem lksOk_len {h l : List LK} (e : lksOk h l = true) : h.length + l.length ≤ 60 := by
  simp [lksOk] at e
  exact e.1
/-- One lock more. -/
def mustW (h l : List LK) (x : LK) : Bool := anyC h x || anyC l x
def putL (h l : List LK) (x : LK) : List LK × List LK := if mustW h l x then (h, l ++ [x]) else (h ++ [x], l)
/-- LockAsk: the code, and the table. -/
def askC (h l : List LK) (x : LK) : Int := if lksOk h l && (lkOk x && !hasT l x.1) then (if h.length + l.length = 60 then 2 else if mustW h l x then 3 else 0) else 1
def askT (h l : List LK) (x : LK) : List LK × List LK := if lksOk h l && (lkOk x && !hasT l x.1) then (if h.length + l.length = 60 then ([], []) else putL h l x) else ([], [])
/-- LockFree over those that wait and aren't freed: the table, and what was granted. -/
def grant : List LK → List LK × List LK × List LK → List LK × List LK × List LK
  | [], s => s
  | y :: ys, (h, l, g) => grant ys (if mustW h l y then (h, l ++ [y], g) else (h ++ [y], l, g ++ [y]))
def others (l : List LK) (t : TX) : List LK := l.filter (fun y => !decide (y.1 = t))
def freeV (h l : List LK) (t : TX) : List LK × List LK × List LK := if lksOk h l then grant (others l t) (others h t, [], []) else ([], [], [])
end Go.Proofs.Ytjbamfgfgbmieaa
/-
  Names of transactions: TxOk and TxAfter of the program and of the specification; what the law's helpers do with a name.
-/
namespace Go.Proofs.Ytjbamfgfgbmieaa
open Go.RowKit
set_option linter.unusedVariables false
theorem load_tx {w : World} {g o : Nat} {c e n : Int} (c0 : w.cell? ⟨g, o, none⟩ = some (.int .i64 c)) (c1 : w.cell? ⟨g, o + 1, none⟩ = some (.int .i64 e)) (c2 : w.cell? ⟨g, o + 2, none⟩ = some (.int .i64 n)) :
    (loadVar 48 ⟨g, o, none⟩).run Try.prog w = .ok (.agg #[.int .i64 c, .int .i64 e, .int .i64 n]) w := by go_simp
theorem load_tx0 {w : World} {g : Nat} {c e n : Int} (c0 : w.cell? ⟨g, 0, none⟩ = some (.int .i64 c)) (c1 : w.cell? ⟨g, 1, none⟩ = some (.int .i64 e)) (c2 : w.cell? ⟨g, 2, none⟩ = some (.int .i64 n)) :
    (loadVar 48 ⟨g, 0, none⟩).run Try.prog w = .ok (.agg #[.int .i64 c, .int .i64 e, .int .i64 n]) w := by go_simp
theorem results_tx {fn : Func} {p : Tmp} (h : fn.results = #[.cell p 48]) (tmps : Array Value) (w : World) (g : Nat) {c e n : Int} (hp : tmps.getD p undef = .pointer (some ⟨g, 0, none⟩))
    (c0 : w.cell? ⟨g, 0, none⟩ = some (.int .i64 c)) (c1 : w.cell? ⟨g, 1, none⟩ = some (.int .i64 e)) (c2 : w.cell? ⟨g, 2, none⟩ = some (.int .i64 n)) : (results fn tmps).run Try.prog w = .ok (.agg #[.int .i64 c, .int .i64 e, .int .i64 n]) w := by
  have hp' : tmps[p]?.getD undef = .pointer (some ⟨g, 0, none⟩) := by simpa using hp
  simp [results, h, hp', asAddr, load_tx0 c0 c1 c2]
theorem eqIn_tx (c e n c' e' n' : Int) (w : World) : (Op.equalIn 10000 48 (.agg #[.int .i64 c, .int .i64 e, .int .i64 n]) (.agg #[.int .i64 c', .int .i64 e', .int .i64 n'])).run Try.prog w = .ok (decide ((c, e, n) = (c', e', n'))) w := by
  rw [run_equalIn_struct w 9999 48 _ _ (by kernel_rfl) (by kernel_rfl)]
  obtain ⟨f0, f1, f2, hu, n0, n1, n2, t0, t1, t2, o0, o1, o2⟩ : ∃ f0 f1 f2 : Field, Try.prog.underlying 48 = some (.struct #[f0, f1, f2]) ∧ f0.name = "C" ∧ f1.name = "E" ∧ f2.name = "N" ∧ f0.type = 3 ∧ f1.type = 3 ∧ f2.type = 3 ∧ f0.offset = 0 ∧ f1.offset = 1 ∧ f2.offset = 2 := ⟨_, _, _, Try.underlying48, rfl, rfl, rfl, rfl, rfl, rfl, rfl, rfl, rfl⟩
  have hl : (Try.prog.fieldsOf 48).toList = [f0, f1, f2] := by simp [Program.fieldsOf, hu]
  rw [hl]
  have p0 : ∀ (x y z : Value) (w : World), (Go.part 3 #[x, y, z] 0).run Try.prog w = .ok x w := fun x y z w => by kernel_rfl
  have p1 : ∀ (x y z : Value) (w : World), (Go.part 3 #[x, y, z] 1).run Try.prog w = .ok y w := fun x y z w => by kernel_rfl
  have p2 : ∀ (x y z : Value) (w : World), (Go.part 3 #[x, y, z] 2).run Try.prog w = .ok z w := fun x y z w => by kernel_rfl
  have hi : ∀ (a b : Int) (w : World), (Op.equalIn 9999 3 (.int .i64 a) (.int .i64 b)).run Try.prog w = .ok (a == b) w := fun a b w => run_equalIn_int w 9998 3 .i64 .i64 a b (by kernel_rfl)
  have q0 : ("C" : String) ≠ "_" := by decide
  have q1 : ("E" : String) ≠ "_" := by decide
  have q2 : ("N" : String) ≠ "_" := by decide
  simp only [Op.eqFields, n0, n1, n2, t0, t1, t2, o0, o1, o2, if_pos q0, if_pos q1, if_pos q2, Sem.run_bind, p0, p1, p2, hi, Result.andThen_ok, Sem.run_ite, Sem.run_pure]
  by_cases h0 : c = c'
  · by_cases h1 : e = e'
    · by_cases h2 : n = n'
      · simp [h0, h1, h2]
      · simp [h0, h1, h2]
    · simp [h0, h1]
  · simp [h0]
theorem eql_tx (c e n c' e' n' : Int) (w : World) : (binOp .eql 48 (.agg #[.int .i64 c, .int .i64 e, .int .i64 n]) (.agg #[.int .i64 c', .int .i64 e', .int .i64 n'])).run Try.prog w = .ok (.bool (decide ((c, e, n) = (c', e', n')))) w := by
  rw [run_eql_struct, eqIn_tx]; rfl
theorem neq_tx (c e n c' e' n' : Int) (w : World) : (binOp .neq 48 (.agg #[.int .i64 c, .int .i64 e, .int .i64 n]) (.agg #[.int .i64 c', .int .i64 e', .int .i64 n'])).run Try.prog w = .ok (.bool (!decide ((c, e, n) = (c', e', n')))) w := by
  rw [run_neq_struct, eqIn_tx]; rfl
theorem guard_tx (op : BinOp) (x y : Operand) (xs ys : Array Value) (w : World) : (eqGuard op 48 x y (.agg xs) (.agg ys)).run Try.prog w = .ok () w := run_eqGuard_agg w op 48 x y xs ys (by kernel_rfl)

theorem toTx_any (c e n : Int) (w : World) : Calls Try.prog 16 #[.agg #[.int .i64 c, .int .i64 e, .int .i64 n]] w fun r w' => r = .returned (.agg #[.int .i64 c, .int .i64 e, .int .i64 n]) ∧ Below w.heap.size w w' := by
  go_enter Try.func16, Try.ntmps16
  go_wp2
  try simp only [Exit.inBlock, Exit.then]
  refine bodyPost_ret (v := .agg #[.int .i64 c, .int .i64 e, .int .i64 n]) ?_ rfl ?_
  · exact results_tx rfl _ _ _ rfl (by go_simp) (by go_simp) (by go_simp)
  · exact ⟨rfl, below_new (below_new (below_new (Below.refl _ _)))⟩
theorem eqTx_same (c e n : Int) (w : World) : Calls Try.prog 54 #[.agg #[.int .i64 c, .int .i64 e, .int .i64 n], .agg #[.int .i64 c, .int .i64 e, .int .i64 n]] w fun r w' => r = .returned (.bool true) ∧ Below w.heap.size w w' := by
  have t0 : (c != c) = false := by simp
  have t1 : (e != e) = false := by simp
  have t2 : (n != n) = false := by simp
  go_enter Try.func54, Try.ntmps54
  go_wp2
  go_ret
  exact ⟨rfl, below_new (below_new (Below.refl _ _))⟩
end Go.Proofs.Ytjbamfgfgbmieaa
/-
  Messages: when one is right, in plain; MsgOk of the program.
-/
namespace Go.Proofs.Ytjbamfgfgbmieaa
open Go.RowKit
set_option linter.unusedVariables false
def nuOk (nu : Int) : Bool := decide (1 ≤ nu) && decide (nu ≤ 16)
def stN (st : Int) : Bool := decide (0 < st) && decide (st ≤ 1099511627775)
def stC (cd st : Int) : Bool := if cd = 0 then stN st else decide (st = 0)
def noT (st cd : Int) (pn : Nat) : Bool := decide (st = 0) && (decide (cd = 0) && decide (pn = 0))
def upOk (p : PB) : Bool := uOk p.1 && uvOk p.2
def prsOk (ps : List PB) : Bool := decide (ps.length ≤ 8) && ps.all upOk
def tel (st cd : Int) (ps : List PB) : Bool := (decide (0 ≤ cd) && decide (cd ≤ 9)) && (stC cd st && prsOk ps)
def prtOk (kd nu st : Int) (ak az : Bool) (cd : Int) (ps : List PB) (ys : Bool) : Bool :=
  if kd = 1 then nuOk nu && (ak && (noT st cd ps.length && !ys))
  else if kd = 2 then nuOk nu && (tel st cd ps && (az && !ys))
  else if kd = 3 then (decide (cd = 0) && decide (ps.length = 0)) && (nuOk nu && (tel st cd ps && (az && !ys)))
  else if kd = 4 ∨ kd = 5 then decide (nu = 0) && (az && noT st cd ps.length)
  else if kd = 6 ∨ kd = 7 then !ys && (decide (nu = 0) && (az && noT st cd ps.length))
  else false
def mgOk (kd c e n sh nu st : Int) (ak az : Bool) (cd : Int) (ps : List PB) (ys : Bool) : Bool := txOk (c, e, n) && (decide (0 ≤ sh) && (decide (sh < 4) && prtOk kd nu st ak az cd ps ys))
theorem prtOk_1 (nu st : Int) (ak az : Bool) (cd : Int) (ps : List PB) (ys : Bool) : prtOk 1 nu st ak az cd ps ys = (nuOk nu && (ak && (noT st cd ps.length && !ys))) := rfl
theorem prtOk_2 (nu st : Int) (ak az : Bool) (cd : Int) (ps : List PB) (ys : Bool) : prtOk 2 nu st ak az cd ps ys = (nuOk nu && (tel st cd ps && (az && !ys))) := rfl
theorem prtOk_3 (nu st : Int) (ak az : Bool) (cd : Int) (ps : List PB) (ys : Bool) : prtOk 3 nu st ak az cd ps ys = ((decide (cd = 0) && decide (ps.length = 0)) && (nuOk nu && (tel st cd ps && (az && !ys)))) := rfl
theorem prtOk_4 (nu st : Int) (ak az : Bool) (cd : Int) (ps : List PB) (ys : Bool) : prtOk 4 nu st ak az cd ps ys = (decide (nu = 0) && (az && noT st cd ps.length)) := rfl
theorem prtOk_5 (nu st : Int) (ak az : Bool) (cd : Int) (ps : List PB) (ys : Bool) : prtOk 5 nu st ak az cd ps ys = (decide (nu = 0) && (az && noT st cd ps.length)) := rfl
theorem prtOk_6 (nu st : Int) (ak az : Bool) (cd : Int) (ps : List PB) (ys : Bool) : prtOk 6 nu st ak az cd ps ys = (!ys && (decide (nu = 0) && (az && noT st cd ps.length))) := rfl
theorem prtOk_7 (nu st : Int) (ak az : Bool) (cd : Int) (ps : List PB) (ys : Bool) : prtOk 7 nu st ak az cd ps ys = (!ys && (decide (nu = 0) && (az && noT st cd ps.length))) := rfl
theorem prtOk_no {kd : Int} (h : ¬ (1 ≤ kd ∧ kd ≤ 7)) (nu st : Int) (ak az : Bool) (cd : Int) (ps : List PB) (ys : Bool) : prtOk kd nu st ak az cd ps ys = false := by
  unfold prtOk
  rw [if_neg (by omega), if_neg (by omega), if_neg (by omega), if_neg (by omega), if_neg (by omega)]
theorem all_take_succ {α : Type} (l : List α) (f : α → Bool) (d : α) {m : Nat} (h : m < l.length) : (l.take (m + 1)).all f = ((l.take m).all f && f (l[m]?.getD d)) := by
  rw [List.take_succ_eq_append_getElem h, List.all_append]
  simp [h]
theorem all_no {α : Type} (l : List α) (f : α → Bool) (d : α) {m : Nat} (h : m < l.length) (hf : f (l[m]?.getD d) = false) : l.all f = false := by
  rw [List.all_eq_false]
  refine ⟨l[m], List.getElem_mem h, ?_⟩
  simp [h] at hf
  simp [hf]
theorem pAtB_get (l : List PB) (m : Nat) : pAtB l m = l[m]?.getD (⟨#[]⟩, ⟨#[]⟩) := rfl
end Go.Proofs.Ytjbamfgfgbmieaa
/-
  Asks: the law's helpers, AskLock on both sides, the laws FnExactAskOk and FnExactAskLock.
-/
namespace Go.Proofs.Ytjbamfgfgbmieaa
open Go.RowKit
set_option linter.unusedVariables false
theorem load_ask {w : World} {g : Nat} {k : Int} {ky vl lo hi : ByteArray} {mo : Int} {bk : Bool} (c0 : w.cell? ⟨g, 0, none⟩ = some (.int .i64 k)) (c1 : w.cell? ⟨g, 1, none⟩ = some (.string ky)) (c2 : w.cell? ⟨g, 2, none⟩ = some (.string vl)) (c3 : w.cell? ⟨g, 3, none⟩ = some (.string lo)) (c4 : w.cell? ⟨g, 4, none⟩ = some (.string hi)) (c5 : w.cell? ⟨g, 5, none⟩ = some (.int .i64 mo)) (c6 : w.cell? ⟨g, 6, none⟩ = some (.bool bk)) :
    (loadVar 27 ⟨g, 0, none⟩).run Try.prog w = .ok (.agg #[.int .i64 k, .string ky, .string vl, .string lo, .string hi, .int .i64 mo, .bool bk]) w := by go_simp
theorem results_ask {fn : Func} {p : Tmp} (h : fn.results = #[.cell p 27]) (tmps : Array Value) (w : World) (g : Nat) {k : Int} {ky vl lo hi : ByteArray} {mo : Int} {bk : Bool} (hp : tmps.getD p undef = .pointer (some ⟨g, 0, none⟩)) (c0 : w.cell? ⟨g, 0, none⟩ = some (.int .i64 k)) (c1 : w.cell? ⟨g, 1, none⟩ = some (.string ky)) (c2 : w.cell? ⟨g, 2, none⟩ = some (.string vl)) (c3 : w.cell? ⟨g, 3, none⟩ = some (.string lo)) (c4 : w.cell? ⟨g, 4, none⟩ = some (.string hi)) (c5 : w.cell? ⟨g, 5, none⟩ = some (.int .i64 mo)) (c6 : w.cell? ⟨g, 6, none⟩ = some (.bool bk)) :
    (results fn tmps).run Try.prog w = .ok (.agg #[.int .i64 k, .string ky, .string vl, .string lo, .string hi, .int .i64 mo, .bool bk]) w := by
  have hp' : tmps[p]?.getD undef = .pointer (some ⟨g, 0, none⟩) := by simpa using hp
  simp [results, h, hp', asAddr, load_ask c0 c1 c2 c3 c4 c5 c6]
set_option maxHeartbeats 3200000 in
theorem toAsk_any (k : Int) (ky vl lo hi : ByteArray) (mo : Int) (bk : Bool) (w : World) : Calls Try.prog 76 #[.agg #[.int .i64 k, .string ky, .string vl, .string lo, .string hi, .int .i64 mo, .bool bk]] w fun r w' => r = .returned (.agg #[.int .i64 k, .string ky, .string vl, .string lo, .string hi, .int .i64 mo, .bool bk]) ∧ Below w.heap.size w w' := by
  have C1 : Hid (∀ w, Calls Try.prog 90 #[.agg #[.string lo, .string hi]] w fun r w' => r = .returned (.agg #[.string lo, .string hi]) ∧ Below w.heap.size w w') := fun w => toRange_any lo hi w
  have B0 : Hid (Below w.heap.size w (((w.alloc (.cells #[.int .i64 k, .string ky, .string vl, .string lo, .string hi, .int .i64 mo, .bool bk] 83)).alloc (.cells #[.int .i64 0, .string ⟨#[]⟩, .string ⟨#[]⟩, .string ⟨#[]⟩, .string ⟨#[]⟩, .int .i64 0, .bool false] 27)).alloc (.cells #[.int .i64 k, .string ky, .string vl, .string ⟨#[]⟩, .string ⟨#[]⟩, .int .i64 0, .bool false] 27))) := below_new (below_new (below_new (Below.refl _ _)))
  have K0 := hid (((Bk.new w 83 [.int .i64 k, .string ky, .string vl, .string lo, .string hi, .int .i64 mo, .bool bk]).alloc (.cells #[.int .i64 0, .string ⟨#[]⟩, .string ⟨#[]⟩, .string ⟨#[]⟩, .string ⟨#[]⟩, .int .i64 0, .bool false] 27)).alloc (.cells #[.int .i64 k, .string ky, .string vl, .string ⟨#[]⟩, .string ⟨#[]⟩, .int .i64 0, .bool false] 27))
  have J0 := hid ((Bk.new (w.alloc (.cells #[.int .i64 k, .string ky, .string vl, .string lo, .string hi, .int .i64 mo, .bool bk] 83)) 27 [.int .i64 0, .string ⟨#[]⟩, .string ⟨#[]⟩, .string ⟨#[]⟩, .string ⟨#[]⟩, .int .i64 0, .bool false]).alloc (.cells #[.int .i64 k, .string ky, .string vl, .string ⟨#[]⟩, .string ⟨#[]⟩, .int .i64 0, .bool false] 27))
  have I0 := hid (Bk.new ((w.alloc (.cells #[.int .i64 k, .string ky, .string vl, .string lo, .string hi, .int .i64 mo, .bool bk] 83)).alloc (.cells #[.int .i64 0, .string ⟨#[]⟩, .string ⟨#[]⟩, .string ⟨#[]⟩, .string ⟨#[]⟩, .int .i64 0, .bool false] 27)) 27 [.int .i64 k, .string ky, .string vl, .string ⟨#[]⟩, .string ⟨#[]⟩, .int .i64 0, .bool false])
  rw [show (w.alloc (.cells #[.int .i64 k, .string ky, .string vl, .string lo, .string hi, .int .i64 mo, .bool bk] 83)).heap.size = w.heap.size + 1 by simp] at J0
  rw [show ((w.alloc (.cells #[.int .i64 k, .string ky, .string vl, .string lo, .string hi, .int .i64 mo, .bool bk] 83)).alloc (.cells #[.int .i64 0, .string ⟨#[]⟩, .string ⟨#[]⟩, .string ⟨#[]⟩, .string ⟨#[]⟩, .int .i64 0, .bool false] 27)).heap.size = w.heap.size + 1 + 1 by simp] at I0
  go_enter Try.func76, Try.ntmps76
  go_wp2_with fail
  refine (C1.out _).mono ?_
  generalize ((w.alloc (.cells #[.int .i64 k, .string ky, .string vl, .string lo, .string hi, .int .i64 mo, .bool bk] 83)).alloc (.cells #[.int .i64 0, .string ⟨#[]⟩, .string ⟨#[]⟩, .string ⟨#[]⟩, .string ⟨#[]⟩, .int .i64 0, .bool false] 27)).alloc (.cells #[.int .i64 k, .string ky, .string vl, .string ⟨#[]⟩, .string ⟨#[]⟩, .int .i64 0, .bool false] 27) = U at *
  rintro r w1 ⟨rfl, hb⟩
  have K1 := hid (K0.out.below hb)
  have J1 := hid (J0.out.below hb)
  have I1 := hid (I0.out.below hb)
  have B1 := hid (btR B0.out hb)
  clear J0 I0 K0 B0 hb
  have x5 := K1.out.cell (j := 5) rfl
  have x6 := K1.out.cell (j := 6) rfl
  have y0 := I1.out.cell (j := 0) rfl
  have y1 := I1.out.cell (j := 1) rfl
  have y2 := I1.out.cell (j := 2) rfl
  have y3 := I1.out.cell (j := 3) rfl
  have y4 := I1.out.cell (j := 4) rfl
  have y5 := I1.out.cell (j := 5) rfl
  have y6 := I1.out.cell (j := 6) rfl
  have f3 := I1.out.free 3
  have f4 := I1.out.free 4
  have f5 := I1.out.free 5
  have f6 := I1.out.free 6
  have z0 := J1.out.cell (j := 0) rfl
  have z1 := J1.out.cell (j := 1) rfl
  have z2 := J1.out.cell (j := 2) rfl
  have z3 := J1.out.cell (j := 3) rfl
  have z4 := J1.out.cell (j := 4) rfl
  have z5 := J1.out.cell (j := 5) rfl
  have z6 := J1.out.cell (j := 6) rfl
  have g0 := J1.out.free 0
  have g1 := J1.out.free 1
  have g2 := J1.out.free 2
  have g3 := J1.out.free 3
  have g4 := J1.out.free 4
  have g5 := J1.out.free 5
  have g6 := J1.out.free 6
  have J2 : Hid (Bk ((((w1.setCell ⟨w.heap.size + 1 + 1, 3, none⟩ (.string lo)).setCell ⟨w.heap.size + 1 + 1, 4, none⟩ (.string hi)).setCell ⟨w.heap.size + 1 + 1, 5, none⟩ (.int .i64 mo)).setCell ⟨w.heap.size + 1 + 1, 6, none⟩ (.bool bk)) (w.heap.size + 1) 27 [.int .i64 0, .string ⟨#[]⟩, .string ⟨#[]⟩, .string ⟨#[]⟩, .string ⟨#[]⟩, .int .i64 0, .bool false]) := ((((J1.out.setOther (by omega) _ _).setOther (by omega) _ _).setOther (by omega) _ _).setOther (by omega) _ _)
  have J3 := hid (((((((J2.out.set 0 (.int .i64 k)).set 1 (.string ky)).set 2 (.string vl)).set 3 (.string lo)).set 4 (.string hi)).set 5 (.int .i64 mo)).set 6 (.bool bk))
  have B3 := hid (Below.setCell (p := ⟨w.heap.size + 1, 6, none⟩) (Below.setCell (p := ⟨w.heap.size + 1, 5, none⟩) (Below.setCell (p := ⟨w.heap.size + 1, 4, none⟩) (Below.setCell (p := ⟨w.heap.size + 1, 3, none⟩) (Below.setCell (p := ⟨w.heap.size + 1, 2, none⟩) (Below.setCell (p := ⟨w.heap.size + 1, 1, none⟩) (Below.setCell (p := ⟨w.heap.size + 1, 0, none⟩) (Below.setCell (p := ⟨w.heap.size + 1 + 1, 6, none⟩) (Below.setCell (p := ⟨w.heap.size + 1 + 1, 5, none⟩) (Below.setCell (p := ⟨w.heap.size + 1 + 1, 4, none⟩) (Below.setCell (p := ⟨w.heap.size + 1 + 1, 3, none⟩) B1.out (by simp; omega) (.string lo)) (by simp; omega) (.string hi)) (by simp; omega) (.int .i64 mo)) (by simp; omega) (.bool bk)) (by simp) (.int .i64 k)) (by simp) (.string ky)) (by simp) (.string vl)) (by simp) (.string lo)) (by simp) (.string hi)) (by simp) (.int .i64 mo)) (by simp) (.bool bk))
  have d1 : ¬ w.heap.size + 1 = w.heap.size + 1 + 1 := by omega
  have d2 : ¬ w.heap.size + 1 + 1 = w.heap.size + 1 := by omega
  have d3 : ¬ w.heap.size = w.heap.size + 1 + 1 := by omega
  have d4 : ¬ w.heap.size = w.heap.size + 1 := by omega
  clear J1 I1 B1 J2 K1
  go_wp2
  try simp only [Exit.inBlock, Exit.then]
  refine bodyPost_ret (v := .agg #[.int .i64 k, .string ky, .string vl, .string lo, .string hi, .int .i64 mo, .bool bk]) ?_ rfl ?_
  · exact results_ask rfl _ _ _ rfl (J3.out.cell (j := 0) rfl) (J3.out.cell (j := 1) rfl) (J3.out.cell (j := 2) rfl) (J3.out.cell (j := 3) rfl) (J3.out.cell (j := 4) rfl) (J3.out.cell (j := 5) rfl) (J3.out.cell (j := 6) rfl)
  · exact ⟨rfl, B3.out⟩
set_option maxHeartbeats 1600000 in
theorem szAsk_any (k : Int) (ky vl lo hi : ByteArray) (mo : Int) (bk : Bool) (left : Int) (w : World) (h0 : 0 ≤ left) (h1 : left ≤ 1048576) (hs : ky.size ≤ 9223372036854775807 ∧ vl.size ≤ 9223372036854775807 ∧ lo.size ≤ 9223372036854775807 ∧ hi.size ≤ 9223372036854775807) :
    Calls Try.prog 75 #[.agg #[.int .i64 k, .string ky, .string vl, .string lo, .string hi, .int .i64 mo, .bool bk], .int .i64 left] w fun e w' => (∃ x : Int, e = .returned (.int .i64 x) ∧ x ≤ left ∧ -1 ≤ x) ∧ Below w.heap.size w w' := by
  obtain ⟨s1, s2, s3, s4⟩ := hs
  have B0 := hid (below_new (o := .cells #[.int .i64 k, .string ky, .string vl, .string lo, .string hi, .int .i64 mo, .bool bk] 83) (w := w) (Below.refl _ _))
  by_cases q1 : left - ky.size < 0
  · go_enter Try.func75, Try.ntmps75
    go_wp2
    go_ret
    exact ⟨⟨-1, rfl, by omega, by omega⟩, B0.out⟩
  · by_cases q2 : left - ky.size - vl.size < 0
    · go_enter Try.func75, Try.ntmps75
      go_wp2
      go_ret
      exact ⟨⟨-1, rfl, by omega, by omega⟩, B0.out⟩
    · have C1 : Hid (∀ w, Calls Try.prog 89 #[.agg #[.string lo, .string hi], .int .i64 (left - ky.size - vl.size)] w fun e w' => (∃ x : Int, e = .returned (.int .i64 x) ∧ x ≤ left - ky.size - vl.size ∧ -1 ≤ x) ∧ Below w.heap.size w w') := fun w => szRange_any lo hi _ w (by omega) (by omega) s3 s4
      go_enter Try.func75, Try.ntmps75
      go_wp2_with fail
      refine (C1.out _).mono ?_
      rintro e w1 ⟨⟨x, rfl, hx1, hx2⟩, hb⟩
      have B1 := hid (btR B0.out hb)
      clear hb B0
      by_cases hx : x < 0
      · go_wp2
        go_ret
        exact ⟨⟨-1, rfl, by omega, by omega⟩, B1.out⟩
      · go_wp2
        go_ret
        exact ⟨⟨x, rfl, by omega, by omega⟩, B1.out⟩
set_option maxHeartbeats 3200000 in
theorem eqAsk_same (k : Int) (ky vl lo hi : ByteArray) (mo : Int) (bk : Bool) (w : World) : Calls Try.prog 77 #[.agg #[.int .i64 k, .string ky, .string vl, .string lo, .string hi, .int .i64 mo, .bool bk], .agg #[.int .i64 k, .string ky, .string vl, .string lo, .string hi, .int .i64 mo, .bool bk]] w fun e w' => e = .returned (.bool true) ∧ Below w.heap.size w w' := by
  have hz0 : (k != k) = false := by simp
  have hz1 : (mo != mo) = false := by simp
  have hz2 : (bk != bk) = false := by simp
  have C1 : Hid (∀ w, Calls Try.prog 91 #[.agg #[.string lo, .string hi], .agg #[.string lo, .string hi]] w fun r w' => r = .returned (.bool true) ∧ Below w.heap.size w w') := fun w => eqRange_same lo hi w
  have B0 : Hid (Below w.heap.size w ((w.alloc (.cells #[.int .i64 k, .string ky, .string vl, .string lo, .string hi, .int .i64 mo, .bool bk] 27)).alloc (.cells #[.int .i64 k, .string ky, .string vl, .string lo, .string hi, .int .i64 mo, .bool bk] 27))) := below_new (below_new (Below.refl _ _))
  have K0 := hid ((Bk.new w 27 [.int .i64 k, .string ky, .string vl, .string lo, .string hi, .int .i64 mo, .bool bk]).alloc (.cells #[.int .i64 k, .string ky, .string vl, .string lo, .string hi, .int .i64 mo, .bool bk] 27))
  have J0 := hid (Bk.new (w.alloc (.cells #[.int .i64 k, .string ky, .string vl, .string lo, .string hi, .int .i64 mo, .bool bk] 27)) 27 [.int .i64 k, .string ky, .string vl, .string lo, .string hi, .int .i64 mo, .bool bk])
  rw [show (w.alloc (.cells #[.int .i64 k, .string ky, .string vl, .string lo, .string hi, .int .i64 mo, .bool bk] 27)).heap.size = w.heap.size + 1 by simp] at J0
  go_enter Try.func77, Try.ntmps77
  go_wp2_with fail
  refine (C1.out _).mono ?_
  generalize (w.alloc (.cells #[.int .i64 k, .string ky, .string vl, .string lo, .string hi, .int .i64 mo, .bool bk] 27)).alloc (.cells #[.int .i64 k, .string ky, .string vl, .string lo, .string hi, .int .i64 mo, .bool bk] 27) = U at *
  rintro r w1 ⟨rfl, hb⟩
  have B1 := hid (btR B0.out hb)
  have K1 := hid (K0.out.below hb)
  have J1 := hid (J0.out.below hb)
  clear hb B0 K0 J0
  have x5 := K1.out.cell (j := 5) rfl
  have x6 := K1.out.cell (j := 6) rfl
  have y5 := J1.out.cell (j := 5) rfl
  have y6 := J1.out.cell (j := 6) rfl
  go_wp2
  go_ret
  exact ⟨rfl, B1.out⟩
def alLo (k : Int) (ky vl lo hi : ByteArray) (mo : Int) (bk : Bool) : ByteArray := if akOk k ky vl lo hi mo bk then (if k = 4 then lo else ptLo ky) else ⟨#[]⟩
def alHi (k : Int) (ky vl lo hi : ByteArray) (mo : Int) (bk : Bool) : ByteArray := if akOk k ky vl lo hi mo bk then (if k = 4 then hi else ptHi ky) else ⟨#[]⟩
def alEx (k : Int) (ky vl lo hi : ByteArray) (mo : Int) (bk : Bool) : Bool := akOk k ky vl lo hi mo bk && (decide (k ≠ 4) && decide (k ≠ 1))
end Go.Proofs.Ytjbamfgfgbmieaa
/-
  Messages: what the law's helpers do with one; rows of pairs of one's own.
-/
namespace Go.Proofs.Ytjbamfgfgbmieaa
open Go.RowKit
set_option linter.unusedVariables false
/-- A row of pairs of one's own. -/
def oqW (w : World) (B : Nat) (v : Value) (l : List PB) : Prop := w.ownsRow B 34 2 v l.length (pcs l)
theorem oqW.to {w w' : World} {B : Nat} {R : Nat → Prop} {v : Value} {l : List PB} (h : oqW w B v l) (ho : Only R w w') (hR : ∀ y, v.ownBlock = some y → ¬ R y) : oqW w' B v l := own_kept h ho hR
theorem oqW.below {w w' : World} {B : Nat} {v : Value} {l : List PB} (h : oqW w B v l) (hb : Below w.heap.size w w') : oqW w' B v l := h.to (only_of_below hb (fun _ => False)) (fun _ _ h => h)
theorem oqW.base {w : World} {B B' : Nat} {v : Value} {l : List PB} (h : oqW w B v l) (hB : B' ≤ B) : oqW w B' v l := by
  refine ⟨h.1, h.2.imp id ?_⟩
  rintro ⟨g, cap, cur, k1, k2, k3⟩
  exact ⟨g, cap, cur, k1, by omega, k3⟩
theorem oqW.lt {w : World} {B : Nat} {v : Value} {l : List PB} (h : oqW w B v l) {y : Nat} (hy : v.ownBlock = some y) : B ≤ y ∧ y < w.heap.size := World.ownsRow.lt h y hy
theorem oqW.r {w : World} {B : Nat} {v : Value} {l : List PB} (h : oqW w B v l) : Pr w (fun _ => True) v l := rw_own h (fun _ _ _ _ => trivial)
theorem oqW.rB {w : World} {B : Nat} {v : Value} {l : List PB} (h : oqW w B v l) : Pr w (fun b => B ≤ b) v l := rw_own h (fun _ _ h _ => h)
theorem oqw_nil (w : World) (B : Nat) : oqW w B (.slice none 0 0) [] := World.ownsRow_nil _ _ _ _
theorem oqw_bk {w : World} {g B : Nat} {l : List PB} {n : Nat} (h : Bk w g 34 (pcs l)) (hl : n = l.length) (hn : n ≤ 1048577) (hB : B ≤ g) : oqW w B (.slice (some ⟨g, 0, none⟩) n n) l := by
  subst hl
  exact ⟨pcs_length l, .inr ⟨g, l.length, (pcs l).toArray, rfl, hB, h, Nat.le_refl _, by unfold maxLen; omega, by simpa using pcs_length l, by simp [← pcs_length l]⟩⟩
theorem setE {w : World} {g : Nat} {T : TypeId} {xs ys : List Value} (h : Bk w g T xs) (o : Nat) (x : Value) (e : xs.set o x = ys) : Bk (w.setCell ⟨g, o, none⟩ x) g T ys := by
  rw [← e]; exact h.set o x
theorem msg_sets {w : World} {g : Nat} {T : TypeId} {z0 z1 z2 z3 z4 z5 z6 z7 z8 z9 z10 z11 z12 z13 z14 z15 z16 : Value} (h : Bk w g T [z0, z1, z2, z3, z4, z5, z6, z7, z8, z9, z10, z11, z12, z13, z14, z15, z16]) (a0 a1 a2 a3 a4 a5 a6 a7 a8 a9 a10 a11 a12 a13 a14 a15 a16 : Value) : Bk (((((((((((((((((w.setCell ⟨g, 0, none⟩ (a0)).setCell ⟨g, 1, none⟩ (a1)).setCell ⟨g, 2, none⟩ (a2)).setCell ⟨g, 3, none⟩ (a3)).setCell ⟨g, 4, none⟩ (a4)).setCell ⟨g, 5, none⟩ (a5)).setCell ⟨g, 6, none⟩ (a6)).setCell ⟨g, 7, none⟩ (a7)).setCell ⟨g, 8, none⟩ (a8)).setCell ⟨g, 9, none⟩ (a9)).setCell ⟨g, 10, none⟩ (a10)).setCell ⟨g, 11, none⟩ (a11)).setCell ⟨g, 12, none⟩ (a12)).setCell ⟨g, 13, none⟩ (a13)).setCell ⟨g, 14, none⟩ (a14)).setCell ⟨g, 15, none⟩ (a15)).setCell ⟨g, 16, none⟩ (a16)) g T [a0, a1, a2, a3, a4, a5, a6, a7, a8, a9, a10, a11, a12, a13, a14, a15, a16] := (setE (setE (setE (setE (setE (setE (setE (setE (setE (setE (setE (setE (setE (setE (setE (setE (setE h 0 a0 (ys := [a0, z1, z2, z3, z4, z5, z6, z7, z8, z9, z10, z11, z12, z13, z14, z15, z16]) rfl) 1 a1 (ys := [a0, a1, z2, z3, z4, z5, z6, z7, z8, z9, z10, z11, z12, z13, z14, z15, z16]) rfl) 2 a2 (ys := [a0, a1, a2, z3, z4, z5, z6, z7, z8, z9, z10, z11, z12, z13, z14, z15, z16]) rfl) 3 a3 (ys := [a0, a1, a2, a3, z4, z5, z6, z7, z8, z9, z10, z11, z12, z13, z14, z15, z16]) rfl) 4 a4 (ys := [a0, a1, a2, a3, a4, z5, z6, z7, z8, z9, z10, z11, z12, z13, z14, z15, z16]) rfl) 5 a5 (ys := [a0, a1, a2, a3, a4, a5, z6, z7, z8, z9, z10, z11, z12, z13, z14, z15, z16]) rfl) 6 a6 (ys := [a0, a1, a2, a3, a4, a5, a6, z7, z8, z9, z10, z11, z12, z13, z14, z15, z16]) rfl) 7 a7 (ys := [a0, a1, a2, a3, a4, a5, a6, a7, z8, z9, z10, z11, z12, z13, z14, z15, z16]) rfl) 8 a8 (ys := [a0, a1, a2, a3, a4, a5, a6, a7, a8, z9, z10, z11, z12, z13, z14, z15, z16]) rfl) 9 a9 (ys := [a0, a1, a2, a3, a4, a5, a6, a7, a8, a9, z10, z11, z12, z13, z14, z15, z16]) rfl) 10 a10 (ys := [a0, a1, a2, a3, a4, a5, a6, a7, a8, a9, a10, z11, z12, z13, z14, z15, z16]) rfl) 11 a11 (ys := [a0, a1, a2, a3, a4, a5, a6, a7, a8, a9, a10, a11, z12, z13, z14, z15, z16]) rfl) 12 a12 (ys := [a0, a1, a2, a3, a4, a5, a6, a7, a8, a9, a10, a11, a12, z13, z14, z15, z16]) rfl) 13 a13 (ys := [a0, a1, a2, a3, a4, a5, a6, a7, a8, a9, a10, a11, a12, a13, z14, z15, z16]) rfl) 14 a14 (ys := [a0, a1, a2, a3, a4, a5, a6, a7, a8, a9, a10, a11, a12, a13, a14, z15, z16]) rfl) 15 a15 (ys := [a0, a1, a2, a3, a4, a5, a6, a7, a8, a9, a10, a11, a12, a13, a14, a15, z16]) rfl) 16 a16 (ys := [a0, a1, a2, a3, a4, a5, a6, a7, a8, a9, a10, a11, a12, a13, a14, a15, a16]) rfl)
theorem only_step {R : Nat → Prop} {w w' : World} {g : Nat} (h : Only R w w') (hR : R g) (o : Nat) (v : Value) : Only R w (w'.setCell ⟨g, o, none⟩ v) := h.trans (only_set (R := R) (p := ⟨g, o, none⟩) hR v)
theorem msg_only {w : World} {g : Nat} {R : Nat → Prop} (hR : R g) (a0 a1 a2 a3 a4 a5 a6 a7 a8 a9 a10 a11 a12 a13 a14 a15 a16 : Value) : Only R w (((((((((((((((((w.setCell ⟨g, 0, none⟩ (a0)).setCell ⟨g, 1, none⟩ (a1)).setCell ⟨g, 2, none⟩ (a2)).setCell ⟨g, 3, none⟩ (a3)).setCell ⟨g, 4, none⟩ (a4)).setCell ⟨g, 5, none⟩ (a5)).setCell ⟨g, 6, none⟩ (a6)).setCell ⟨g, 7, none⟩ (a7)).setCell ⟨g, 8, none⟩ (a8)).setCell ⟨g, 9, none⟩ (a9)).setCell ⟨g, 10, none⟩ (a10)).setCell ⟨g, 11, none⟩ (a11)).setCell ⟨g, 12, none⟩ (a12)).setCell ⟨g, 13, none⟩ (a13)).setCell ⟨g, 14, none⟩ (a14)).setCell ⟨g, 15, none⟩ (a15)).setCell ⟨g, 16, none⟩ (a16)) := (only_step (only_step (only_step (only_step (only_step (only_step (only_step (only_step (only_step (only_step (only_step (only_step (only_step (only_step (only_step (only_step (only_set (R := R) (p := ⟨g, 0, none⟩) hR a0) hR 1 a1) hR 2 a2) hR 3 a3) hR 4 a4) hR 5 a5) hR 6 a6) hR 7 a7) hR 8 a8) hR 9 a9) hR 10 a10) hR 11 a11) hR 12 a12) hR 13 a13) hR 14 a14) hR 15 a15) hR 16 a16)
end Go.Proofs.Ytjbamfgfgbmieaa
/-
  The asks that the laws draw: some ask.
-/
namespace Go.Proofs.Ytjbamfgfgbmieaa
open Go.RowKit
set_option linter.unusedVariables false
/-- A draw so far, with the result's box and that of what is drawn. -/
structure DW (w v : World) (g b : Nat) (T : TypeId) (zs cs : List Value) : Prop where
  dg : DG w v g
  k1 : Bk v w.heap.size T zs
  kb : Bk v b T cs
  lt : w.heap.size < b
theorem DW.step {w v v' : World} {g b : Nat} {T : TypeId} {zs cs : List Value} (h : DW w v g b T zs cs) (hg : v.grownBy v' (some g)) (hc : Cu v' g) : DW w v' g b T zs cs :=
  ⟨h.dg.step hg hc, h.k1.grownR hg (by have := h.dg.ng; omega), h.kb.grownR hg (by have := h.dg.ng; have := h.lt; omega), h.lt⟩
theorem DW.setE {w v : World} {g b : Nat} {T : TypeId} {zs cs : List Value} (h : DW w v g b T zs cs) (j : Nat) (x : Value) {ys : List Value} (e : cs.set j x = ys) : DW w (v.setCell ⟨b, j, none⟩ x) g b T zs ys :=
  ⟨h.dg.set (Nat.le_of_lt h.lt) _ _, h.k1.setOther (by have := h.lt; omega) _ _, by rw [← e]; exact h.kb.set j x, h.lt⟩
theorem DG.row {w v : World} {g : Nat} (h : DG w v g) (b : Nat) (hb : w.heap.size ≤ b) (cs : Array Value) : DG w (v.setRow b cs) g := by
  have ho := only_setRow (R := fun y => y = b) (w := v) (g := b) rfl cs
  have hng := h.ng
  have h2 : v.grownBy (v.setRow b cs) (some b) := ⟨ho.os, ho.tape, ho.output, ho.size, fun k hk hne => ho.block k hk (fun e => hne (by rw [e]))⟩
  refine ⟨⟨h2.os.trans h.gr.os, h2.tape.trans h.gr.tape, h2.output.trans h.gr.output, Nat.le_trans h.gr.size h2.size, fun k hk hne => ?_⟩, h.cu.kept h2 (fun k e => by cases e; omega), hng⟩
  exact (h2.block k (Nat.lt_of_lt_of_le hk h.gr.size) (fun e => by cases e; omega)).trans (h.gr.block k hk hne)
set_option maxHeartbeats 8000000 in
set_option maxRecDepth 20000 in
theorem l09Ask_any (g : Nat) (w : World) (h : Cu w g) : Calls Try.prog 31 #[.pointer (some ⟨g, 0, none⟩)] w fun r w' => (∃ (k : Int) (ky vl lo hi : ByteArray) (mo : Int) (bk : Bool), r = .returned (.agg #[.int .i64 k, .string ky, .string vl, .string lo, .string hi, .int .i64 mo, .bool bk])) ∧ w.grownBy w' (some g) ∧ Cu w' g := by
  have D0 := hid ((DG.start h).alloc (.cells #[.int .i64 0, .string ⟨#[]⟩, .string ⟨#[]⟩, .string ⟨#[]⟩, .string ⟨#[]⟩, .int .i64 0, .bool false] 27))
  have K0 := hid (Bk.new w 27 [.int .i64 0, .string ⟨#[]⟩, .string ⟨#[]⟩, .string ⟨#[]⟩, .string ⟨#[]⟩, .int .i64 0, .bool false])
  clear h
  go_enter Try.func31, Try.ntmps31
  go_wp2_with fail
  refine (below_any g 4 _ D0.out.cu (by omega) (by omega)).mono ?_
  generalize w.alloc (.cells #[.int .i64 0, .string ⟨#[]⟩, .string ⟨#[]⟩, .string ⟨#[]⟩, .string ⟨#[]⟩, .int .i64 0, .bool false] 27) = U at *
  rintro r w1 ⟨⟨x, rfl, hx0, hx1⟩, hg, hc⟩
  have D1 := hid (D0.out.step hg hc)
  have K1 := hid (K0.out.grownR hg (by have := D0.out.ng; omega))
  have hlt : w.heap.size < w1.heap.size := K1.out.lt
  clear D0 K0 hg hc
  have X0 : Hid (DW w (w1.alloc (.cells #[.int .i64 (1 + x), .string ⟨#[]⟩, .string ⟨#[]⟩, .string ⟨#[]⟩, .string ⟨#[]⟩, .int .i64 0, .bool false] 27)) g w1.heap.size 27 [.int .i64 0, .string ⟨#[]⟩, .string ⟨#[]⟩, .string ⟨#[]⟩, .string ⟨#[]⟩, .int .i64 0, .bool false] [.int .i64 (1 + x), .string ⟨#[]⟩, .string ⟨#[]⟩, .string ⟨#[]⟩, .string ⟨#[]⟩, .int .i64 0, .bool false]) := ⟨D1.out.alloc _, K1.out.alloc _, Bk.new w1 _ _, hlt⟩
  clear D1 K1
  go_upto_region 3 with (first
    | (refine wpList_store_row rfl 27 _ _ rfl w1.heap.size _ rfl rfl 27 _ (heap_alloc_new w1 _) (by kernel_rfl) rfl (by kernel_rfl) ?_; rw [World.setRow_alloc_new]))
  generalize w1.alloc (.cells #[.int .i64 (1 + x), .string ⟨#[]⟩, .string ⟨#[]⟩, .string ⟨#[]⟩, .string ⟨#[]⟩, .int .i64 0, .bool false] 27) = V0 at *
  generalize w1.heap.size = b at *
  by_cases h4 : 1 + x = 4
  · skip
    go_wp2_with fail
    refine (l08Reach_any g _ X0.out.dg.cu).mono ?_
    rintro r w1 ⟨⟨lo, hi, rfl⟩, hg, hc⟩
    have Y1 := hid (X0.out.step hg hc)
    clear X0 hg hc
    have c3 := Y1.out.kb.cell (j := 3) rfl
    have f3 := Y1.out.kb.free 3
    have c4 := Y1.out.kb.cell (j := 4) rfl
    have f4 := Y1.out.kb.free 4
    have X1 : Hid (DW w ((w1.setCell ⟨b, 3, none⟩ (.string lo)).setCell ⟨b, 4, none⟩ (.string hi)) g b 27 [.int .i64 0, .string ⟨#[]⟩, .string ⟨#[]⟩, .string ⟨#[]⟩, .string ⟨#[]⟩, .int .i64 0, .bool false] [.int .i64 (1 + x), .string ⟨#[]⟩, .string ⟨#[]⟩, .string lo, .string hi, .int .i64 0, .bool false]) := ((Y1.out.setE 3 (.string lo) (ys := [.int .i64 (1 + x), .string ⟨#[]⟩, .string ⟨#[]⟩, .string lo, .string ⟨#[]⟩, .int .i64 0, .bool false]) rfl).setE 4 (.string hi) (ys := [.int .i64 (1 + x), .string ⟨#[]⟩, .string ⟨#[]⟩, .string lo, .string hi, .int .i64 0, .bool false]) rfl)
    go_upto_region 5 with (fail)
    generalize ((w1.setCell ⟨b, 3, none⟩ (.string lo)).setCell ⟨b, 4, none⟩ (.string hi)) = V1 at *
    clear Y1 c3 f3 c4 f4
    go_wp2_with fail
    refine (below_any g 8 _ X1.out.dg.cu (by omega) (by omega)).mono ?_
    rintro r w2 ⟨⟨y, rfl, hy0, hy1⟩, hg, hc⟩
    have Y2 := hid (X1.out.step hg hc)
    clear X1 hg hc
    have c5 := Y2.out.kb.cell (j := 5) rfl
    have f5 := Y2.out.kb.free 5
    have X2 : Hid (DW w (w2.setCell ⟨b, 5, none⟩ (.int .i64 (1 + y))) g b 27 [.int .i64 0, .string ⟨#[]⟩, .string ⟨#[]⟩, .string ⟨#[]⟩, .string ⟨#[]⟩, .int .i64 0, .bool false] [.int .i64 (1 + x), .string ⟨#[]⟩, .string ⟨#[]⟩, .string lo, .string hi, .int .i64 (1 + y), .bool false]) := (Y2.out.setE 5 (.int .i64 (1 + y)) (ys := [.int .i64 (1 + x), .string ⟨#[]⟩, .string ⟨#[]⟩, .string lo, .string hi, .int .i64 (1 + y), .bool false]) rfl)
    go_upto_region 6 with (fail)
    generalize (w2.setCell ⟨b, 5, none⟩ (.int .i64 (1 + y))) = V2 at *
    clear Y2 c5 f5
    go_wp2_with fail
    refine (below_any g 2 _ X2.out.dg.cu (by omega) (by omega)).mono ?_
    rintro r w3 ⟨⟨z, rfl, hz0, hz1⟩, hg, hc⟩
    have Y3 := hid (X2.out.step hg hc)
    clear X2 hg hc
    have c6 := Y3.out.kb.cell (j := 6) rfl
    have f6 := Y3.out.kb.free 6
    have X3 : Hid (DW w (w3.setCell ⟨b, 6, none⟩ (.bool (z == 0))) g b 27 [.int .i64 0, .string ⟨#[]⟩, .string ⟨#[]⟩, .string ⟨#[]⟩, .string ⟨#[]⟩, .int .i64 0, .bool false] [.int .i64 (1 + x), .string ⟨#[]⟩, .string ⟨#[]⟩, .string lo, .string hi, .int .i64 (1 + y), .bool (z == 0)]) := (Y3.out.setE 6 (.bool (z == 0)) (ys := [.int .i64 (1 + x), .string ⟨#[]⟩, .string ⟨#[]⟩, .string lo, .string hi, .int .i64 (1 + y), .bool (z == 0)]) rfl)
    go_upto_region 7 with (fail)
    generalize (w3.setCell ⟨b, 6, none⟩ (.bool (z == 0))) = V3 at *
    clear Y3 c6 f6
    have JE := hid (X3.out.k1.setRow [.int .i64 (1 + x), .string ⟨#[]⟩, .string ⟨#[]⟩, .string lo, .string hi, .int .i64 (1 + y), .bool (z == 0)])
    have GE := hid (X3.out.dg.row w.heap.size (Nat.le_refl _) #[.int .i64 (1 + x), .string ⟨#[]⟩, .string ⟨#[]⟩, .string lo, .string hi, .int .i64 (1 + y), .bool (z == 0)])
    go_wp2_with (first
      | (refine wpList_load_row rfl 27 _ rfl b rfl 27 _ (0, 0) _ X3.out.kb Try.underlying27 rfl (by kernel_rfl) ?_; go_frame)
      | (refine wpList_store_row rfl 27 _ _ rfl w.heap.size #[.int .i64 (1 + x), .string ⟨#[]⟩, .string ⟨#[]⟩, .string lo, .string hi, .int .i64 (1 + y), .bool (z == 0)] rfl rfl 27 _ X3.out.k1 (by kernel_rfl) rfl (by kernel_rfl) ?_))
    generalize V3.setRow w.heap.size #[.int .i64 (1 + x), .string ⟨#[]⟩, .string ⟨#[]⟩, .string lo, .string hi, .int .i64 (1 + y), .bool (z == 0)] = VE at *
    try simp only [Exit.inBlock, Exit.then]
    refine bodyPost_ret (v := .agg #[.int .i64 (1 + x), .string ⟨#[]⟩, .string ⟨#[]⟩, .string lo, .string hi, .int .i64 (1 + y), .bool (z == 0)]) ?_ rfl ?_
    · exact results_cell_row rfl _ _ w.heap.size 27 _ (0, 0) _ rfl JE.out Try.underlying27 rfl (by kernel_rfl)
    · exact ⟨⟨_, _, _, _, _, _, _, rfl⟩, GE.out.gr, GE.out.cu⟩
  · skip
    go_wp2_with fail
    refine (l08User_any g _ X0.out.dg.cu).mono ?_
    rintro r w1 ⟨⟨ky, rfl⟩, hg, hc⟩
    have Y1 := hid (X0.out.step hg hc)
    clear X0 hg hc
    have c1 := Y1.out.kb.cell (j := 1) rfl
    have f1 := Y1.out.kb.free 1
    have X1 : Hid (DW w (w1.setCell ⟨b, 1, none⟩ (.string ky)) g b 27 [.int .i64 0, .string ⟨#[]⟩, .string ⟨#[]⟩, .string ⟨#[]⟩, .string ⟨#[]⟩, .int .i64 0, .bool false] [.int .i64 (1 + x), .string ky, .string ⟨#[]⟩, .string ⟨#[]⟩, .string ⟨#[]⟩, .int .i64 0, .bool false]) := (Y1.out.setE 1 (.string ky) (ys := [.int .i64 (1 + x), .string ky, .string ⟨#[]⟩, .string ⟨#[]⟩, .string ⟨#[]⟩, .int .i64 0, .bool false]) rfl)
    go_upto_region 9 with (fail)
    generalize (w1.setCell ⟨b, 1, none⟩ (.string ky)) = V1 at *
    clear Y1 c1 f1
    by_cases h2 : 1 + x = 2
    · skip
      go_wp2_with fail
      refine (l08Uval_any g _ X1.out.dg.cu).mono ?_
      rintro r w2 ⟨⟨vl, rfl⟩, hg, hc⟩
      have Y2 := hid (X1.out.step hg hc)
      clear X1 hg hc
      have c2 := Y2.out.kb.cell (j := 2) rfl
      have f2 := Y2.out.kb.free 2
      have X2 : Hid (DW w (w2.setCell ⟨b, 2, none⟩ (.string vl)) g b 27 [.int .i64 0, .string ⟨#[]⟩, .string ⟨#[]⟩, .string ⟨#[]⟩, .string ⟨#[]⟩, .int .i64 0, .bool false] [.int .i64 (1 + x), .string ky, .string vl, .string ⟨#[]⟩, .string ⟨#[]⟩, .int .i64 0, .bool false]) := (Y2.out.setE 2 (.string vl) (ys := [.int .i64 (1 + x), .string ky, .string vl, .string ⟨#[]⟩, .string ⟨#[]⟩, .int .i64 0, .bool false]) rfl)
      go_upto_region 11 with (fail)
      generalize (w2.setCell ⟨b, 2, none⟩ (.string vl)) = V2 at *
      clear Y2 c2 f2
      have JE := hid (X2.out.k1.setRow [.int .i64 (1 + x), .string ky, .string vl, .string ⟨#[]⟩, .string ⟨#[]⟩, .int .i64 0, .bool false])
      have GE := hid (X2.out.dg.row w.heap.size (Nat.le_refl _) #[.int .i64 (1 + x), .string ky, .string vl, .string ⟨#[]⟩, .string ⟨#[]⟩, .int .i64 0, .bool false])
      go_wp2_with (first
        | (refine wpList_load_row rfl 27 _ rfl b rfl 27 _ (0, 0) _ X2.out.kb Try.underlying27 rfl (by kernel_rfl) ?_; go_frame)
        | (refine wpList_store_row rfl 27 _ _ rfl w.heap.size #[.int .i64 (1 + x), .string ky, .string vl, .string ⟨#[]⟩, .string ⟨#[]⟩, .int .i64 0, .bool false] rfl rfl 27 _ X2.out.k1 (by kernel_rfl) rfl (by kernel_rfl) ?_))
      generalize V2.setRow w.heap.size #[.int .i64 (1 + x), .string ky, .string vl, .string ⟨#[]⟩, .string ⟨#[]⟩, .int .i64 0, .bool false] = VE at *
      try simp only [Exit.inBlock, Exit.then]
      refine bodyPost_ret (v := .agg #[.int .i64 (1 + x), .string ky, .string vl, .string ⟨#[]⟩, .string ⟨#[]⟩, .int .i64 0, .bool false]) ?_ rfl ?_
      · exact results_cell_row rfl _ _ w.heap.size 27 _ (0, 0) _ rfl JE.out Try.underlying27 rfl (by kernel_rfl)
      · exact ⟨⟨_, _, _, _, _, _, _, rfl⟩, GE.out.gr, GE.out.cu⟩
    · skip
      go_upto_region 11 with (fail)
      have JE := hid (X1.out.k1.setRow [.int .i64 (1 + x), .string ky, .string ⟨#[]⟩, .string ⟨#[]⟩, .string ⟨#[]⟩, .int .i64 0, .bool false])
      have GE := hid (X1.out.dg.row w.heap.size (Nat.le_refl _) #[.int .i64 (1 + x), .string ky, .string ⟨#[]⟩, .string ⟨#[]⟩, .string ⟨#[]⟩, .int .i64 0, .bool false])
      go_wp2_with (first
        | (refine wpList_load_row rfl 27 _ rfl b rfl 27 _ (0, 0) _ X1.out.kb Try.underlying27 rfl (by kernel_rfl) ?_; go_frame)
        | (refine wpList_store_row rfl 27 _ _ rfl w.heap.size #[.int .i64 (1 + x), .string ky, .string ⟨#[]⟩, .string ⟨#[]⟩, .string ⟨#[]⟩, .int .i64 0, .bool false] rfl rfl 27 _ X1.out.k1 (by kernel_rfl) rfl (by kernel_rfl) ?_))
      generalize V1.setRow w.heap.size #[.int .i64 (1 + x), .string ky, .string ⟨#[]⟩, .string ⟨#[]⟩, .string ⟨#[]⟩, .int .i64 0, .bool false] = VE at *
      try simp only [Exit.inBlock, Exit.then]
      refine bodyPost_ret (v := .agg #[.int .i64 (1 + x), .string ky, .string ⟨#[]⟩, .string ⟨#[]⟩, .string ⟨#[]⟩, .int .i64 0, .bool false]) ?_ rfl ?_
      · exact results_cell_row rfl _ _ w.heap.size 27 _ (0, 0) _ rfl JE.out Try.underlying27 rfl (by kernel_rfl)
      · exact ⟨⟨_, _, _, _, _, _, _, rfl⟩, GE.out.gr, GE.out.cu⟩
end Go.Proofs.Ytjbamfgfgbmieaa
/-
  The asks that the laws draw: any ask.
-/
namespace Go.Proofs.Ytjbamfgfgbmieaa
open Go.RowKit
set_option linter.unusedVariables false
theorem DW.alloc {w v : World} {g b : Nat} {T : TypeId} {zs cs : List Value} (h : DW w v g b T zs cs) (o : Obj) : DW w (v.alloc o) g b T zs cs := ⟨h.dg.alloc o, h.k1.alloc o, h.kb.alloc o, h.lt⟩
set_option maxHeartbeats 16000000 in
set_option maxRecDepth 20000 in
theorem l09AnyAsk_any (g : Nat) (w : World) (h : Cu w g) : Calls Try.prog 33 #[.pointer (some ⟨g, 0, none⟩)] w fun r w' => (∃ (k : Int) (ky vl lo hi : ByteArray) (mo : Int) (bk : Bool), r = .returned (.agg #[.int .i64 k, .string ky, .string vl, .string lo, .string hi, .int .i64 mo, .bool bk])) ∧ w.grownBy w' (some g) ∧ Cu w' g := by
  have D0 := hid ((DG.start h).alloc (.cells #[.int .i64 0, .string ⟨#[]⟩, .string ⟨#[]⟩, .string ⟨#[]⟩, .string ⟨#[]⟩, .int .i64 0, .bool false] 27))
  have K0 := hid (Bk.new w 27 [.int .i64 0, .string ⟨#[]⟩, .string ⟨#[]⟩, .string ⟨#[]⟩, .string ⟨#[]⟩, .int .i64 0, .bool false])
  clear h
  go_enter Try.func33, Try.ntmps33
  go_wp2_with fail
  refine (l09Ask_any g _ D0.out.cu).mono ?_
  generalize w.alloc (.cells #[.int .i64 0, .string ⟨#[]⟩, .string ⟨#[]⟩, .string ⟨#[]⟩, .string ⟨#[]⟩, .int .i64 0, .bool false] 27) = U at *
  rintro r w1 ⟨⟨k, ky, vl, lo, hi, mo, bk, rfl⟩, hg, hc⟩
  have D1 := hid (D0.out.step hg hc)
  have K1 := hid (K0.out.grownR hg (by have := D0.out.ng; omega))
  have hlt : w.heap.size < w1.heap.size := K1.out.lt
  clear D0 K0 hg hc
  have XA : Hid (DW w (w1.alloc (.cells #[.int .i64 k, .string ky, .string vl, .string lo, .string hi, .int .i64 mo, .bool bk] 27)) g w1.heap.size 27 [.int .i64 0, .string ⟨#[]⟩, .string ⟨#[]⟩, .string ⟨#[]⟩, .string ⟨#[]⟩, .int .i64 0, .bool false] [.int .i64 k, .string ky, .string vl, .string lo, .string hi, .int .i64 mo, .bool bk]) := ⟨D1.out.alloc _, K1.out.alloc _, Bk.new w1 _ _, hlt⟩
  clear D1 K1
  go_wp2_with (refine wpList_store_row rfl 27 _ _ rfl w1.heap.size _ rfl rfl 27 _ (heap_alloc_new w1 _) (by kernel_rfl) rfl (by kernel_rfl) ?_; rw [World.setRow_alloc_new])
  refine (below_any g 14 _ XA.out.dg.cu (by omega) (by omega)).mono ?_
  generalize w1.alloc (.cells #[.int .i64 k, .string ky, .string vl, .string lo, .string hi, .int .i64 mo, .bool bk] 27) = VA at *
  generalize w1.heap.size = b at *
  rintro r V0 ⟨⟨x, rfl, hx0, hx1⟩, hg, hc⟩
  have X0 := hid (XA.out.step hg hc)
  clear XA hg hc
  by_cases e0 : x = 0
  · subst e0
    go_wp2_with fail
    refine (raw_cu g _ X0.out.dg.cu).mono ?_
    rintro r w1 ⟨⟨y, rfl, hy0, hy1⟩, hg, hc⟩
    have Y1 := hid (X0.out.step hg hc)
    clear X0 hg hc
    have c0 := Y1.out.kb.cell (j := 0) rfl
    have f0 := Y1.out.kb.free 0
    have X1 : Hid (DW w (w1.setCell ⟨b, 0, none⟩ (.int .i64 y)) g b 27 [.int .i64 0, .string ⟨#[]⟩, .string ⟨#[]⟩, .string ⟨#[]⟩, .string ⟨#[]⟩, .int .i64 0, .bool false] [.int .i64 y, .string ky, .string vl, .string lo, .string hi, .int .i64 mo, .bool bk]) := (Y1.out.setE 0 (.int .i64 y) (ys := [.int .i64 y, .string ky, .string vl, .string lo, .string hi, .int .i64 mo, .bool bk]) rfl)
    go_upto_region 13 with (fail)
    generalize (w1.setCell ⟨b, 0, none⟩ (.int .i64 y)) = V1 at *
    clear Y1 c0 f0
    have JE := hid (X1.out.k1.setRow [.int .i64 y, .string ky, .string vl, .string lo, .string hi, .int .i64 mo, .bool bk])
    have GE := hid (X1.out.dg.row w.heap.size (Nat.le_refl _) #[.int .i64 y, .string ky, .string vl, .string lo, .string hi, .int .i64 mo, .bool bk])
    go_wp2_with (first
      | (refine wpList_load_row rfl 27 _ rfl b rfl 27 _ (0, 0) _ X1.out.kb Try.underlying27 rfl (by kernel_rfl) ?_; go_frame)
      | (refine wpList_store_row rfl 27 _ _ rfl w.heap.size #[.int .i64 y, .string ky, .string vl, .string lo, .string hi, .int .i64 mo, .bool bk] rfl rfl 27 _ X1.out.k1 (by kernel_rfl) rfl (by kernel_rfl) ?_))
    generalize V1.setRow w.heap.size #[.int .i64 y, .string ky, .string vl, .string lo, .string hi, .int .i64 mo, .bool bk] = VE at *
    try simp only [Exit.inBlock, Exit.then]
    refine bodyPost_ret (v := .agg #[.int .i64 y, .string ky, .string vl, .string lo, .string hi, .int .i64 mo, .bool bk]) ?_ rfl ?_
    · exact results_cell_row rfl _ _ w.heap.size 27 _ (0, 0) _ rfl JE.out Try.underlying27 rfl (by kernel_rfl)
    · exact ⟨⟨_, _, _, _, _, _, _, rfl⟩, GE.out.gr, GE.out.cu⟩
  · by_cases e1 : x = 1
    · subst e1
      have XT := hid (X0.out.alloc (.cells #[.string ⟨#[]⟩, .string ⟨#[122, 122, 122, 122, 122, 122, 122, 122, 122]⟩, .string ⟨#[97]⟩] 9))
      have KT := hid (Bk.new V0 9 [.string ⟨#[]⟩, .string ⟨#[122, 122, 122, 122, 122, 122, 122, 122, 122]⟩, .string ⟨#[97]⟩])
      have hTb : V0.heap.size ≠ g := by have := X0.out.dg.cu.lt; omega
      go_wp2_with fail
      refine (below_any g 3 _ XT.out.dg.cu (by omega) (by omega)).mono ?_
      generalize V0.alloc (.cells #[.string ⟨#[]⟩, .string ⟨#[122, 122, 122, 122, 122, 122, 122, 122, 122]⟩, .string ⟨#[97]⟩] 9) = VT at *
      generalize V0.heap.size = bT at *
      rintro r w2 ⟨⟨y, rfl, hy0, hy1⟩, hg, hc⟩
      have Y1 := hid (XT.out.step hg hc)
      have K2 := hid (KT.out.grownR hg hTb)
      clear XT KT X0 hg hc
      have hy : y = 0 ∨ y = 1 ∨ y = 2 := by omega
      clear hy0 hy1
      rcases hy with rfl | rfl | rfl
      · skip
        have t0 := K2.out.cell (j := 0) rfl
        have c1 := Y1.out.kb.cell (j := 1) rfl
        have f1 := Y1.out.kb.free 1
        have X1 : Hid (DW w (w2.setCell ⟨b, 1, none⟩ (.string ⟨#[]⟩)) g b 27 [.int .i64 0, .string ⟨#[]⟩, .string ⟨#[]⟩, .string ⟨#[]⟩, .string ⟨#[]⟩, .int .i64 0, .bool false] [.int .i64 k, .string ⟨#[]⟩, .string vl, .string lo, .string hi, .int .i64 mo, .bool bk]) := Y1.out.setE 1 (.string ⟨#[]⟩) (ys := [.int .i64 k, .string ⟨#[]⟩, .string vl, .string lo, .string hi, .int .i64 mo, .bool bk]) rfl
        go_upto_region 13 with (fail)
        generalize (w2.setCell ⟨b, 1, none⟩ (.string ⟨#[]⟩)) = V1 at *
        clear t0 c1 f1 Y1 K2
        have JE := hid (X1.out.k1.setRow [.int .i64 k, .string ⟨#[]⟩, .string vl, .string lo, .string hi, .int .i64 mo, .bool bk])
        have GE := hid (X1.out.dg.row w.heap.size (Nat.le_refl _) #[.int .i64 k, .string ⟨#[]⟩, .string vl, .string lo, .string hi, .int .i64 mo, .bool bk])
        go_wp2_with (first
          | (refine wpList_load_row rfl 27 _ rfl b rfl 27 _ (0, 0) _ X1.out.kb Try.underlying27 rfl (by kernel_rfl) ?_; go_frame)
          | (refine wpList_store_row rfl 27 _ _ rfl w.heap.size #[.int .i64 k, .string ⟨#[]⟩, .string vl, .string lo, .string hi, .int .i64 mo, .bool bk] rfl rfl 27 _ X1.out.k1 (by kernel_rfl) rfl (by kernel_rfl) ?_))
        generalize V1.setRow w.heap.size #[.int .i64 k, .string ⟨#[]⟩, .string vl, .string lo, .string hi, .int .i64 mo, .bool bk] = VE at *
        try simp only [Exit.inBlock, Exit.then]
        refine bodyPost_ret (v := .agg #[.int .i64 k, .string ⟨#[]⟩, .string vl, .string lo, .string hi, .int .i64 mo, .bool bk]) ?_ rfl ?_
        · exact results_cell_row rfl _ _ w.heap.size 27 _ (0, 0) _ rfl JE.out Try.underlying27 rfl (by kernel_rfl)
        · exact ⟨⟨_, _, _, _, _, _, _, rfl⟩, GE.out.gr, GE.out.cu⟩
      · skip
        have t0 := K2.out.cell (j := 1) rfl
        have c1 := Y1.out.kb.cell (j := 1) rfl
        have f1 := Y1.out.kb.free 1
        have X1 : Hid (DW w (w2.setCell ⟨b, 1, none⟩ (.string ⟨#[122, 122, 122, 122, 122, 122, 122, 122, 122]⟩)) g b 27 [.int .i64 0, .string ⟨#[]⟩, .string ⟨#[]⟩, .string ⟨#[]⟩, .string ⟨#[]⟩, .int .i64 0, .bool false] [.int .i64 k, .string ⟨#[122, 122, 122, 122, 122, 122, 122, 122, 122]⟩, .string vl, .string lo, .string hi, .int .i64 mo, .bool bk]) := Y1.out.setE 1 (.string ⟨#[122, 122, 122, 122, 122, 122, 122, 122, 122]⟩) (ys := [.int .i64 k, .string ⟨#[122, 122, 122, 122, 122, 122, 122, 122, 122]⟩, .string vl, .string lo, .string hi, .int .i64 mo, .bool bk]) rfl
        go_upto_region 13 with (fail)
        generalize (w2.setCell ⟨b, 1, none⟩ (.string ⟨#[122, 122, 122, 122, 122, 122, 122, 122, 122]⟩)) = V1 at *
        clear t0 c1 f1 Y1 K2
        have JE := hid (X1.out.k1.setRow [.int .i64 k, .string ⟨#[122, 122, 122, 122, 122, 122, 122, 122, 122]⟩, .string vl, .string lo, .string hi, .int .i64 mo, .bool bk])
        have GE := hid (X1.out.dg.row w.heap.size (Nat.le_refl _) #[.int .i64 k, .string ⟨#[122, 122, 122, 122, 122, 122, 122, 122, 122]⟩, .string vl, .string lo, .string hi, .int .i64 mo, .bool bk])
        go_wp2_with (first
          | (refine wpList_load_row rfl 27 _ rfl b rfl 27 _ (0, 0) _ X1.out.kb Try.underlying27 rfl (by kernel_rfl) ?_; go_frame)
          | (refine wpList_store_row rfl 27 _ _ rfl w.heap.size #[.int .i64 k, .string ⟨#[122, 122, 122, 122, 122, 122, 122, 122, 122]⟩, .string vl, .string lo, .string hi, .int .i64 mo, .bool bk] rfl rfl 27 _ X1.out.k1 (by kernel_rfl) rfl (by kernel_rfl) ?_))
        generalize V1.setRow w.heap.size #[.int .i64 k, .string ⟨#[122, 122, 122, 122, 122, 122, 122, 122, 122]⟩, .string vl, .string lo, .string hi, .int .i64 mo, .bool bk] = VE at *
        try simp only [Exit.inBlock, Exit.then]
        refine bodyPost_ret (v := .agg #[.int .i64 k, .string ⟨#[122, 122, 122, 122, 122, 122, 122, 122, 122]⟩, .string vl, .string lo, .string hi, .int .i64 mo, .bool bk]) ?_ rfl ?_
        · exact results_cell_row rfl _ _ w.heap.size 27 _ (0, 0) _ rfl JE.out Try.underlying27 rfl (by kernel_rfl)
        · exact ⟨⟨_, _, _, _, _, _, _, rfl⟩, GE.out.gr, GE.out.cu⟩
      · skip
        have t0 := K2.out.cell (j := 2) rfl
        have c1 := Y1.out.kb.cell (j := 1) rfl
        have f1 := Y1.out.kb.free 1
        have X1 : Hid (DW w (w2.setCell ⟨b, 1, none⟩ (.string ⟨#[97]⟩)) g b 27 [.int .i64 0, .string ⟨#[]⟩, .string ⟨#[]⟩, .string ⟨#[]⟩, .string ⟨#[]⟩, .int .i64 0, .bool false] [.int .i64 k, .string ⟨#[97]⟩, .string vl, .string lo, .string hi, .int .i64 mo, .bool bk]) := Y1.out.setE 1 (.string ⟨#[97]⟩) (ys := [.int .i64 k, .string ⟨#[97]⟩, .string vl, .string lo, .string hi, .int .i64 mo, .bool bk]) rfl
        go_upto_region 13 with (fail)
        generalize (w2.setCell ⟨b, 1, none⟩ (.string ⟨#[97]⟩)) = V1 at *
        clear t0 c1 f1 Y1 K2
        have JE := hid (X1.out.k1.setRow [.int .i64 k, .string ⟨#[97]⟩, .string vl, .string lo, .string hi, .int .i64 mo, .bool bk])
        have GE := hid (X1.out.dg.row w.heap.size (Nat.le_refl _) #[.int .i64 k, .string ⟨#[97]⟩, .string vl, .string lo, .string hi, .int .i64 mo, .bool bk])
        go_wp2_with (first
          | (refine wpList_load_row rfl 27 _ rfl b rfl 27 _ (0, 0) _ X1.out.kb Try.underlying27 rfl (by kernel_rfl) ?_; go_frame)
          | (refine wpList_store_row rfl 27 _ _ rfl w.heap.size #[.int .i64 k, .string ⟨#[97]⟩, .string vl, .string lo, .string hi, .int .i64 mo, .bool bk] rfl rfl 27 _ X1.out.k1 (by kernel_rfl) rfl (by kernel_rfl) ?_))
        generalize V1.setRow w.heap.size #[.int .i64 k, .string ⟨#[97]⟩, .string vl, .string lo, .string hi, .int .i64 mo, .bool bk] = VE at *
        try simp only [Exit.inBlock, Exit.then]
        refine bodyPost_ret (v := .agg #[.int .i64 k, .string ⟨#[97]⟩, .string vl, .string lo, .string hi, .int .i64 mo, .bool bk]) ?_ rfl ?_
        · exact results_cell_row rfl _ _ w.heap.size 27 _ (0, 0) _ rfl JE.out Try.underlying27 rfl (by kernel_rfl)
        · exact ⟨⟨_, _, _, _, _, _, _, rfl⟩, GE.out.gr, GE.out.cu⟩
    · by_cases e2 : x = 2
      · subst e2
        have XT := hid (X0.out.alloc (.cells #[.int .i64 0, .int .i64 9, .int .i64 1] 3))
        have KT := hid (Bk.new V0 3 [.int .i64 0, .int .i64 9, .int .i64 1])
        have hTb : V0.heap.size ≠ g := by have := X0.out.dg.cu.lt; omega
        go_wp2_with fail
        refine (below_any g 3 _ XT.out.dg.cu (by omega) (by omega)).mono ?_
        generalize V0.alloc (.cells #[.int .i64 0, .int .i64 9, .int .i64 1] 3) = VT at *
        generalize V0.heap.size = bT at *
        rintro r w2 ⟨⟨y, rfl, hy0, hy1⟩, hg, hc⟩
        have Y1 := hid (XT.out.step hg hc)
        have K2 := hid (KT.out.grownR hg hTb)
        clear XT KT X0 hg hc
        have hy : y = 0 ∨ y = 1 ∨ y = 2 := by omega
        clear hy0 hy1
        rcases hy with rfl | rfl | rfl
        · skip
          have t0 := K2.out.cell (j := 0) rfl
          have c5 := Y1.out.kb.cell (j := 5) rfl
          have f5 := Y1.out.kb.free 5
          have X1 : Hid (DW w (w2.setCell ⟨b, 5, none⟩ (.int .i64 0)) g b 27 [.int .i64 0, .string ⟨#[]⟩, .string ⟨#[]⟩, .string ⟨#[]⟩, .string ⟨#[]⟩, .int .i64 0, .bool false] [.int .i64 k, .string ky, .string vl, .string lo, .string hi, .int .i64 0, .bool bk]) := Y1.out.setE 5 (.int .i64 0) (ys := [.int .i64 k, .string ky, .string vl, .string lo, .string hi, .int .i64 0, .bool bk]) rfl
          go_upto_region 13 with (fail)
          generalize (w2.setCell ⟨b, 5, none⟩ (.int .i64 0)) = V1 at *
          clear t0 c5 f5 Y1 K2
          have JE := hid (X1.out.k1.setRow [.int .i64 k, .string ky, .string vl, .string lo, .string hi, .int .i64 0, .bool bk])
          have GE := hid (X1.out.dg.row w.heap.size (Nat.le_refl _) #[.int .i64 k, .string ky, .string vl, .string lo, .string hi, .int .i64 0, .bool bk])
          go_wp2_with (first
            | (refine wpList_load_row rfl 27 _ rfl b rfl 27 _ (0, 0) _ X1.out.kb Try.underlying27 rfl (by kernel_rfl) ?_; go_frame)
            | (refine wpList_store_row rfl 27 _ _ rfl w.heap.size #[.int .i64 k, .string ky, .string vl, .string lo, .string hi, .int .i64 0, .bool bk] rfl rfl 27 _ X1.out.k1 (by kernel_rfl) rfl (by kernel_rfl) ?_))
          generalize V1.setRow w.heap.size #[.int .i64 k, .string ky, .string vl, .string lo, .string hi, .int .i64 0, .bool bk] = VE at *
          try simp only [Exit.inBlock, Exit.then]
          refine bodyPost_ret (v := .agg #[.int .i64 k, .string ky, .string vl, .string lo, .string hi, .int .i64 0, .bool bk]) ?_ rfl ?_
          · exact results_cell_row rfl _ _ w.heap.size 27 _ (0, 0) _ rfl JE.out Try.underlying27 rfl (by kernel_rfl)
          · exact ⟨⟨_, _, _, _, _, _, _, rfl⟩, GE.out.gr, GE.out.cu⟩
        · skip
          have t0 := K2.out.cell (j := 1) rfl
          have c5 := Y1.out.kb.cell (j := 5) rfl
          have f5 := Y1.out.kb.free 5
          have X1 : Hid (DW w (w2.setCell ⟨b, 5, none⟩ (.int .i64 9)) g b 27 [.int .i64 0, .string ⟨#[]⟩, .string ⟨#[]⟩, .string ⟨#[]⟩, .string ⟨#[]⟩, .int .i64 0, .bool false] [.int .i64 k, .string ky, .string vl, .string lo, .string hi, .int .i64 9, .bool bk]) := Y1.out.setE 5 (.int .i64 9) (ys := [.int .i64 k, .string ky, .string vl, .string lo, .string hi, .int .i64 9, .bool bk]) rfl
          go_upto_region 13 with (fail)
          generalize (w2.setCell ⟨b, 5, none⟩ (.int .i64 9)) = V1 at *
          clear t0 c5 f5 Y1 K2
          have JE := hid (X1.out.k1.setRow [.int .i64 k, .string ky, .string vl, .string lo, .string hi, .int .i64 9, .bool bk])
          have GE := hid (X1.out.dg.row w.heap.size (Nat.le_refl _) #[.int .i64 k, .string ky, .string vl, .string lo, .string hi, .int .i64 9, .bool bk])
          go_wp2_with (first
            | (refine wpList_load_row rfl 27 _ rfl b rfl 27 _ (0, 0) _ X1.out.kb Try.underlying27 rfl (by kernel_rfl) ?_; go_frame)
            | (refine wpList_store_row rfl 27 _ _ rfl w.heap.size #[.int .i64 k, .string ky, .string vl, .string lo, .string hi, .int .i64 9, .bool bk] rfl rfl 27 _ X1.out.k1 (by kernel_rfl) rfl (by kernel_rfl) ?_))
          generalize V1.setRow w.heap.size #[.int .i64 k, .string ky, .string vl, .string lo, .string hi, .int .i64 9, .bool bk] = VE at *
          try simp only [Exit.inBlock, Exit.then]
          refine bodyPost_ret (v := .agg #[.int .i64 k, .string ky, .string vl, .string lo, .string hi, .int .i64 9, .bool bk]) ?_ rfl ?_
          · exact results_cell_row rfl _ _ w.heap.size 27 _ (0, 0) _ rfl JE.out Try.underlying27 rfl (by kernel_rfl)
          · exact ⟨⟨_, _, _, _, _, _, _, rfl⟩, GE.out.gr, GE.out.cu⟩
        · skip
          have t0 := K2.out.cell (j := 2) rfl
          have c5 := Y1.out.kb.cell (j := 5) rfl
          have f5 := Y1.out.kb.free 5
          have X1 : Hid (DW w (w2.setCell ⟨b, 5, none⟩ (.int .i64 1)) g b 27 [.int .i64 0, .string ⟨#[]⟩, .string ⟨#[]⟩, .string ⟨#[]⟩, .string ⟨#[]⟩, .int .i64 0, .bool false] [.int .i64 k, .string ky, .string vl, .string lo, .string hi, .int .i64 1, .bool bk]) := Y1.out.setE 5 (.int .i64 1) (ys := [.int .i64 k, .string ky, .string vl, .string lo, .string hi, .int .i64 1, .bool bk]) rfl
          go_upto_region 13 with (fail)
          generalize (w2.setCell ⟨b, 5, none⟩ (.int .i64 1)) = V1 at *
          clear t0 c5 f5 Y1 K2
          have JE := hid (X1.out.k1.setRow [.int .i64 k, .string ky, .string vl, .string lo, .string hi, .int .i64 1, .bool bk])
          have GE := hid (X1.out.dg.row w.heap.size (Nat.le_refl _) #[.int .i64 k, .string ky, .string vl, .string lo, .string hi, .int .i64 1, .bool bk])
          go_wp2_with (first
            | (refine wpList_load_row rfl 27 _ rfl b rfl 27 _ (0, 0) _ X1.out.kb Try.underlying27 rfl (by kernel_rfl) ?_; go_frame)
            | (refine wpList_store_row rfl 27 _ _ rfl w.heap.size #[.int .i64 k, .string ky, .string vl, .string lo, .string hi, .int .i64 1, .bool bk] rfl rfl 27 _ X1.out.k1 (by kernel_rfl) rfl (by kernel_rfl) ?_))
          generalize V1.setRow w.heap.size #[.int .i64 k, .string ky, .string vl, .string lo, .string hi, .int .i64 1, .bool bk] = VE at *
          try simp only [Exit.inBlock, Exit.then]
          refine bodyPost_ret (v := .agg #[.int .i64 k, .string ky, .string vl, .string lo, .string hi, .int .i64 1, .bool bk]) ?_ rfl ?_
          · exact results_cell_row rfl _ _ w.heap.size 27 _ (0, 0) _ rfl JE.out Try.underlying27 rfl (by kernel_rfl)
          · exact ⟨⟨_, _, _, _, _, _, _, rfl⟩, GE.out.gr, GE.out.cu⟩
      · by_cases e3 : x = 3
        · subst e3
          go_wp2_with fail
          refine (anyRange_any g _ X0.out.dg.cu).mono ?_
          rintro r w1 ⟨⟨lo2, hi2, rfl⟩, hg, hc⟩
          have Y1 := hid (X0.out.step hg hc)
          clear X0 hg hc
          have c3 := Y1.out.kb.cell (j := 3) rfl
          have f3 := Y1.out.kb.free 3
          have c4 := Y1.out.kb.cell (j := 4) rfl
          have f4 := Y1.out.kb.free 4
          have X1 : Hid (DW w ((w1.setCell ⟨b, 3, none⟩ (.string lo2)).setCell ⟨b, 4, none⟩ (.string hi2)) g b 27 [.int .i64 0, .string ⟨#[]⟩, .string ⟨#[]⟩, .string ⟨#[]⟩, .string ⟨#[]⟩, .int .i64 0, .bool false] [.int .i64 k, .string ky, .string vl, .string lo2, .string hi2, .int .i64 mo, .bool bk]) := ((Y1.out.setE 3 (.string lo2) (ys := [.int .i64 k, .string ky, .string vl, .string lo2, .string hi, .int .i64 mo, .bool bk]) rfl).setE 4 (.string hi2) (ys := [.int .i64 k, .string ky, .string vl, .string lo2, .string hi2, .int .i64 mo, .bool bk]) rfl)
          go_upto_region 13 with (fail)
          generalize ((w1.setCell ⟨b, 3, none⟩ (.string lo2)).setCell ⟨b, 4, none⟩ (.string hi2)) = V1 at *
          clear Y1 c3 f3 c4 f4
          have JE := hid (X1.out.k1.setRow [.int .i64 k, .string ky, .string vl, .string lo2, .string hi2, .int .i64 mo, .bool bk])
          have GE := hid (X1.out.dg.row w.heap.size (Nat.le_refl _) #[.int .i64 k, .string ky, .string vl, .string lo2, .string hi2, .int .i64 mo, .bool bk])
          go_wp2_with (first
            | (refine wpList_load_row rfl 27 _ rfl b rfl 27 _ (0, 0) _ X1.out.kb Try.underlying27 rfl (by kernel_rfl) ?_; go_frame)
            | (refine wpList_store_row rfl 27 _ _ rfl w.heap.size #[.int .i64 k, .string ky, .string vl, .string lo2, .string hi2, .int .i64 mo, .bool bk] rfl rfl 27 _ X1.out.k1 (by kernel_rfl) rfl (by kernel_rfl) ?_))
          generalize V1.setRow w.heap.size #[.int .i64 k, .string ky, .string vl, .string lo2, .string hi2, .int .i64 mo, .bool bk] = VE at *
          try simp only [Exit.inBlock, Exit.then]
          refine bodyPost_ret (v := .agg #[.int .i64 k, .string ky, .string vl, .string lo2, .string hi2, .int .i64 mo, .bool bk]) ?_ rfl ?_
          · exact results_cell_row rfl _ _ w.heap.size 27 _ (0, 0) _ rfl JE.out Try.underlying27 rfl (by kernel_rfl)
          · exact ⟨⟨_, _, _, _, _, _, _, rfl⟩, GE.out.gr, GE.out.cu⟩
        · by_cases e4 : x = 4
          · subst e4
            have c6 := X0.out.kb.cell (j := 6) rfl
            have f6 := X0.out.kb.free 6
            have X1 : Hid (DW w (V0.setCell ⟨b, 6, none⟩ (.bool !bk)) g b 27 [.int .i64 0, .string ⟨#[]⟩, .string ⟨#[]⟩, .string ⟨#[]⟩, .string ⟨#[]⟩, .int .i64 0, .bool false] [.int .i64 k, .string ky, .string vl, .string lo, .string hi, .int .i64 mo, .bool !bk]) := X0.out.setE 6 (.bool !bk) (ys := [.int .i64 k, .string ky, .string vl, .string lo, .string hi, .int .i64 mo, .bool !bk]) rfl
            go_upto_region 13 with (fail)
            generalize (V0.setCell ⟨b, 6, none⟩ (.bool !bk)) = V1 at *
            clear c6 f6 X0
            have JE := hid (X1.out.k1.setRow [.int .i64 k, .string ky, .string vl, .string lo, .string hi, .int .i64 mo, .bool !bk])
            have GE := hid (X1.out.dg.row w.heap.size (Nat.le_refl _) #[.int .i64 k, .string ky, .string vl, .string lo, .string hi, .int .i64 mo, .bool !bk])
            go_wp2_with (first
              | (refine wpList_load_row rfl 27 _ rfl b rfl 27 _ (0, 0) _ X1.out.kb Try.underlying27 rfl (by kernel_rfl) ?_; go_frame)
              | (refine wpList_store_row rfl 27 _ _ rfl w.heap.size #[.int .i64 k, .string ky, .string vl, .string lo, .string hi, .int .i64 mo, .bool !bk] rfl rfl 27 _ X1.out.k1 (by kernel_rfl) rfl (by kernel_rfl) ?_))
            generalize V1.setRow w.heap.size #[.int .i64 k, .string ky, .string vl, .string lo, .string hi, .int .i64 mo, .bool !bk] = VE at *
            try simp only [Exit.inBlock, Exit.then]
            refine bodyPost_ret (v := .agg #[.int .i64 k, .string ky, .string vl, .string lo, .string hi, .int .i64 mo, .bool !bk]) ?_ rfl ?_
            · exact results_cell_row rfl _ _ w.heap.size 27 _ (0, 0) _ rfl JE.out Try.underlying27 rfl (by kernel_rfl)
            · exact ⟨⟨_, _, _, _, _, _, _, rfl⟩, GE.out.gr, GE.out.cu⟩
          · skip
            go_upto_region 13 with (fail)
            have JE := hid (X0.out.k1.setRow [.int .i64 k, .string ky, .string vl, .string lo, .string hi, .int .i64 mo, .bool bk])
            have GE := hid (X0.out.dg.row w.heap.size (Nat.le_refl _) #[.int .i64 k, .string ky, .string vl, .string lo, .string hi, .int .i64 mo, .bool bk])
            go_wp2_with (first
              | (refine wpList_load_row rfl 27 _ rfl b rfl 27 _ (0, 0) _ X0.out.kb Try.underlying27 rfl (by kernel_rfl) ?_; go_frame)
              | (refine wpList_store_row rfl 27 _ _ rfl w.heap.size #[.int .i64 k, .string ky, .string vl, .string lo, .string hi, .int .i64 mo, .bool bk] rfl rfl 27 _ X0.out.k1 (by kernel_rfl) rfl (by kernel_rfl) ?_))
            generalize V0.setRow w.heap.size #[.int .i64 k, .string ky, .string vl, .string lo, .string hi, .int .i64 mo, .bool bk] = VE at *
            try simp only [Exit.inBlock, Exit.then]
            refine bodyPost_ret (v := .agg #[.int .i64 k, .string ky, .string vl, .string lo, .string hi, .int .i64 mo, .bool bk]) ?_ rfl ?_
            · exact results_cell_row rfl _ _ w.heap.size 27 _ (0, 0) _ rfl JE.out Try.underlying27 rfl (by kernel_rfl)
            · exact ⟨⟨_, _, _, _, _, _, _, rfl⟩, GE.out.gr, GE.out.cu⟩
end Go.Proofs.Ytjbamfgfgbmieaa
/-
  Drawn data and an ask.
-/
namespace Go.Proofs.Ytjbamfgfgbmieaa
open Go.RowKit
set_option linter.unusedVariables false
theorem wpList_store_newA {P : Program} {w : World} {ops : Array Oper} {rest : List Oper} {o : Oper} {a : Act} {Q : Exit → Act → World → Prop} (hgd : o.guard = none) (ty : TypeId) (x y : Operand) (ho : o.op = .store ty x y) (T : TypeId) (old cells : Array Value)
    (hx : a.eval x = .pointer (some ⟨w.heap.size, 0, none⟩)) (hy : a.eval y = .agg cells) (hi : (P.info? ty).map (·.size) = some cells.size) (hold : old.size = cells.size) (h1 : cells.all (·.oneCell') = true)
    (h : wpList P ops Q rest (a.put o.dst undef) (w.alloc (.cells cells T))) : wpList P ops Q (o :: rest) a (w.alloc (.cells old T)) := by
  refine wpList_store_row hgd ty x y ho w.heap.size cells hx hy T old (heap_alloc_new w _) hi hold h1 ?_
  rw [World.setRow_alloc_new]
  exact h
theorem ex_loadA {P : Program} {ρ : Operand → Value} {o : Oper} {w : World} (ty : TypeId) (x : Operand) (ho : o.op = .load ty x) (g : Nat) (hx : ρ x = .pointer (some ⟨g, 0, none⟩)) (t : TypeId) (cs : Array Value) (fr : Nat × Nat) (d : TypeDesc) (hg : w.heap[g]? = some (.cells cs t fr))
    (hu : P.underlying ty = some d) (hd : (match d with | .struct _ | .array _ _ => true | _ => false) = true) (hi : (P.info? ty).map (·.size) = some cs.size) : (execOp ρ o).run P w = .ok (.value (.agg cs)) w := by
  unfold execOp
  simp only [ho, hx, Instr.loadAt, Instr.sureAddr, Sem.run_bind, Sem.run_pure, Result.andThen_ok, run_loadVar_row w g t ty cs fr d hg hu hd hi]
theorem pr_grownO {w w' : World} {S : Nat → Prop} {v : Value} {l : List PB} {g : Nat} (h : Pr w S v l) (hg : w.grownBy w' (some g)) (hS : ∀ b, S b → b ≠ g) : Pr w' S v l := Rw.to h (only_of_grown hg (R := fun y => y = g) (fun q hq => by cases hq; rfl)) (fun b hb _ e => hS b hb e)
theorem results_sl_ask {fn : Func} {p u : Tmp} (h : fn.results = #[.tmp u, .cell p 27]) (tmps : Array Value) (w : World) (g : Nat) {k : Int} {ky vl lo hi : ByteArray} {mo : Int} {bk : Bool} {v : Value} (hu : tmps.getD u undef = v) (hp : tmps.getD p undef = .pointer (some ⟨g, 0, none⟩)) (hb : Bk w g 27 [.int .i64 k, .string ky, .string vl, .string lo, .string hi, .int .i64 mo, .bool bk]) :
    (results fn tmps).run Try.prog w = .ok (.tuple #[v, .agg #[.int .i64 k, .string ky, .string vl, .string lo, .string hi, .int .i64 mo, .bool bk]]) w := by
  have hp' : tmps[p]?.getD undef = .pointer (some ⟨g, 0, none⟩) := by simpa using hp
  have hu' : tmps[u]?.getD undef = v := by simpa using hu
  have hl := load_ask (hb.cell (j := 0) rfl) (hb.cell (j := 1) rfl) (hb.cell (j := 2) rfl) (hb.cell (j := 3) rfl) (hb.cell (j := 4) rfl) (hb.cell (j := 5) rfl) (hb.cell (j := 6) rfl)
  simp [results, h, hp', hu', asAddr, hl]
def DkPost (w : World) (e : Ending) (w' : World) : Prop := ∃ av nv cv l k ky vl lo hi mo bk, e = .returned (.tuple #[.slice av nv cv, .agg #[.int .i64 k, .string ky, .string vl, .string lo, .string hi, .int .i64 mo, .bool bk]]) ∧ nv ≤ 7 ∧ Pr w' (fun b => w.heap.size ≤ b) (.slice av nv cv) l ∧ Below w.heap.size w w'
set_option maxHeartbeats 8000000 in
set_option maxRecDepth 20000 in
theorem drawRunAsk_any (a : Option Addr) (n c : Nat) (zs : List Int) (w : World) (h : Rd w a n c zs) (hl : n ≤ 1048576) :
    Calls Try.prog 6 #[.slice a n c] w fun e w' => DkPost w e w' := by
  have B0 := hid (below_alloc w (.cells #[.int .i64 0, .string ⟨#[]⟩, .string ⟨#[]⟩, .string ⟨#[]⟩, .string ⟨#[]⟩, .int .i64 0, .bool false] 27))
  have K0 := hid (Bk.new w 27 [.int .i64 0, .string ⟨#[]⟩, .string ⟨#[]⟩, .string ⟨#[]⟩, .string ⟨#[]⟩, .int .i64 0, .bool false])
  have H0 := hid (h.kept B0.out)
  clear h
  go_enter Try.func6, Try.ntmps6
  go_wp2_with fail
  refine (new_any a n c zs _ H0.out hl).mono ?_
  generalize w.alloc (.cells #[.int .i64 0, .string ⟨#[]⟩, .string ⟨#[]⟩, .string ⟨#[]⟩, .string ⟨#[]⟩, .int .i64 0, .bool false] 27) = U at *
  have HG : Hid (w.heap.size < U.heap.size) := K0.out.lt
  generalize hgg : U.heap.size = g at *
  have HGG := hid hgg
  clear hgg
  rintro e w1 ⟨rfl, hb, hc⟩
  rw [← HGG.out] at hb
  have B1 := hid (thn2 B0.out hb)
  have K1 := hid (K0.out.below hb)
  have C1 := hid hc
  clear hb hc B0 K0 H0
  go_wp2_with fail
  refine (l13Any_any g _ C1.out).mono ?_
  rintro e w2 ⟨⟨av, nv, cv, l, rfl, hn7, hP⟩, hg1, hc1⟩
  have HLT := hid C1.out.lt
  have P2 : Hid (Pr w2 (fun b => w1.heap.size ≤ b ∧ b < w2.heap.size) (.slice av nv cv) l) := Rw.mono hP (fun b h1 h2 => ⟨h1, h2⟩)
  have K2 := hid (K1.out.grownR hg1 (by have := HG.out; omega))
  have B2 : Hid (Below w.heap.size w w2) := B1.out.trans ((below_of_grown hg1 C1.out.lt).mono (by have := HG.out; omega))
  have C2 := hid hc1
  clear hg1 hc1 hP B1 K1 C1
  go_wp2_with fail
  refine (l09Ask_any g _ C2.out).mono ?_
  rintro e w3 ⟨⟨k, ky, vl, lo, hi, mo, bk, rfl⟩, hg1, hc1⟩
  have P3 := hid (pr_grownO P2.out hg1 (fun b h e => by have := HLT.out; omega))
  have K3 := hid (K2.out.grownR hg1 (by have := HG.out; omega))
  have B3 : Hid (Below w.heap.size w w3) := B2.out.trans ((below_of_grown hg1 C2.out.lt).mono (by have := HG.out; omega))
  have S23 := hid hg1.size
  have C3 := hid hc1
  clear hg1 hc1 P2 K2 B2 C2
  have hbn := below_alloc w3 (.cells #[.int .i64 k, .string ky, .string vl, .string lo, .string hi, .int .i64 mo, .bool bk] 27)
  have P4 := hid (P3.out.below' hbn)
  have K4 := hid (K3.out.below hbn)
  have B4 := hid (thn2 B3.out hbn)
  have C4 := hid (C3.out.below hbn)
  have J4 := hid (Bk.new w3 27 [.int .i64 k, .string ky, .string vl, .string lo, .string hi, .int .i64 mo, .bool bk])
  have HW3 : Hid (w.heap.size < w3.heap.size) := K3.out.lt
  have HC3 : Hid (g < w3.heap.size) := C3.out.lt
  clear hbn P3 K3 B3 C3
  go_wp2_with (refine wpList_store_newA ?hg 27 _ _ ?ho 27 _ _ ?hx ?hy ?hi ?hold ?h1 ?rest; (case hg => rfl); (case ho => rfl); (case hx => rfl); (case hy => rfl); (case hi => kernel_rfl); (case hold => rfl); (case h1 => kernel_rfl))
  refine (below_any g 8 _ C4.out (by omega) (by omega)).mono ?_
  generalize hV : w3.alloc (.cells #[.int .i64 k, .string ky, .string vl, .string lo, .string hi, .int .i64 mo, .bool bk] 27) = V4 at *
  clear hV
  generalize w3.heap.size = b6 at *
  rintro e w5 ⟨⟨x, rfl, hx0, hx1⟩, hg1, hc1⟩
  have P5 := hid (pr_grownO P4.out hg1 (fun b h e => by have := HLT.out; omega))
  have K5 := hid (K4.out.grownR hg1 (by have := HG.out; omega))
  have J5 := hid (J4.out.grownR hg1 (by have := HC3.out; omega))
  have B5 : Hid (Below w.heap.size w w5) := B4.out.trans ((below_of_grown hg1 C4.out.lt).mono (by have := HG.out; omega))
  have C5 := hid hc1
  clear hg1 hc1 P4 K4 J4 B4 C4
  by_cases hz : x = 0
  · subst hz
    go_wp2_with fail
    refine (l09AnyAsk_any g _ C5.out).mono ?_
    rintro e w6 ⟨⟨k2, ky2, vl2, lo2, hi2, mo2, bk2, rfl⟩, hg1, hc1⟩
    have P6 := hid (pr_grownO P5.out hg1 (fun b h e => by have := HLT.out; omega))
    have K6 := hid (K5.out.grownR hg1 (by have := HG.out; omega))
    have J6 := hid (J5.out.grownR hg1 (by have := HC3.out; omega))
    have B6 : Hid (Below w.heap.size w w6) := B5.out.trans ((below_of_grown hg1 C5.out.lt).mono (by have := HG.out; omega))
    clear hg1 hc1 P5 K5 J5 B5 C5
    have hon7 : Only (fun y => y = b6) w6 (w6.setRow b6 #[.int .i64 k2, .string ky2, .string vl2, .string lo2, .string hi2, .int .i64 mo2, .bool bk2]) := only_setRow (R := fun y => y = b6) rfl _
    have P7 := hid (Rw.to P6.out hon7 (fun b h1 _ e => by have := S23.out; omega))
    have K7 := hid (K6.out.to hon7 (by have := HW3.out; omega))
    have J7 := hid (J6.out.setRow [.int .i64 k2, .string ky2, .string vl2, .string lo2, .string hi2, .int .i64 mo2, .bool bk2])
    have B7 : Hid (Below w.heap.size w (w6.setRow b6 #[.int .i64 k2, .string ky2, .string vl2, .string lo2, .string hi2, .int .i64 mo2, .bool bk2])) := B6.out.trans (hon7.below B6.out.size (fun y h1 h2 => by have := HW3.out; omega))
    have JJ := hid J6.out
    clear P6 K6 J6 B6 hon7
    go_wp2_with (refine wpList_store_row rfl 27 _ _ rfl b6 #[.int .i64 k2, .string ky2, .string vl2, .string lo2, .string hi2, .int .i64 mo2, .bool bk2] rfl rfl 27 _ JJ.out (by kernel_rfl) rfl (by kernel_rfl) ?_)
    generalize w6.setRow b6 #[.int .i64 k2, .string ky2, .string vl2, .string lo2, .string hi2, .int .i64 mo2, .bool bk2] = w7 at *
    refine wp_region_noPanic ?_
    refine wp_region_held_drew (S := fun v => v.heap[b6]? = some (.cells #[.int .i64 k2, .string ky2, .string vl2, .string lo2, .string hi2, .int .i64 mo2, .bool bk2] 27 (0, 0))) (by kernel_rfl) (J7.out.below (below_drew _)) (fun hHeld => ?_)
    simp only [List.size_toArray, List.length_cons, List.length_nil, Array.replicate_succ, Array.replicate_zero, Nat.reduceAdd, List.push_toArray, List.nil_append, List.cons_append]
    refine wpAnyH_take (i := 0) (v := (.slice av nv cv)) rfl (by kernel_rfl) (by kernel_rfl) (by kernel_rfl) (fun _ _ _ h => h) (Or.inl ⟨by rfl, ?_⟩) (by assumption) ?_
    · intro w hSw
      (try dsimp only at hSw)
      go_simp
    try simp only [List.getElem_toArray]
    try simp only [List.getElem_cons_succ]
    try simp only [List.getElem_cons_zero]
    try simp only [Act.put]
    try simp only [List.setIfInBounds_toArray]
    try simp only [List.set_cons_succ]
    try simp only [List.set_cons_zero]
    refine wpAnyH_take (i := 1) (v := (.agg #[.int .i64 k2, .string ky2, .string vl2, .string lo2, .string hi2, .int .i64 mo2, .bool bk2])) rfl (by kernel_rfl) (by kernel_rfl) (by kernel_rfl) (fun _ _ _ h => h) (Or.inl ⟨by rfl, ?_⟩) (by assumption) ?_
    · intro w hSw
      exact ex_loadA 27 _ rfl b6 rfl 27 _ (0, 0) _ hSw Try.underlying27 rfl (by kernel_rfl)
    try simp only [List.getElem_toArray]
    try simp only [List.getElem_cons_succ]
    try simp only [List.getElem_cons_zero]
    try simp only [Act.put]
    try simp only [List.setIfInBounds_toArray]
    try simp only [List.set_cons_succ]
    try simp only [List.set_cons_zero]
    refine wpAnyH_take (i := 2) (v := (.slice av nv cv)) rfl (by kernel_rfl) (by kernel_rfl) (by kernel_rfl) (fun _ _ _ h => h) (Or.inl ⟨by rfl, ?_⟩) (by assumption) ?_
    · intro w hSw
      (try dsimp only at hSw)
      go_simp
    try simp only [List.getElem_toArray]
    try simp only [List.getElem_cons_succ]
    try simp only [List.getElem_cons_zero]
    try simp only [Act.put]
    try simp only [List.setIfInBounds_toArray]
    try simp only [List.set_cons_succ]
    try simp only [List.set_cons_zero]
    refine wpAnyH_ready (rs := [3]) (by kernel_rfl) (by simp) ?_
    refine AllReadyH.cons rfl (fun K1 hK => ?_) AllReadyH.nil
    refine wp_store_row 27 _ _ rfl w.heap.size #[.int .i64 k2, .string ky2, .string vl2, .string lo2, .string hi2, .int .i64 mo2, .bool bk2] rfl rfl 27 #[.int .i64 0, .string ⟨#[]⟩, .string ⟨#[]⟩, .string ⟨#[]⟩, .string ⟨#[]⟩, .int .i64 0, .bool false] (K7.out.below (below_drew _)) (by kernel_rfl) rfl (by kernel_rfl) ?_
    have hon : Only (fun y => y = w.heap.size) w7 (w7.drew.setRow w.heap.size #[.int .i64 k2, .string ky2, .string vl2, .string lo2, .string hi2, .int .i64 mo2, .bool bk2]) := (only_of_below (below_drew _) _).trans (only_setRow (R := fun y => y = w.heap.size) rfl _)
    have PF := hid (Rw.to P7.out hon (fun b h1 _ e => by have := HLT.out; have := HG.out; omega))
    have KF := hid ((K7.out.below (below_drew w7)).setRow [.int .i64 k2, .string ky2, .string vl2, .string lo2, .string hi2, .int .i64 mo2, .bool bk2])
    have BF : Hid (Below w.heap.size w (w7.drew.setRow w.heap.size #[.int .i64 k2, .string ky2, .string vl2, .string lo2, .string hi2, .int .i64 mo2, .bool bk2])) := B7.out.trans (hon.below B7.out.size (fun y h1 h2 => by omega))
    refine hK.out _ _ ?_ (fun hHeld => ?_)
    · exact (J7.out.to hon (by have := HW3.out; omega))
    clear hK K1
    try simp only [List.getElem_toArray]
    try simp only [List.getElem_cons_succ]
    try simp only [List.getElem_cons_zero]
    try simp only [Act.put]
    try simp only [List.setIfInBounds_toArray]
    try simp only [List.set_cons_succ]
    try simp only [List.set_cons_zero]
    refine wpAnyH_done (by kernel_rfl) ?_ _
    refine NoPanic.normal ?_
    go_wp2
    try simp only [Exit.inBlock, Exit.then]
    refine bodyPost_ret (v := .tuple #[.slice av nv cv, .agg #[.int .i64 k2, .string ky2, .string vl2, .string lo2, .string hi2, .int .i64 mo2, .bool bk2]]) ?_ rfl ?_
    · exact results_sl_ask rfl _ _ _ rfl rfl KF.out
    · exact ⟨_, _, _, _, _, _, _, _, _, _, _, rfl, hn7, Rw.mono PF.out (fun b h1 _ => by have := h1.1; have := HLT.out; have := HG.out; omega), BF.out⟩
  · go_wp2_with fail
    refine wp_region_noPanic ?_
    refine wp_region_held_drew (S := fun v => v.heap[b6]? = some (.cells #[.int .i64 k, .string ky, .string vl, .string lo, .string hi, .int .i64 mo, .bool bk] 27 (0, 0))) (by kernel_rfl) (J5.out.below (below_drew _)) (fun hHeld => ?_)
    simp only [List.size_toArray, List.length_cons, List.length_nil, Array.replicate_succ, Array.replicate_zero, Nat.reduceAdd, List.push_toArray, List.nil_append, List.cons_append]
    refine wpAnyH_take (i := 0) (v := (.slice av nv cv)) rfl (by kernel_rfl) (by kernel_rfl) (by kernel_rfl) (fun _ _ _ h => h) (Or.inl ⟨by rfl, ?_⟩) (by assumption) ?_
    · intro w hSw
      (try dsimp only at hSw)
      go_simp
    try simp only [List.getElem_toArray]
    try simp only [List.getElem_cons_succ]
    try simp only [List.getElem_cons_zero]
    try simp only [Act.put]
    try simp only [List.setIfInBounds_toArray]
    try simp only [List.set_cons_succ]
    try simp only [List.set_cons_zero]
    refine wpAnyH_take (i := 1) (v := (.agg #[.int .i64 k, .string ky, .string vl, .string lo, .string hi, .int .i64 mo, .bool bk])) rfl (by kernel_rfl) (by kernel_rfl) (by kernel_rfl) (fun _ _ _ h => h) (Or.inl ⟨by rfl, ?_⟩) (by assumption) ?_
    · intro w hSw
      exact ex_loadA 27 _ rfl b6 rfl 27 _ (0, 0) _ hSw Try.underlying27 rfl (by kernel_rfl)
    try simp only [List.getElem_toArray]
    try simp only [List.getElem_cons_succ]
    try simp only [List.getElem_cons_zero]
    try simp only [Act.put]
    try simp only [List.setIfInBounds_toArray]
    try simp only [List.set_cons_succ]
    try simp only [List.set_cons_zero]
    refine wpAnyH_take (i := 2) (v := (.slice av nv cv)) rfl (by kernel_rfl) (by kernel_rfl) (by kernel_rfl) (fun _ _ _ h => h) (Or.inl ⟨by rfl, ?_⟩) (by assumption) ?_
    · intro w hSw
      (try dsimp only at hSw)
      go_simp
    try simp only [List.getElem_toArray]
    try simp only [List.getElem_cons_succ]
    try simp only [List.getElem_cons_zero]
    try simp only [Act.put]
    try simp only [List.setIfInBounds_toArray]
    try simp only [List.set_cons_succ]
    try simp only [List.set_cons_zero]
    refine wpAnyH_ready (rs := [3]) (by kernel_rfl) (by simp) ?_
    refine AllReadyH.cons rfl (fun K1 hK => ?_) AllReadyH.nil
    refine wp_store_row 27 _ _ rfl w.heap.size #[.int .i64 k, .string ky, .string vl, .string lo, .string hi, .int .i64 mo, .bool bk] rfl rfl 27 #[.int .i64 0, .string ⟨#[]⟩, .string ⟨#[]⟩, .string ⟨#[]⟩, .string ⟨#[]⟩, .int .i64 0, .bool false] (K5.out.below (below_drew _)) (by kernel_rfl) rfl (by kernel_rfl) ?_
    have hon : Only (fun y => y = w.heap.size) w5 (w5.drew.setRow w.heap.size #[.int .i64 k, .string ky, .string vl, .string lo, .string hi, .int .i64 mo, .bool bk]) := (only_of_below (below_drew _) _).trans (only_setRow (R := fun y => y = w.heap.size) rfl _)
    have PF := hid (Rw.to P5.out hon (fun b h1 _ e => by have := HLT.out; have := HG.out; omega))
    have KF := hid ((K5.out.below (below_drew w5)).setRow [.int .i64 k, .string ky, .string vl, .string lo, .string hi, .int .i64 mo, .bool bk])
    have BF : Hid (Below w.heap.size w (w5.drew.setRow w.heap.size #[.int .i64 k, .string ky, .string vl, .string lo, .string hi, .int .i64 mo, .bool bk])) := B5.out.trans (hon.below B5.out.size (fun y h1 h2 => by omega))
    refine hK.out _ _ ?_ (fun hHeld => ?_)
    · exact (J5.out.to hon (by have := HW3.out; omega))
    clear hK K1
    try simp only [List.getElem_toArray]
    try simp only [List.getElem_cons_succ]
    try simp only [List.getElem_cons_zero]
    try simp only [Act.put]
    try simp only [List.setIfInBounds_toArray]
    try simp only [List.set_cons_succ]
    try simp only [List.set_cons_zero]
    refine wpAnyH_done (by kernel_rfl) ?_ _
    refine NoPanic.normal ?_
    go_wp2
    try simp only [Exit.inBlock, Exit.then]
    refine bodyPost_ret (v := .tuple #[.slice av nv cv, .agg #[.int .i64 k, .string ky, .string vl, .string lo, .string hi, .int .i64 mo, .bool bk]]) ?_ rfl ?_
    · exact results_sl_ask rfl _ _ _ rfl rfl KF.out
    · exact ⟨_, _, _, _, _, _, _, _, _, _, _, rfl, hn7, Rw.mono PF.out (fun b h1 _ => by have := h1.1; have := HLT.out; have := HG.out; omega), BF.out⟩
end Go.Proofs.Ytjbamfgfgbmieaa
/-
  RunAsk of the specification: what it leaves.
-/
namespace Go.Proofs.Ytjbamfgfgbmieaa
open Go.RowKit
def RsPost (ok : Bool) (D T : List PB) (w : World) (e : Ending) (w' : World) : Prop :=
  ∃ a n c a2 n2 c2, e = .returned (.tuple #[.slice a n c, .slice a2 n2 c2, .bool ok]) ∧ Ow w' w.heap.size (.slice a n c) D ∧ Ow w' w.heap.size (.slice a2 n2 c2) T ∧ Below w.heap.size w w'
theorem rs_no {w w' : World} (hb : Below w.heap.size w w') : RsPost false [] [] w (.returned (.tuple #[.slice none 0 0, .slice none 0 0, .bool false])) w' := ⟨none, 0, 0, none, 0, 0, rfl, ow_nil _ _, ow_nil _ _, hb⟩
theorem keyF_step (l : List PB) (ky kk vv : ByteArray) (j : Nat) (h : j < l.length) (hp : pAtB l j = (kk, vv)) : keyF (l.take (j + 1)) ky = if kk = ky then keyF (l.take j) ky ++ [(kk, vv)] else keyF (l.take j) ky := by
  unfold keyF
  rw [List.take_succ_eq_append_getElem h, ← pAtB_lt h, hp, List.filter_append]
  by_cases e : kk = ky <;> simp [e]
theorem keyF_len (l : List PB) (ky : ByteArray) (j : Nat) : (keyF (l.take j) ky).length ≤ l.length := by
  unfold keyF
  refine Nat.le_trans (List.length_filter_le _ _) ?_
  rw [List.length_take]
  omega
theorem run_append_prs {w : World} (ty : TypeId) (B : Nat) (v : Value) (l : List PB) (hown : Ow w B v l) (S : Nat → Prop) (a : Option Addr) (n c : Nat) (l2 : List PB) (hsrc : Pr w S (.slice a n c) l2) (hl : l.length + n ≤ 2097152) (hbase : B ≤ w.heap.size) :
    ∃ a' n' c' w', (Builtin.append_ #[23, 23] ty #[v, .slice a n c]).run Try.prog w = .ok (.slice a' n' c') w' ∧ Ow w' B (.slice a' n' c') (l ++ l2) ∧ w.grownBy w' v.ownBlock := by
  obtain ⟨i, hi, hz, hsz, hby⟩ := info_of infoPairI
  have hn := (Rw.len hsrc).1
  obtain ⟨v', w', hr, h2, h3⟩ := run_append_row (P := Try.prog) (w := w) B 23 ty 34 i _ 2 32 Try.underlying23 hi hz hsz hby rfl (by decide) v l.length (pcs l) hown S (.slice a n c) l2.length (pcs l2) hsrc (pcs_length _) (pcs_one _) (by unfold maxLen; omega) (by omega) hbase
  obtain ⟨a', c', rfl⟩ := own_shape h2
  refine ⟨a', _, c', w', hr, ?_, h3⟩
  unfold Ow
  rw [List.length_append, pcs_append]
  exact h2
theorem step_append_prs {w w' : World} {o : Oper} {a : Act} {K : Act → World → Prop} {Q : Exit → Act → World → Prop} (s x : Operand)
    (ho : o.op = .call { callee := .builtin .append, args := #[s, x], argTypes := #[23, 23] }) (v src v' : Value) (hs : a.eval s = v) (hx : a.eval x = src)
    (hr : (Builtin.append_ #[23, 23] o.type #[v, src]).run Try.prog w = .ok v' w') (h : K (a.put o.dst v') w') : Oper.wp Try.prog o a w K Q := by
  unfold Oper.wp execOp
  simp only [ho, resolve, invoke, builtin, Sem.run_bind, Sem.run_pure, Result.andThen_ok, List.map_toArray, List.map_cons, List.map_nil, hs, hx, hr]
  exact h
theorem wpList_append_prs {w : World} {ops : Array Oper} {rest : List Oper} {o : Oper} {a : Act} {Q : Exit → Act → World → Prop} (hgd : o.guard = none) (s x : Operand)
    (ho : o.op = .call { callee := .builtin .append, args := #[s, x], argTypes := #[23, 23] }) (B : Nat) (v : Value) (l : List PB) (hs : a.eval s = v) (hown : Ow w B v l)
    (S : Nat → Prop) (ad : Option Addr) (n c : Nat) (l2 : List PB) (hx : a.eval x = .slice ad n c) (hsrc : Pr w S (.slice ad n c) l2) (hl : l.length + n ≤ 2097152) (hbase : B ≤ w.heap.size)
    (h : ∀ a' n' c' w', Ow w' B (.slice a' n' c') (l ++ l2) → w.grownBy w' v.ownBlock → wpList Try.prog ops Q rest (a.put o.dst (.slice a' n' c')) w') : wpList Try.prog ops Q (o :: rest) a w := by
  refine wpList_plain hgd fun K hK => ?_
  obtain ⟨a', n', c', w', hr, h2, h3⟩ := run_append_prs (w := w) o.type B v l hown S ad n c l2 hsrc hl hbase
  refine step_append_prs s x ho v _ _ hs hx hr ?_
  exact hK _ _ (h a' n' c' w' h2 h3)
end Go.Proofs.Ytjbamfgfgbmieaa
/-
  RunAsk of the specification: get.
-/
namespace Go.Proofs.Ytjbamfgfgbmieaa
open Go.RowKit
set_option maxHeartbeats 8000000 in
set_option maxRecDepth 20000 in
theorem specRunAsk_1 (S : Nat → Prop) (a : Option Addr) (n c : Nat) (l : List PB) (ky vl lo hi : ByteArray) (mo : Int) (w : World) (h : Pr w S (.slice a n c) l) (hs : n ≤ 1048576) (hd : daOk l = true) (hk : akOk 1 ky vl lo hi mo false = true) :
    Calls Try.prog 8 #[.slice a n c, .agg #[.int .i64 1, .string ky, .string vl, .string lo, .string hi, .int .i64 mo, .bool false]] w fun e w' => RsPost true (raD l 1 ky vl) (raT l 1 ky lo hi mo false) w e w' := by
  have hb := below_new (o := .cells #[.int .i64 1, .string ky, .string vl, .string lo, .string hi, .int .i64 mo, .bool false] 27) (w := w) (Below.refl _ _)
  have HBU := hid hb
  have K0 := hid (Bk.new w 27 [.int .i64 1, .string ky, .string vl, .string lo, .string hi, .int .i64 mo, .bool false])
  have P0 := hid (h.below' hb)
  have HN := hid (Rw.len h).1
  have HD := hid hd
  have HK := hid hk
  clear hb h hd hk
  have k0 := K0.out.cell (j := 0) rfl
  have k1 := K0.out.cell (j := 1) rfl
  have k2 := K0.out.cell (j := 2) rfl
  have k3 := K0.out.cell (j := 3) rfl
  have k4 := K0.out.cell (j := 4) rfl
  have k5 := K0.out.cell (j := 5) rfl
  have k6 := K0.out.cell (j := 6) rfl
  go_enter Try.func8, Try.ntmps8
  go_wp2_with fail
  refine (specDataOk_at S a n c l _ P0.out (by omega)).mono ?_
  have HUZ : Hid ((w.alloc (.cells #[.int .i64 1, .string ky, .string vl, .string lo, .string hi, .int .i64 mo, .bool false] 27)).heap.size = w.heap.size + 1) := by show _ = _; simp
  generalize hU : w.alloc (.cells #[.int .i64 1, .string ky, .string vl, .string lo, .string hi, .int .i64 mo, .bool false] 27) = U at *
  clear hU
  rintro e w1 ⟨rfl, hb⟩
  have HB1 := hid hb
  clear hb k0 k1 k2 k3 k4 k5 k6
  rw [HD.out]
  have k0 := (K0.out.below HB1.out).cell (j := 0) rfl
  have k1 := (K0.out.below HB1.out).cell (j := 1) rfl
  have k2 := (K0.out.below HB1.out).cell (j := 2) rfl
  have k3 := (K0.out.below HB1.out).cell (j := 3) rfl
  have k4 := (K0.out.below HB1.out).cell (j := 4) rfl
  have k5 := (K0.out.below HB1.out).cell (j := 5) rfl
  have k6 := (K0.out.below HB1.out).cell (j := 6) rfl
  go_wp2_with fail
  refine (specAskOk_any 1 ky vl lo hi mo false _).mono ?_
  rintro e w2 ⟨rfl, hb⟩
  have HB2 := hid (HB1.out.trans (hb.mono HB1.out.size))
  clear hb HB1 k0 k1 k2 k3 k4 k5 k6
  rw [HK.out]
  have k0 := (K0.out.below HB2.out).cell (j := 0) rfl
  have k1 := (K0.out.below HB2.out).cell (j := 1) rfl
  have k2 := (K0.out.below HB2.out).cell (j := 2) rfl
  have k3 := (K0.out.below HB2.out).cell (j := 3) rfl
  have k4 := (K0.out.below HB2.out).cell (j := 4) rfl
  have k5 := (K0.out.below HB2.out).cell (j := 5) rfl
  have k6 := (K0.out.below HB2.out).cell (j := 6) rfl
  have HDD : Hid (raD l 1 ky vl = l) := rfl
  have HT : Hid (raT l 1 ky lo hi mo false = (keyF (l.take n) ky)) := by show _ = _; rw [HN.out, List.take_length]; rfl
  have hbn := below_new (o := .cells #[] 34) (w := w2) (Below.refl _ _)
  have HO3 := hid (ow_new w2 w2.heap.size (Nat.le_refl _))
  have HBV := hid hbn
  clear hbn
  go_wp2_with fail
  go_loopw [7, 8, 9, 41] (fun x z y i wr => ∃ (j : Nat) (av : Option Addr) (nv cv : Nat), j ≤ n ∧ i = .int .i64 j ∧ x = .slice av nv cv ∧ Hid (nv = (keyF (l.take j) ky).length) ∧ Hid (Ow wr w2.heap.size (.slice av nv cv) (keyF (l.take j) ky)) ∧ Hid (Below w2.heap.size w2 wr)) (fun _ _ _ i _ => n - (intOf i).toNat)
  case atStart => exact ⟨0, _, 0, 0, Nat.zero_le _, rfl, rfl, by show _ = _; simp [keyF], by show Ow _ _ _ _; simpa [keyF] using HO3.out, HBV.out⟩
  case round =>
    obtain ⟨j, av, nv, cv, hj, rfl, rfl, HNV, HO, HBW⟩ := hrel
    clear HO3 HBV k0 k1 k2 k3 k4 k5 k6
    have HB := hid (HB2.out.trans (HBW.out.mono HB2.out.size))
    by_cases hlt : j < n
    · have hlt' : (j : Int) < (n : Int) := by omega
      have hj0 : (0 : Int) ≤ (j : Int) := by omega
      have HLE : Hid ((keyF (l.take j) ky).length ≤ 1048576) := by show _ ≤ _; have h1 := keyF_len l ky j; have h2 := HN.out; omega
      have PJ := hid (P0.out.below' HB.out)
      obtain ⟨b, off, rfl, _, hbw, hcell⟩ := PJ.out.at (by omega)
      obtain ⟨d0, d1⟩ := hcell j hlt
      have hcv := (Rw.len (HO.out.pr (S := fun _ => True) (fun _ _ _ _ => trivial))).2
      have HPJ : Hid (pAtB (dirL false l) j = pAtB l j) := rfl
      have HSD := hid (fun kk vv hp => keyF_step l ky kk vv j (by rw [← HN.out]; exact hlt) hp)
      clear hcell hbw PJ HPJ
      generalize hcur : pAtB l j = cur at *
      obtain ⟨kk, vv⟩ := cur
      have HSD2 := hid (HSD.out kk vv rfl)
      clear HSD hcur
      simp only at d0 d1
      have hbp := below_new (o := .cells #[.string kk, .string vv] 34) (w := wr) (Below.refl _ _)
      have KP := hid (Bk.new wr 34 [.string kk, .string vv])
      have HOP := hid (HO.out.kept hbp)
      have HBP := hid (HBW.out.trans (hbp.mono HBW.out.size))
      have HB4 := hid (HB2.out.trans (HBP.out.mono HB2.out.size))
      clear hbp
      have k0 := (K0.out.below HB4.out).cell (j := 0) rfl
      have k1 := (K0.out.below HB4.out).cell (j := 1) rfl
      have k2 := (K0.out.below HB4.out).cell (j := 2) rfl
      have k3 := (K0.out.below HB4.out).cell (j := 3) rfl
      have k4 := (K0.out.below HB4.out).cell (j := 4) rfl
      have k5 := (K0.out.below HB4.out).cell (j := 5) rfl
      have k6 := (K0.out.below HB4.out).cell (j := 6) rfl
      have q0 := KP.out.cell (j := 0) rfl
      have q1 := KP.out.cell (j := 1) rfl
      by_cases hc : kk = ky
      · have HC := hid hc
        have hc' := hc.symm
        subst hc'
        clear hc
        have hb := below_new (o := .cells #[.string ky, .string vv] 34) (w := (wr.alloc (.cells #[.string ky, .string vv] 34))) (Below.refl _ _)
        have KS : Hid (Bk ((wr.alloc (.cells #[.string ky, .string vv] 34)).alloc (.cells #[.string ky, .string vv] 34)) (wr.heap.size + 1) 34 [.string ky, .string vv]) := by have := Bk.new (wr.alloc (.cells #[.string ky, .string vv] 34)) 34 [.string ky, .string vv]; show Bk _ _ _ _; simpa using this
        have HOa := hid (HOP.out.kept hb)
        have HBa := hid (HBP.out.trans (hb.mono HBP.out.size))
        clear hb
        have HSF : Hid ((keyF (l.take (j + 1)) ky) = (keyF (l.take j) ky) ++ [(ky, vv)]) := by show _ = _; rw [HSD2.out, if_pos HC.out]
        clear HSD2 HC
        go_wp2_with (at_builtin; refine wpList_append_pair1 rfl _ _ rfl w2.heap.size _ (keyF (l.take j) ky) rfl HOa.out (wr.heap.size + 1) ky vv rfl KS.out ?q1 ?q2 ?_)
        case q1 => exact HLE.out
        case q2 => first | exact HBa.out.size | (have h := HBa.out.size; simp at h; omega)
        intro a7 n7 c7 w7 hO hg hown
        have HO7 : Hid (Ow w7 w2.heap.size (.slice a7 n7 c7) ((keyF (l.take j) ky) ++ [(ky, vv)])) := hO
        have HB7 : Hid (Below w2.heap.size w2 w7) := HBa.out.trans (grown_belowB HOa.out hg HBa.out.size)
        obtain ⟨_, _, _, hsh, hn7⟩ := hO.shape'
        cases hsh
        have HN7 := hid hn7.out
        clear hO hg hown hn7 HOa HBa KS k0 k1 k2 k3 k4 k5 k6 q0 q1
        rw [← HSF.out] at HO7 HN7
        generalize hg9 : (keyF (l.take (j + 1)) ky) = Z at *
        have HG9 := hid hg9
        clear hg9
        go_wp2
        go_roundw
        case rel => exact ⟨j + 1, a7, n7, c7, by omega, by go_num, rfl, by rw [HG9.out]; exact HN7.out, by rw [HG9.out]; exact HO7.out, HB7.out⟩
        case measure => simp [intOf]; omega
      · have HC := hid hc
        have t := str_beq hc
        clear hc
        have HSF : Hid ((keyF (l.take (j + 1)) ky) = (keyF (l.take j) ky)) := by show _ = _; rw [HSD2.out, if_neg HC.out]
        clear HSD2 HC
        go_wp2
        go_roundw
        case rel => exact ⟨j + 1, av, nv, cv, by omega, by go_num, rfl, by rw [HSF.out]; exact HNV.out, by rw [HSF.out]; exact HOP.out, HBP.out⟩
        case measure => simp [intOf]; omega
    · have hlt' : ¬ (j : Int) < (n : Int) := by omega
      obtain rfl : j = n := by omega
      have hb := below_new (o := .cells #[] 34) (w := wr) (Below.refl _ _)
      have HSE : Hid (∀ q, (Value.slice av nv cv).ownBlock = some q → q < wr.heap.size) := fun q hq => (World.ownsRow.lt HO.out q hq).2
      have HN1 := hid (ow_new wr w2.heap.size HBW.out.size)
      have HO1 := hid (HO.out.kept hb)
      have HBa := hid (HBW.out.trans (hb.mono HBW.out.size))
      have PA := hid (P0.out.below' (HB2.out.trans (HBa.out.mono HB2.out.size)))
      have hcv := (Rw.len (HO.out.pr (S := fun _ => True) (fun _ _ _ _ => trivial))).2
      clear hb HO HBW HB
      go_wp2_with (at_builtin; refine wpList_append_prs rfl _ _ rfl w2.heap.size _ [] rfl HN1.out S a j c l rfl PA.out (by simp; omega) ?q2 ?_)
      case q2 => first | exact HBa.out.size | (have h := HBa.out.size; simp at h; omega)
      intro a7 n7 c7 w7 hO hg
      have HO7 : Hid (Ow w7 w2.heap.size (.slice a7 n7 c7) l) := by show Ow _ _ _ _; first | exact hO | simpa using hO
      have HB7 : Hid (Below w2.heap.size w2 w7) := HBa.out.trans (grown_belowB HN1.out hg HBa.out.size)
      have HT7 : Hid (Ow w7 w2.heap.size (.slice av nv cv) (keyF (l.take j) ky)) := HO1.out.to (only_of_grown hg (R := fun y => y = wr.heap.size) (fun q hq => by cases hq; rfl)) (fun q hq e => by have := HSE.out q hq; omega)
      clear hO hg HN1 HO1 HBa PA
      go_wp2
      go_ret3
      rw [HT.out, HDD.out]
      exact ⟨_, _, _, _, _, _, rfl, ow_mono HO7.out (Nat.le_trans HBU.out.size HB2.out.size), ow_mono HT7.out (Nat.le_trans HBU.out.size HB2.out.size), HBU.out.trans ((HB2.out.trans (HB7.out.mono HB2.out.size)).mono HBU.out.size)⟩
end Go.Proofs.Ytjbamfgfgbmieaa
