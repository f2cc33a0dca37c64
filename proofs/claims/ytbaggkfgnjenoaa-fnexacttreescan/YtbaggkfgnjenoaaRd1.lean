/-
  slices.Clone of pairs; readLeaf.
-/
import Derived.Test.YtbaggkfgnjenoaaAl
namespace Go.Proofs.Ytbaggkfgnjenoaa
open Go.RowKit

theorem ow_new (w : World) (B : Nat) (hB : B ≤ w.heap.size) : Ow (w.alloc (.cells #[] 69)) B (.slice (some ⟨w.heap.size, 0, none⟩) 0 0) [] :=
  ⟨rfl, .inr ⟨w.heap.size, 0, #[], rfl, hB, heap_alloc_new w _, Nat.le_refl _, by decide, rfl, rfl⟩⟩
theorem own_mono {w : World} {base base' : Nat} {e : TypeId} {size : Nat} {v : Value} {n : Nat} {xs : List Value} (h : w.ownsRow base e size v n xs) (hb : base' ≤ base) : w.ownsRow base' e size v n xs := by
  refine ⟨h.1, ?_⟩
  rcases h.2 with h2 | ⟨g, cap, cur, h3, h4, h5⟩
  · exact .inl h2
  · exact .inr ⟨g, cap, cur, h3, Nat.le_trans hb h4, h5⟩
set_option maxRecDepth 100000 in
set_option maxHeartbeats 2000000 in
theorem cloneP_any (S : Nat → Prop) (v : Value) (l : List PB) (w : World) (h : Pr w S v l) (hl : l.length ≤ 1048576) :
    Calls Try.prog 161 #[v] w fun e w' => ∃ v', e = .returned v' ∧ Ow w' w.heap.size v' l ∧ Below w.heap.size w w' := by
  have H0 := hid h
  obtain ⟨a, c, hv, hn, hc⟩ := h.shape
  subst hv
  cases a with
  | none =>
    have hl0 : l.length = 0 := by
      rcases Nat.eq_zero_or_pos l.length with e | e
      · exact e
      · obtain ⟨b, off, e1, _⟩ := h.at e
        cases e1
    obtain rfl := List.eq_nil_of_length_eq_zero hl0
    clear h hl0
    have he : ∀ w : World, (binOp .eql 66 (.slice none 0 c) (.slice none 0 0)).run Try.prog w = .ok (.bool true) w := fun _ => rfl
    go_enter Try.func161, Try.ntmps161
    go_wp2
    go_ret
    exact ⟨_, rfl, ow_nil _ _, Below.refl _ _⟩
  | some x =>
    clear h
    generalize hnn : l.length = n at *
    have HN := hid hnn
    clear hnn
    have he : ∀ w : World, (binOp .eql 66 (.slice (some x) n c) (.slice none 0 0)).run Try.prog w = .ok (.bool false) w := fun _ => rfl
    have HO := hid (ow_new w w.heap.size (Nat.le_refl _))
    have HB := hid (below_new (o := .cells #[] 69) (w := w) (Below.refl _ _))
    go_enter Try.func161, Try.ntmps161
    go_wp2_with (at_builtin; refine wpList_append_pairs rfl _ _ rfl w.heap.size _ [] rfl HO.out S _ l rfl (H0.out.below HB.out) ?b1 ?b2 ?_)
    case b1 => have := HN.out; simp; omega
    case b2 => simp
    intro v1 w1 hO1 hg1
    have HB1 := hid (HB.out.trans (grown_belowB HO.out hg1 (by simp)))
    have HO1 : Hid (Ow w1 w.heap.size v1 l) := hO1
    obtain ⟨a1, n1, cc1, hv1, HN1⟩ := hO1.shape'
    clear hO1 hg1
    subst hv1
    go_wp2
    go_ret
    exact ⟨_, rfl, HO1.out, HB1.out⟩
/-- A leaf of one's own. -/
theorem limb_leaf {w : World} {b : Nat} {pv : Value} {ps : List PB} {lo : Nat} (hB : Bk w b 173 [pv, .slice none 0 0]) (hb : lo ≤ b) (hP : Ow w lo pv ps) (hne : pv.ownBlock ≠ some b) (S : Nat → Prop) (hS : ∀ x, lo ≤ x → x < w.heap.size → S x) : Limb w S b (.mk ps []) := by
  refine .mk S b pv _ ps [] (fun _ => 0) (fun _ _ => False) (hS b hb hB.lt) hB (own_mono hP (Nat.zero_le _)) (World.ownsRow_nil w 0 _ _) (fun x hx => ⟨?_, ?_⟩) (fun x hx => by cases hx) (fun i hi => by simp at hi) (fun i j hi => by simp at hi) (fun i hi => by simp at hi)
  · have := World.ownsRow.lt hP x hx
    exact hS x this.1 this.2
  · rintro rfl
    exact hne hx
/-- What comes of reading: a new limb that is the tree, or nil. -/
def LimbOr (o : Option T) (w : World) (e : Ending) (w' : World) : Prop := match o with
  | none => e = .returned (.pointer none)
  | some t => ∃ b, e = .returned (.pointer (some ⟨b, 0, none⟩)) ∧ Limb w' (fun y => w.heap.size ≤ y ∧ y < w'.heap.size) b t
def leafT (x : NB) (root : Bool) : Option T := if leafOk x root = true then some (.mk x.ps []) else none
set_option maxHeartbeats 4000000 in
theorem readLeaf_any (S : Nat → Prop) (ap ax ai : Option Addr) (np cp nx cx ni ci : Nat) (x : NB) (root : Bool) (w : World) (hP : Pr w S (.slice ap np cp) x.ps) (hS : Sr w S (.slice ax nx cx) x.keys) :
    Calls Try.prog 150 #[.agg #[.slice ap np cp, .slice ax nx cx, .slice ai ni ci], .bool root] w fun e w' =>
      LimbOr (leafT x root) w e w' ∧ Below w.heap.size w w' := by
  have HP := hid hP
  have HNP := hid (Rw.len hP).1
  have HNX := hid (Rw.len hS).1
  have h1 := (Rw.len hP).2.1
  have h2 := (Rw.len hP).2.2
  have h3 := (Rw.len hS).2.1
  have h4 := (Rw.len hS).2.2
  clear hP hS
  have HB0 := hid (below_new (o := .cells #[.slice ap np cp, .slice ax nx cx, .slice ai ni ci] 135) (w := w) (Below.refl _ _))
  have KP := hid (Bk.new w 135 [.slice ap np cp, .slice ax nx cx, .slice ai ni ci])
  have LF : ∀ (np nx : Nat) (r : Bool), np = x.ps.length → nx = x.keys.length → leafOk x r = !(decide (np = 0) || decide (4 < np) || (decide (np < 2) && !r) || !decide (nx = 0)) := by
    rintro _ _ r rfl rfl; rfl
  have LF := hid (LF np nx root HNP.out HNX.out)
  by_cases a1 : np = 0
  · have HF : Hid (leafOk x root = false) := by show _ = _; rw [LF.out]; simp [a1]
    clear HP HNP LF
    subst a1
    go_enter Try.func150, Try.ntmps150
    go_wp2
    go_ret
    exact ⟨by rw [leafT, if_neg (by rw [HF.out]; decide)]; rfl, HB0.out⟩
  · have e0 : ((np : Int) == 0) = false := by simp; omega
    by_cases a2 : 4 < np
    · have e1 : (4 : Int) < (np : Int) := by omega
      have e2 : ¬ (np : Int) < 2 := by omega
      have HF : Hid (leafOk x root = false) := by show _ = _; rw [LF.out]; simp [a2]
      clear LF
      go_enter Try.func150, Try.ntmps150
      go_wp2
      go_ret
      exact ⟨by rw [leafT, if_neg (by rw [HF.out]; decide)]; rfl, HB0.out⟩
    · have e1 : ¬ (4 : Int) < (np : Int) := by omega
      by_cases a3 : np < 2
      · have e2 : (np : Int) < 2 := by omega
        cases root
        · have HF : Hid (leafOk x false = false) := by show _ = _; rw [LF.out]; simp [a3]
          clear LF
          go_enter Try.func150, Try.ntmps150
          go_wp2
          go_ret
          exact ⟨by rw [leafT, if_neg (by rw [HF.out]; decide)]; rfl, HB0.out⟩
        · by_cases a4 : nx = 0
          · have HF : Hid (leafOk x true = true) := by show _ = _; rw [LF.out]; simp [a1, a2, a4]
            have e4 : ((nx : Int) != 0) = false := by simp; omega
            clear LF a4
            have c0 := KP.out.cell (j := 0) rfl
            go_enter Try.func150, Try.ntmps150
            go_wp2_with fail
            refine (cloneP_any S (.slice ap np cp) x.ps _ (HP.out.below HB0.out) (by rw [← HNP.out]; omega)).mono ?_
            rintro e w1 ⟨v1, rfl, hO1, hb1⟩
            obtain ⟨a1, n1, cc1, hv1, HN1⟩ := hO1.shape'
            subst hv1
            have HO1 := hid hO1
            have HB1 := hid (HB0.out.trans (hb1.mono HB0.out.size))
            have HSZ : Hid (w.heap.size < w1.heap.size) := by have := hb1.size; simp at this; exact this
            clear hO1 hb1 c0
            go_wp2
            go_ret
            refine ⟨?_, HB1.out.alloc HB1.out.size _⟩
            rw [leafT, if_pos HF.out]
            refine ⟨_, rfl, ?_⟩
            refine limb_leaf (lo := w.heap.size) (Bk.new w1 173 [.slice a1 n1 cc1, .slice none 0 0]) (Nat.le_of_lt HSZ.out) (own_mono (HO1.out.kept (below_new (Below.refl _ _))) (by simp)) ?_ _ (fun y h1 h2 => ⟨h1, h2⟩)
            intro e
            have := (World.ownsRow.lt HO1.out _ e).2
            omega
          · have HF : Hid (leafOk x true = false) := by show _ = _; rw [LF.out]; simp [a4]
            have e4 : ((nx : Int) != 0) = true := by simp; omega
            clear LF a4
            go_enter Try.func150, Try.ntmps150
            go_wp2
            go_ret
            exact ⟨by rw [leafT, if_neg (by rw [HF.out]; decide)]; rfl, HB0.out⟩
      · have e2 : ¬ (np : Int) < 2 := by omega
        by_cases a4 : nx = 0
        · have HF : Hid (leafOk x root = true) := by show _ = _; rw [LF.out]; simp [a1, a2, a3, a4]
          have e4 : ((nx : Int) != 0) = false := by simp; omega
          clear LF a4
          have c0 := KP.out.cell (j := 0) rfl
          go_enter Try.func150, Try.ntmps150
          go_wp2_with fail
          refine (cloneP_any S (.slice ap np cp) x.ps _ (HP.out.below HB0.out) (by rw [← HNP.out]; omega)).mono ?_
          rintro e w1 ⟨v1, rfl, hO1, hb1⟩
          obtain ⟨a1, n1, cc1, hv1, HN1⟩ := hO1.shape'
          subst hv1
          have HO1 := hid hO1
          have HB1 := hid (HB0.out.trans (hb1.mono HB0.out.size))
          have HSZ : Hid (w.heap.size < w1.heap.size) := by have := hb1.size; simp at this; exact this
          clear hO1 hb1 c0
          go_wp2
          go_ret
          refine ⟨?_, HB1.out.alloc HB1.out.size _⟩
          rw [leafT, if_pos HF.out]
          refine ⟨_, rfl, ?_⟩
          refine limb_leaf (lo := w.heap.size) (Bk.new w1 173 [.slice a1 n1 cc1, .slice none 0 0]) (Nat.le_of_lt HSZ.out) (own_mono (HO1.out.kept (below_new (Below.refl _ _))) (by simp)) ?_ _ (fun y h1 h2 => ⟨h1, h2⟩)
          intro e
          have := (World.ownsRow.lt HO1.out _ e).2
          omega
        · have HF : Hid (leafOk x root = false) := by show _ = _; rw [LF.out]; simp [a4]
          have e4 : ((nx : Int) != 0) = true := by simp; omega
          clear LF a4
          go_enter Try.func150, Try.ntmps150
          go_wp2
          go_ret
          exact ⟨by rw [leafT, if_neg (by rw [HF.out]; decide)]; rfl, HB0.out⟩
end Go.Proofs.Ytbaggkfgnjenoaa

