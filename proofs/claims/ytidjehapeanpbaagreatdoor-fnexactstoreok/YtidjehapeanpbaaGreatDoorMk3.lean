/-
  The law's helper that looks for marks in a slice of pairs: it finds them all.
-/
import Derived.Test.YtidjehapeanpbaaGreatDoorMk2
import Derived.Test.YtidjehapeanpbaaGreatDoorMk1
import Derived.Maps.AppendAt
import Derived.Deep.RegionLaw
namespace Go.Proofs.YtidjehapeanpbaaGreatDoor
open Go.RowKit
def Lies (w : World) (a : Option Addr) (n m : Nat) (V : Nat → Value) : Prop := 0 < n → ∃ b off, a = some ⟨b, off, none⟩ ∧ b < w.heap.size ∧ ∀ j, j < m → w.cell? ⟨b, off + j, none⟩ = some (V j)
open Go.RowKit
set_option linter.unusedVariables false
open Go.RowKit
structure PO (w : World) (kv vv iv : Value) (p : PG) : Prop where
 hk : w.ownsRow 0 9 1 kv p.keys.length (p.keys.map Value.string)
 hv : w.ownsRow 0 9 1 vv p.vals.length (p.vals.map Value.string)
 hi : w.ownsRow 0 3 1 iv p.kids.length (p.kids.map (Value.int .i64))
 ap : ∀ y, (kv.ownBlock = some y → vv.ownBlock ≠ some y ∧ iv.ownBlock ≠ some y) ∧ (vv.ownBlock = some y → iv.ownBlock ≠ some y)
def pbl (kv vv iv : Value) (y : Nat) : Prop := kv.ownBlock = some y ∨ vv.ownBlock = some y ∨ iv.ownBlock = some y
theorem PO.to {w w' : World} {R : Nat → Prop} {kv vv iv : Value} {p : PG} (h : PO w kv vv iv p) (ho : Only R w w') (hR : ∀ y, pbl kv vv iv y → ¬ R y) : PO w' kv vv iv p :=
 ⟨own_kept h.hk ho (fun k e => hR k (.inl e)), own_kept h.hv ho (fun k e => hR k (.inr (.inl e))), own_kept h.hi ho (fun k e => hR k (.inr (.inr e))), h.ap⟩
theorem PO.below {w w' : World} {kv vv iv : Value} {p : PG} (h : PO w kv vv iv p) (hb : Below w.heap.size w w') : PO w' kv vv iv p := h.to (only_of_below hb (fun _ => False)) (fun _ _ h => h)
theorem PO.pgr {w : World} {ka va ia : Option Addr} {kn kc vn vc jn ic : Nat} {p : PG} (h : PO w (.slice ka kn kc) (.slice va vn vc) (.slice ia jn ic) p) {S : Nat → Prop} (hS : ∀ y, pbl (.slice ka kn kc) (.slice va vn vc) (.slice ia jn ic) y → S y) : Pgr w S ka kn kc va vn vc ia jn ic p :=
 ⟨rw_own h.hk (fun k e _ _ => hS k (.inl e)), rw_own h.hv (fun k e _ _ => hS k (.inr (.inl e))), rw_own h.hi (fun k e _ _ => hS k (.inr (.inr e)))⟩
structure PLie (w : World) (ka : Option Addr) (kn kc : Nat) (va : Option Addr) (vn vc : Nat) (ia : Option Addr) (jn ic : Nat) (k : Nat) : Prop where
 hk : Lies w ka kn kn (mV k)
 hv : Lies w va vn vn (mV (k + kn))
 hi : Lies w ia jn jn (mI (k + kn + vn))
 cap : kn ≤ kc ∧ vn ≤ vc ∧ jn ≤ ic
open Go.RowKit
theorem ow_new (w : World) (B : Nat) (hB : B ≤ w.heap.size) : Ow (w.alloc (.cells #[] 112)) B (.slice (some ⟨w.heap.size, 0, none⟩) 0 0) [] :=
 ⟨rfl, .inr ⟨w.heap.size, 0, #[], rfl, hB, heap_alloc_new w _, Nat.le_refl _, by decide, rfl, rfl⟩⟩
theorem own_mono {w : World} {base base' : Nat} {e : TypeId} {size : Nat} {v : Value} {n : Nat} {xs : List Value} (h : w.ownsRow base e size v n xs) (hb : base' ≤ base) : w.ownsRow base' e size v n xs := by
 refine ⟨h.1, ?_⟩
 rcases h.2 with h2 | ⟨g, cap, cur, h3, h4, h5⟩
 ·exact .inl h2
 ·exact .inr ⟨g, cap, cur, h3, Nat.le_trans hb h4, h5⟩
set_option maxRecDepth 100000 in
set_option maxHeartbeats 2000000 in
theorem cloneP_any (S : Nat → Prop) (v : Value) (l : List PB) (w : World) (h : Pr w S v l) (hl : l.length ≤ 1048576) :
  Calls Tryz.prog 183 #[v] w fun e w' => ∃ v', e = .returned v' ∧ Ow w' w.heap.size v' l ∧ Below w.heap.size w w' := by
 have H0 := hid h
 obtain ⟨a, c, hv, hn, hc⟩ := h.shape
 subst hv
 cases a with
 | none =>
  have hl0 : l.length = 0 := by
   rcases Nat.eq_zero_or_pos l.length with e | e
   ·exact e
   ·obtain ⟨b, off, e1, _⟩ := h.at e
    cases e1
  obtain rfl := List.eq_nil_of_length_eq_zero hl0
  clear h hl0
  have he : ∀ w : World, (binOp .eql 82 (.slice none 0 c) (.slice none 0 0)).run Tryz.prog w = .ok (.bool true) w := fun _ => rfl
  go_enter Tryz.func183, Tryz.ntmps183
  go_wp2
  go_ret
  exact ⟨_, rfl, ow_nil _ _, Below.refl _ _⟩
 | some x =>
  clear h
  generalize hnn : l.length = n at *
  have HN := hid hnn
  clear hnn
  have he : ∀ w : World, (binOp .eql 82 (.slice (some x) n c) (.slice none 0 0)).run Tryz.prog w = .ok (.bool false) w := fun _ => rfl
  have HO := hid (ow_new w w.heap.size (Nat.le_refl _))
  have HB := hid (below_new (o := .cells #[] 112) (w := w) (Below.refl _ _))
  go_enter Tryz.func183, Tryz.ntmps183
  go_wp2_with (at_builtin; refine wpList_append_pairs rfl _ _ rfl w.heap.size _ [] rfl HO.out S _ l rfl (H0.out.below HB.out) ?b1 ?b2 ?_)
  case b1 => have := HN.out; simp; omega
  case b2 => simp
  intro v1 w1 hO1 hg1
  have HB1 := hid (HB.out.trans (grown_belowB HO.out hg1 (by simp)))
  have HO1 : Hid (Ow w1 w.heap.size v1 l) := hO1
  obtain ⟨a1, n1, cc1, hv1, HN1⟩ := hO1.shape'
  clear hO1 hg1
  subst hv1
  go_wp2
  go_ret
  exact ⟨_, rfl, HO1.out, HB1.out⟩
theorem limb_leaf {w : World} {b : Nat} {pv : Value} {ps : List PB} {lo : Nat} (hB : Bk w b 195 [pv, .slice none 0 0]) (hb : lo ≤ b) (hP : Ow w lo pv ps) (hne : pv.ownBlock ≠ some b) (S : Nat → Prop) (hS : ∀ x, lo ≤ x → x < w.heap.size → S x) : Limb w S b (.mk ps []) := by
 refine .mk S b pv _ ps [] (fun _ => 0) (fun _ _ => False) (hS b hb hB.lt) hB (own_mono hP (Nat.zero_le _)) (World.ownsRow_nil w 0 _ _) (fun x hx => ⟨?_, ?_⟩) (fun x hx => by cases hx) (fun i hi => by simp at hi) (fun i j hi => by simp at hi) (fun i hi => by simp at hi)
 ·have := World.ownsRow.lt hP x hx
  exact hS x this.1 this.2
 ·rintro rfl
  exact hne hx
def LimbOr (o : Option T) (w : World) (e : Ending) (w' : World) : Prop := match o with
 | none => e = .returned (.pointer none)
 | some t => ∃ b, e = .returned (.pointer (some ⟨b, 0, none⟩)) ∧ Limb w' (fun y => w.heap.size ≤ y ∧ y < w'.heap.size) b t
def leafT (x : NB) (root : Bool) : Option T := if leafOk x root = true then some (.mk x.ps []) else none
set_option maxHeartbeats 4000000 in
theorem readLeaf_any (S : Nat → Prop) (ap ax ai : Option Addr) (np cp nx cx ni ci : Nat) (x : NB) (root : Bool) (w : World) (hP : Pr w S (.slice ap np cp) x.ps) (hS : Sr w S (.slice ax nx cx) x.keys) :
  Calls Tryz.prog 170 #[.agg #[.slice ap np cp, .slice ax nx cx, .slice ai ni ci], .bool root] w fun e w' =>
   LimbOr (leafT x root) w e w' ∧ Below w.heap.size w w' := by
 have HP := hid hP
 have HNP := hid (Rw.len hP).1
 have HNX := hid (Rw.len hS).1
 have h1 := (Rw.len hP).2.1
 have h2 := (Rw.len hP).2.2
 have h3 := (Rw.len hS).2.1
 have h4 := (Rw.len hS).2.2
 clear hP hS
 have HB0 := hid (below_new (o := .cells #[.slice ap np cp, .slice ax nx cx, .slice ai ni ci] 85) (w := w) (Below.refl _ _))
 have KP := hid (Bk.new w 85 [.slice ap np cp, .slice ax nx cx, .slice ai ni ci])
 have LF : ∀ (np nx : Nat) (r : Bool), np = x.ps.length → nx = x.keys.length → leafOk x r = !(decide (np = 0) || decide (4 < np) || (decide (np < 2) && !r) || !decide (nx = 0)) := by
  rintro _ _ r rfl rfl; rfl
 have LF := hid (LF np nx root HNP.out HNX.out)
 by_cases a1 : np = 0
 ·have HF : Hid (leafOk x root = false) := by show _ = _; rw [LF.out]; simp [a1]
  clear HP HNP LF
  subst a1
  go_enter Tryz.func170, Tryz.ntmps170
  go_wp2
  go_ret
  exact ⟨by rw [leafT, if_neg (by rw [HF.out]; decide)]; rfl, HB0.out⟩
 ·have e0 : ((np : Int) == 0) = false := by simp; omega
  by_cases a2 : 4 < np
  ·have e1 : (4 : Int) < (np : Int) := by omega
   have e2 : ¬ (np : Int) < 2 := by omega
   have HF : Hid (leafOk x root = false) := by show _ = _; rw [LF.out]; simp [a2]
   clear LF
   go_enter Tryz.func170, Tryz.ntmps170
   go_wp2
   go_ret
   exact ⟨by rw [leafT, if_neg (by rw [HF.out]; decide)]; rfl, HB0.out⟩
  ·have e1 : ¬ (4 : Int) < (np : Int) := by omega
   by_cases a3 : np < 2
   ·have e2 : (np : Int) < 2 := by omega
    cases root
    ·have HF : Hid (leafOk x false = false) := by show _ = _; rw [LF.out]; simp [a3]
     clear LF
     go_enter Tryz.func170, Tryz.ntmps170
     go_wp2
     go_ret
     exact ⟨by rw [leafT, if_neg (by rw [HF.out]; decide)]; rfl, HB0.out⟩
    ·by_cases a4 : nx = 0
     ·have HF : Hid (leafOk x true = true) := by show _ = _; rw [LF.out]; simp [a1, a2, a4]
      have e4 : ((nx : Int) != 0) = false := by simp; omega
      clear LF a4
      have c0 := KP.out.cell (j := 0) rfl
      go_enter Tryz.func170, Tryz.ntmps170
      go_wp2_with fail
      refine (cloneP_any S (.slice ap np cp) x.ps _ (HP.out.below HB0.out) (by rw [← HNP.out]; omega)).mono ?_
      rintro e w1 ⟨v1, rfl, hO1, hb1⟩
      obtain ⟨a1, n1, cc1, hv1, HN1⟩ := hO1.shape'
      subst hv1
      have HO1 := hid hO1
      have HB1 := hid (HB0.out.trans (hb1.mono HB0.out.size))
      have HSZ : Hid (w.heap.size < w1.heap.size) := by have := hb1.size; simp at this; exact this
      clear hO1 hb1 c0
      go_wp2
      go_ret
      refine ⟨?_, HB1.out.alloc HB1.out.size _⟩
      rw [leafT, if_pos HF.out]
      refine ⟨_, rfl, ?_⟩
      refine limb_leaf (lo := w.heap.size) (Bk.new w1 195 [.slice a1 n1 cc1, .slice none 0 0]) (Nat.le_of_lt HSZ.out) (own_mono (HO1.out.kept (below_new (Below.refl _ _))) (by simp)) ?_ _ (fun y h1 h2 => ⟨h1, h2⟩)
      intro e
      have := (World.ownsRow.lt HO1.out _ e).2
      omega
     ·have HF : Hid (leafOk x true = false) := by show _ = _; rw [LF.out]; simp [a4]
      have e4 : ((nx : Int) != 0) = true := by simp; omega
      clear LF a4
      go_enter Tryz.func170, Tryz.ntmps170
      go_wp2
      go_ret
      exact ⟨by rw [leafT, if_neg (by rw [HF.out]; decide)]; rfl, HB0.out⟩
   ·have e2 : ¬ (np : Int) < 2 := by omega
    by_cases a4 : nx = 0
    ·have HF : Hid (leafOk x root = true) := by show _ = _; rw [LF.out]; simp [a1, a2, a3, a4]
     have e4 : ((nx : Int) != 0) = false := by simp; omega
     clear LF a4
     have c0 := KP.out.cell (j := 0) rfl
     go_enter Tryz.func170, Tryz.ntmps170
     go_wp2_with fail
     refine (cloneP_any S (.slice ap np cp) x.ps _ (HP.out.below HB0.out) (by rw [← HNP.out]; omega)).mono ?_
     rintro e w1 ⟨v1, rfl, hO1, hb1⟩
     obtain ⟨a1, n1, cc1, hv1, HN1⟩ := hO1.shape'
     subst hv1
     have HO1 := hid hO1
     have HB1 := hid (HB0.out.trans (hb1.mono HB0.out.size))
     have HSZ : Hid (w.heap.size < w1.heap.size) := by have := hb1.size; simp at this; exact this
     clear hO1 hb1 c0
     go_wp2
     go_ret
     refine ⟨?_, HB1.out.alloc HB1.out.size _⟩
     rw [leafT, if_pos HF.out]
     refine ⟨_, rfl, ?_⟩
     refine limb_leaf (lo := w.heap.size) (Bk.new w1 195 [.slice a1 n1 cc1, .slice none 0 0]) (Nat.le_of_lt HSZ.out) (own_mono (HO1.out.kept (below_new (Below.refl _ _))) (by simp)) ?_ _ (fun y h1 h2 => ⟨h1, h2⟩)
     intro e
     have := (World.ownsRow.lt HO1.out _ e).2
     omega
    ·have HF : Hid (leafOk x root = false) := by show _ = _; rw [LF.out]; simp [a4]
     have e4 : ((nx : Int) != 0) = true := by simp; omega
     clear LF a4
     go_enter Tryz.func170, Tryz.ntmps170
     go_wp2
     go_ret
     exact ⟨by rw [leafT, if_neg (by rw [HF.out]; decide)]; rfl, HB0.out⟩
open Go.RowKit
def mkV (L : Nat → Bool) (P K : Nat → Value) (n : Nat) : List V3 := (List.range n).map fun i => (.bool (L i), P i, K i)
theorem mkV_length (L : Nat → Bool) (P K : Nat → Value) (n : Nat) : (mkV L P K n).length = n := by simp [mkV]
theorem mkV_at (L : Nat → Bool) (P K : Nat → Value) (n i : Nat) (h : i < n) : vAt (mkV L P K n) i = (.bool (L i), P i, K i) := by simp [mkV, vAt, h]
inductive Sub (w : World) (S : Nat → Prop) : Bool → Value → Value → T → Prop
 | mk (lf : Bool) (pv kv : Value) (ps : List PB) (ks : List T) (L : Nat → Bool) (P K : Nat → Value) (hlf : lf = decide (ks.length = 0)) (hP : Pr w S pv ps)
   (hK : Rw w S kv ks.length (ncs (mkV L P K ks.length))) (hk : ∀ i, i < ks.length → Sub w S (L i) (P i) (K i) (tAt ks i)) : Sub w S lf pv kv (.mk ps ks)
theorem Sub.to {w w' : World} {S R : Nat → Prop} (ho : Only R w w') (hR : ∀ x, S x → x < w.heap.size → ¬ R x) {lf : Bool} {pv kv : Value} {t : T} (h : Sub w S lf pv kv t) : Sub w' S lf pv kv t := by
 induction h with
 | mk lf pv kv ps ks L P K hlf hP hK hk ih => exact .mk lf pv kv ps ks L P K hlf (hP.to ho hR) (hK.to ho hR) ih
theorem Sub.mono {w : World} {S R : Nat → Prop} (hR : ∀ x, S x → x < w.heap.size → R x) {lf : Bool} {pv kv : Value} {t : T} (h : Sub w S lf pv kv t) : Sub w R lf pv kv t := by
 induction h with
 | mk lf pv kv ps ks L P K hlf hP hK hk ih => exact .mk lf pv kv ps ks L P K hlf (Rw.mono hP hR) (hK.mono hR) ih
theorem Sub.kept {w w' : World} {S : Nat → Prop} {lf : Bool} {pv kv : Value} {t : T} (h : Sub w S lf pv kv t) (hb : Below w.heap.size w w') : Sub w' S lf pv kv t := h.to (only_of_below hb (fun _ => False)) (fun _ _ _ h => h)
theorem Sub.shape {w : World} {S : Nat → Prop} {lf : Bool} {pv kv : Value} {t : T} (h : Sub w S lf pv kv t) : ∃ ap np cp ak nk ck, pv = .slice ap np cp ∧ kv = .slice ak nk ck ∧ Hid (np = t.ps.length) ∧ Hid (nk = t.ks.length) ∧ np ≤ 9223372036854775807 ∧ nk ≤ 9223372036854775807 ∧ lf = decide (nk = 0) ∧ Pr w S (.slice ap np cp) t.ps := by
 cases h with
 | mk lf pv kv ps ks L P K hlf hP hK hk =>
  obtain ⟨ap, cp, rfl, h1, h2⟩ := hP.shape
  obtain ⟨ak, ck, rfl, h3, h4⟩ := hK.shape
  exact ⟨ap, _, cp, ak, _, ck, rfl, rfl, rfl, rfl, by omega, by omega, hlf, hP⟩
theorem Sub.kids {w : World} {S : Nat → Prop} {lf : Bool} {pv : Value} {ak : Option Addr} {nk ck : Nat} {t : T} (h : Sub w S lf pv (.slice ak nk ck) t) (hp : 0 < nk) : ∃ g off, ak = some ⟨g, off, none⟩ ∧ S g ∧ g < w.heap.size ∧ ∀ i, i < nk → ∃ l ap np cp ak' nk' ck',
  w.cell? ⟨g, off + i * 3, none⟩ = some (.bool l) ∧ w.cell? ⟨g, off + i * 3 + 1, none⟩ = some (.slice ap np cp) ∧ w.cell? ⟨g, off + i * 3 + 2, none⟩ = some (.slice ak' nk' ck') ∧ Sub w S l (.slice ap np cp) (.slice ak' nk' ck') (tAt t.ks i) := by
 cases h with
 | mk lf pv kv ps ks L P K hlf hP hK hk =>
  have hn := (Rw.len hK).1
  obtain ⟨g, off, h1, h2, h3, h4⟩ := hK.at hp
  refine ⟨g, off, h1, h2, h3, fun i hi => ?_⟩
  have hik : i < ks.length := by omega
  obtain ⟨c0, c1, c2⟩ := ncs_at (mkV L P K ks.length) i (by rw [mkV_length]; exact hik)
  rw [mkV_at _ _ _ _ _ hik] at c0 c1 c2
  have d0 := h4 _ _ c0
  have d1 := h4 _ _ c1
  have d2 := h4 _ _ c2
  have hs := hk i hik
  obtain ⟨ap, np, cp, ak', nk', ck', e1, e2, _⟩ := hs.shape
  simp only at d1 d2
  rw [e1] at d1 hs
  rw [e2] at d2 hs
  exact ⟨L i, ap, np, cp, ak', nk', ck', d0, d1, d2, hs⟩
theorem infoSub : (Tryz.prog.info? 115).map (fun i => (i.zero, i.size, i.bytes)) = some (some (.agg #[.bool false, .slice none 0 0, .slice none 0 0]), 3, 56) := by kernel_rfl
set_option maxHeartbeats 2000000 in
theorem specLeast_any (t : T) : ∀ (S : Nat → Prop) (lf : Bool) (ap ak : Option Addr) (np cp nk ck : Nat) (w : World), Sub w S lf (.slice ap np cp) (.slice ak nk ck) t →
  Calls Tryz.prog 110 #[.agg #[.bool lf, .slice ap np cp, .slice ak nk ck]] w fun e w' => e = .returned (.string t.least) ∧ Below w.heap.size w w' := by
 induction t using T.ind
 rename_i ps ks ih
 intro S lf ap ak np cp nk ck w h
 obtain ⟨ap', np', cp', ak', nk', ck', e1, e2, HNP, HNK, b1, b2, hlf, hP⟩ := h.shape
 cases e1
 cases e2
 have H0 := hid h
 have HP := hid hP
 have HIH := hid ih
 clear h ih hP
 have HB0 := hid (below_new (o := .cells #[.bool lf, .slice ap np cp, .slice ak nk ck] 115) (w := w) (Below.refl _ _))
 by_cases hk : nk = 0
 ·have hlf' : lf = true := by rw [hlf, hk]; rfl
  have hks : ks = [] := List.eq_nil_of_length_eq_zero (by have := HNK.out; simp only [T.ks] at this; omega)
  clear H0 hlf
  subst hlf' hks hk
  by_cases hp : np = 0
  ·have HE : Hid ((T.mk ps []).least = ⟨#[]⟩) := by
    have : ps = [] := List.eq_nil_of_length_eq_zero (by have := HNP.out; simp only [T.ps] at this; omega)
    subst this; rfl
   clear HP
   subst hp
   go_enter Tryz.func110, Tryz.ntmps110
   go_wp2
   go_ret
   exact ⟨by rw [HE.out]; rfl, HB0.out⟩
  ·obtain ⟨b, off, hap, _, hbw, hcell⟩ := HP.out.at (by omega)
   subst hap
   have hc := (hcell 0 (by omega)).1
   have HE : Hid ((T.mk ps []).least = (pAtB ps 0).1) := by
    show (ps.head?.map (·.1)).getD ⟨#[]⟩ = _
    cases ps <;> rfl
   simp only [T.ps, Nat.zero_mul, Nat.add_zero] at hc
   generalize (pAtB ps 0).1 = k0 at *
   have hp' : (0 : Int) < (np : Int) := by omega
   clear hcell
   go_enter Tryz.func110, Tryz.ntmps110
   go_wp2
   go_ret
   exact ⟨by rw [HE.out]; rfl, HB0.out⟩
 ·have hlf' : lf = false := by rw [hlf]; simp [hk]
  subst hlf'
  have hk' : (0 : Int) < (nk : Int) := by omega
  obtain ⟨g, off, hak, _, hgw, hkid⟩ := (H0.out.kept HB0.out).kids (by omega)
  subst hak
  obtain ⟨l1, ap1, np1, cp1, ak1, nk1, ck1, c0, c1, c2, hs⟩ := hkid 0 (by omega)
  simp only [Nat.zero_mul, Nat.add_zero, T.ks] at c0 c1 c2 hs
  have HS := hid hs
  have hne : ks ≠ [] := by rintro rfl; have := HNK.out; simp [T.ks] at this; omega
  have HM : Hid (tAt ks 0 ∈ ks ∧ (T.mk ps ks).least = (tAt ks 0).least) := by
   cases ks with
   | nil => exact absurd rfl hne
   | cons k ks => exact ⟨by simp [tAt], rfl⟩
  clear hkid hs hne hlf hk
  go_enter Tryz.func110, Tryz.ntmps110
  go_wp2_with fail
  refine (HIH.out (tAt ks 0) HM.out.1 S l1 ap1 ak1 np1 cp1 nk1 ck1 _ HS.out).mono ?_
  rintro e w1 ⟨rfl, hb1⟩
  have HB1 := hid (HB0.out.trans (hb1.mono HB0.out.size))
  clear hb1
  go_wp2
  go_ret
  exact ⟨by rw [HM.out.2]; rfl, HB1.out⟩
open Go.RowKit
mutual
def T.ht : T → Nat | .mk _ ks => 1 + htL ks
def htL : List T → Nat | [] => 0 | k :: ks => max k.ht (htL ks)
end
theorem htL_mem (ks : List T) : ∀ k ∈ ks, k.ht ≤ htL ks := by
 induction ks with
 | nil => intro k h; cases h
 | cons x ks ih =>
  intro k h
  simp only [htL]
  rcases List.mem_cons.1 h with rfl | h
  ·omega
  ·have := ih k h; omega
theorem ev_ht : ∀ (h : Nat) (t : T), Ev h t → h ≤ t.ht
 | 0, _, e => e.elim
 | h + 1, .mk ps ks, e => by
  rcases e with ⟨_, rfl⟩ | ⟨e1, e2⟩
  ·simp [T.ht]
  ·obtain ⟨k, hk⟩ := List.exists_mem_of_ne_nil ks e1
   have h1 := ev_ht h k (e2 k hk)
   have h2 := htL_mem ks k hk
   simp only [T.ht]
   omega
theorem dp_bound (t : T) : -1 ≤ t.dp ∧ t.dp ≤ t.ht := by
 have hlo : -1 ≤ t.dp := by
  obtain ⟨ps, ks⟩ := t
  by_cases hk : ks = []
  ·subst hk; simp [T.dp]
  ·have e : (T.mk ps ks).dp = dpL true 0 ks := by simp [T.dp, hk]
   rw [e]
   rcases dpL_neg_or ks true 0 with h | ⟨h, _⟩
   ·omega
   ·obtain ⟨k, hk'⟩ := List.exists_mem_of_ne_nil ks hk
    have := h k hk'
    omega
 refine ⟨hlo, ?_⟩
 by_cases h0 : 0 ≤ t.dp
 ·have := ev_ht _ t (dp_ev t h0)
  omega
 ·omega
theorem tAt_mem {ks : List T} {k : Nat} (h : k < ks.length) : tAt ks k ∈ ks := by
 simp only [tAt, List.getElem?_eq_getElem h, Option.getD_some]
 exact List.getElem_mem h
theorem drop_tAt {ks : List T} {k : Nat} (h : k < ks.length) : ks.drop k = tAt ks k :: ks.drop (k + 1) := by
 rw [List.drop_eq_getElem_cons h]
 simp [tAt, h]
set_option maxHeartbeats 4000000 in
theorem specDeep_any (t : T) : ∀ (S : Nat → Prop) (lf : Bool) (ap ak : Option Addr) (np cp nk ck : Nat) (w : World), Sub w S lf (.slice ap np cp) (.slice ak nk ck) t → t.ht ≤ 1048576 →
  Calls Tryz.prog 67 #[.agg #[.bool lf, .slice ap np cp, .slice ak nk ck]] w fun e w' => e = .returned (.int .i64 t.dp) ∧ Below w.heap.size w w' := by
 induction t using T.ind
 rename_i ps ks ih
 intro S lf ap ak np cp nk ck w h hht
 obtain ⟨ap', np', cp', ak', nk', ck', e1, e2, HNP, HNK, b1, b2, hlf, hP⟩ := h.shape
 cases e1
 cases e2
 have H0 := hid h
 have HIH := hid ih
 have HHT := hid hht
 clear h ih hP hht
 have HB0 := hid (below_new (o := .cells #[.bool lf, .slice ap np cp, .slice ak nk ck] 115) (w := w) (Below.refl _ _))
 have KP := hid (Bk.new w 115 [.bool lf, .slice ap np cp, .slice ak nk ck])
 simp only [T.ks] at HNK
 by_cases hk : nk = 0
 ·have hlf' : lf = true := by rw [hlf, hk]; rfl
  have hks : ks = [] := List.eq_nil_of_length_eq_zero (by have := HNK.out; omega)
  have HE : Hid ((T.mk ps ks).dp = 1) := by show _ = _; subst hks; simp [T.dp]
  clear H0 hlf hks
  subst hlf' hk
  go_enter Tryz.func67, Tryz.ntmps67
  go_wp2
  go_ret
  exact ⟨by rw [HE.out]; rfl, HB0.out⟩
 ·have hlf' : lf = false := by rw [hlf]; simp [hk]
  subst hlf'
  have HE : Hid ((T.mk ps ks).dp = dpL true 0 ks) := by
   show _ = _
   have : ks ≠ [] := by rintro rfl; have := HNK.out; simp at this; omega
   simp [T.dp, this]
  clear hlf
  go_enter Tryz.func67, Tryz.ntmps67
  go_wp2_with fail
  go_loopw [3, 11] (fun d i wr => ∃ (k : Nat) (z : Int), k ≤ nk ∧ i = .int .i64 k ∧ d = .int .i64 z ∧ Hid (dpL (decide (k = 0)) z (ks.drop k) = dpL true 0 ks) ∧ Hid (Bk wr w.heap.size 115 [.bool false, .slice ap np cp, .slice ak nk ck]) ∧ Hid (Below w.heap.size w wr)) (fun _ i _ => nk - (intOf i).toNat)
  case atStart => exact ⟨0, 0, Nat.zero_le _, rfl, rfl, rfl, KP.out, HB0.out⟩
  case round =>
   obtain ⟨k, z, hkn, rfl, rfl, HD, HK, HB⟩ := hrel
   by_cases hlt : k < nk
   ·have hlt' : (k : Int) < (nk : Int) := by omega
    have hks : k < ks.length := by rw [← HNK.out]; exact hlt
    obtain ⟨g, off, hak, _, hgw, hkid⟩ := (H0.out.kept HB.out).kids (by omega)
    subst hak
    obtain ⟨l1, ap1, np1, cp1, ak1, nk1, ck1, c0, c1, c2, hs⟩ := hkid k hlt
    simp only [T.ks] at hs
    have HS := hid hs
    have p2 := HK.out.cell (j := 2) rfl
    clear hkid hs hgw
    have HHK : Hid ((tAt ks k).ht ≤ 1048576) := by
     show _ ≤ _
     have h1 := htL_mem ks _ (tAt_mem hks)
     have h2 := HHT.out
     simp only [T.ht] at h2
     omega
    have HDD : Hid (dpL (decide (k = 0)) z (ks.drop k) = if (tAt ks k).dp < 0 ∨ (decide (k = 0) = false ∧ (tAt ks k).dp + 1 ≠ z) then -1 else dpL false ((tAt ks k).dp + 1) (ks.drop (k + 1))) := by
     show _ = _
     rw [drop_tAt hks, dpL]
    go_wp2_with fail
    refine (HIH.out (tAt ks k) (tAt_mem hks) S l1 ap1 ak1 np1 cp1 nk1 ck1 wr HS.out HHK.out).mono ?_
    rintro e w1 ⟨rfl, hb1⟩
    have HB1 := hid (HB.out.trans (hb1.mono HB.out.size))
    have HK1 := hid (HK.out.below hb1)
    have hdb := dp_bound (tAt ks k)
    have hdb2 : (tAt ks k).dp ≤ 1048576 := by have := HHK.out; omega
    generalize (tAt ks k).dp = y at *
    clear hb1 HK HB c0 c1 c2 p2
    by_cases hy : y < 0
    ·have HR : Hid ((T.mk ps ks).dp = -1) := by show _ = _; rw [HE.out, ← HD.out, HDD.out, if_pos (.inl hy)]
     clear hdb
     go_wp2
     go_ret
     exact ⟨by rw [HR.out]; rfl, HB1.out⟩
    ·clear hdb
     cases k with
     | zero =>
      have HD2 : Hid (dpL (decide (0 + 1 = 0)) (y + 1) (ks.drop (0 + 1)) = dpL true 0 ks) := by
       show _ = _
       rw [← HD.out, HDD.out, if_neg]
       ·rfl
       ·rintro (h | ⟨h, _⟩)
        ·exact hy h
        ·simp at h
      go_wp2
      go_roundw
      case rel => exact ⟨0 + 1, y + 1, by omega, by go_num, by go_num, HD2.out, HK1.out, HB1.out⟩
      case measure => simp [intOf]; omega
     | succ k' =>
      have hk1 : (0 : Int) < (k' : Int) + 1 := by omega
      by_cases hyz : y + 1 = z
      ·have HD2 : Hid (dpL (decide (k' + 1 + 1 = 0)) (y + 1) (ks.drop (k' + 1 + 1)) = dpL true 0 ks) := by
        show _ = _
        rw [← HD.out, HDD.out, if_neg]
        ·rfl
        ·rintro (h | ⟨_, h⟩)
         ·exact hy h
         ·exact h hyz
       have hne : (y + 1 != z) = false := by simp [hyz]
       clear hyz
       go_wp2
       go_roundw
       case rel => exact ⟨k' + 1 + 1, y + 1, by omega, by go_num, by go_num, HD2.out, HK1.out, HB1.out⟩
       case measure => simp [intOf]; omega
      ·have HR : Hid ((T.mk ps ks).dp = -1) := by show _ = _; rw [HE.out, ← HD.out, HDD.out, if_pos (.inr ⟨by simp, hyz⟩)]
       have hne : (y + 1 != z) = true := by simp [hyz]
       clear hyz
       go_wp2
       go_ret
       exact ⟨by rw [HR.out]; rfl, HB1.out⟩
   ·have hk' : k = nk := by omega
    have HR : Hid ((T.mk ps ks).dp = z) := by
     show _ = _
     rw [HE.out, ← HD.out, hk', HNK.out, List.drop_length]
     rfl
    clear hk' HD
    go_wp2
    go_ret
    exact ⟨by rw [HR.out]; rfl, HB.out⟩
set_option maxHeartbeats 4000000 in
theorem specFull_any (t : T) : ∀ (S : Nat → Prop) (root lf : Bool) (ap ak : Option Addr) (np cp nk ck : Nat) (w : World), Sub w S lf (.slice ap np cp) (.slice ak nk ck) t →
  Calls Tryz.prog 66 #[.agg #[.bool lf, .slice ap np cp, .slice ak nk ck], .bool root] w fun e w' => e = .returned (.bool (t.full root)) ∧ Below w.heap.size w w' := by
 induction t using T.ind
 rename_i ps ks ih
 intro S root lf ap ak np cp nk ck w h
 obtain ⟨ap', np', cp', ak', nk', ck', e1, e2, HNP, HNK, b1, b2, hlf, hP⟩ := h.shape
 cases e1
 cases e2
 have H0 := hid h
 have HIH := hid ih
 clear h ih hP
 have HB0 := hid (below_new (o := .cells #[.bool lf, .slice ap np cp, .slice ak nk ck] 115) (w := w) (Below.refl _ _))
 have KP := hid (Bk.new w 115 [.bool lf, .slice ap np cp, .slice ak nk ck])
 simp only [T.ks, T.ps] at HNK HNP
 by_cases hk : nk = 0
 ·have hlf' : lf = true := by rw [hlf, hk]; rfl
  have hks : ks = [] := List.eq_nil_of_length_eq_zero (by have := HNK.out; omega)
  have HE : Hid ((T.mk ps ks).full root = (decide (np ≤ 4) && (decide (2 ≤ np) || root && decide (np = 1)))) := by show _ = _; rw [HNP.out]; subst hks; simp [T.full]
  clear H0 hlf hks
  subst hlf' hk
  by_cases a1 : np ≤ 4
  ·have e1 : (np : Int) ≤ 4 := by omega
   by_cases a2 : 2 ≤ np
   ·have e2 : (2 : Int) ≤ (np : Int) := by omega
    have HR : Hid ((T.mk ps ks).full root = true) := by show _ = _; rw [HE.out]; simp [a1, a2]
    go_enter Tryz.func66, Tryz.ntmps66
    go_wp2
    go_ret
    exact ⟨by rw [HR.out]; rfl, HB0.out⟩
   ·have e2 : ¬ (2 : Int) ≤ (np : Int) := by omega
    cases root
    ·have HR : Hid ((T.mk ps ks).full false = false) := by show _ = _; rw [HE.out]; simp [a2]
     go_enter Tryz.func66, Tryz.ntmps66
     go_wp2
     go_ret
     exact ⟨by rw [HR.out]; rfl, HB0.out⟩
    ·by_cases a3 : np = 1
     ·have e3 : ((np : Int) == 1) = true := by simp; omega
      have HR : Hid ((T.mk ps ks).full true = true) := by show _ = _; rw [HE.out]; simp [a3]
      clear a3
      go_enter Tryz.func66, Tryz.ntmps66
      go_wp2
      go_ret
      exact ⟨by rw [HR.out]; rfl, HB0.out⟩
     ·have e3 : ((np : Int) == 1) = false := by simp; omega
      have HR : Hid ((T.mk ps ks).full true = false) := by show _ = _; rw [HE.out]; simp [a2, a3]
      clear a3
      go_enter Tryz.func66, Tryz.ntmps66
      go_wp2
      go_ret
      exact ⟨by rw [HR.out]; rfl, HB0.out⟩
  ·have e1 : ¬ (np : Int) ≤ 4 := by omega
   have HR : Hid ((T.mk ps ks).full root = false) := by show _ = _; rw [HE.out]; simp [a1]
   go_enter Tryz.func66, Tryz.ntmps66
   go_wp2
   go_ret
   exact ⟨by rw [HR.out]; rfl, HB0.out⟩
 ·have hlf' : lf = false := by rw [hlf]; simp [hk]
  subst hlf'
  have HE : Hid ((T.mk ps ks).full root = (decide (2 ≤ nk) && decide (nk ≤ 4) && decide (np = 0) && fullL ks)) := by
   show _ = _
   have : ks ≠ [] := by rintro rfl; have := HNK.out; simp at this; omega
   rw [HNP.out, HNK.out]
   simp [T.full, this]
  clear hlf
  by_cases a1 : nk < 2
  ·have e1 : (nk : Int) < 2 := by omega
   have HR : Hid ((T.mk ps ks).full root = false) := by show _ = _; rw [HE.out]; simp; omega
   go_enter Tryz.func66, Tryz.ntmps66
   go_wp2
   go_ret
   exact ⟨by rw [HR.out]; rfl, HB0.out⟩
  ·have e1 : ¬ (nk : Int) < 2 := by omega
   by_cases a2 : 4 < nk
   ·have e2 : (4 : Int) < (nk : Int) := by omega
    have HR : Hid ((T.mk ps ks).full root = false) := by show _ = _; rw [HE.out]; simp; omega
    go_enter Tryz.func66, Tryz.ntmps66
    go_wp2
    go_ret
    exact ⟨by rw [HR.out]; rfl, HB0.out⟩
   ·have e2 : ¬ (4 : Int) < (nk : Int) := by omega
    by_cases a3 : 0 < np
    ·have e3 : (0 : Int) < (np : Int) := by omega
     have HR : Hid ((T.mk ps ks).full root = false) := by show _ = _; rw [HE.out]; simp; omega
     go_enter Tryz.func66, Tryz.ntmps66
     go_wp2
     go_ret
     exact ⟨by rw [HR.out]; rfl, HB0.out⟩
    ·have e3 : ¬ (0 : Int) < (np : Int) := by omega
     have HE2 : Hid ((T.mk ps ks).full root = fullL ks) := by show _ = _; rw [HE.out]; simp [show np = 0 by omega, show 2 ≤ nk by omega, show nk ≤ 4 by omega]
     go_enter Tryz.func66, Tryz.ntmps66
     go_wp2_with fail
     go_loopw [46] (fun i wr => ∃ (k : Nat), k ≤ nk ∧ i = .int .i64 k ∧ Hid (fullL (ks.drop k) = fullL ks) ∧ Hid (Bk wr w.heap.size 115 [.bool false, .slice ap np cp, .slice ak nk ck]) ∧ Hid (Below w.heap.size w wr)) (fun i _ => nk - (intOf i).toNat)
     case atStart => exact ⟨0, Nat.zero_le _, rfl, rfl, KP.out, HB0.out⟩
     case round =>
      obtain ⟨k, hkn, rfl, HD, HK, HB⟩ := hrel
      by_cases hlt : k < nk
      ·have hlt' : (k : Int) < (nk : Int) := by omega
       have hks : k < ks.length := by rw [← HNK.out]; exact hlt
       obtain ⟨g, off, hak, _, hgw, hkid⟩ := (H0.out.kept HB.out).kids (by omega)
       subst hak
       obtain ⟨l1, ap1, np1, cp1, ak1, nk1, ck1, c0, c1, c2, hs⟩ := hkid k hlt
       simp only [T.ks] at hs
       have HS := hid hs
       have p2 := HK.out.cell (j := 2) rfl
       clear hkid hs hgw
       have HDD : Hid (fullL (ks.drop k) = ((tAt ks k).full false && fullL (ks.drop (k + 1)))) := by
        show _ = _
        rw [drop_tAt hks, fullL]
       go_wp2_with fail
       refine (HIH.out (tAt ks k) (tAt_mem hks) S false l1 ap1 ak1 np1 cp1 nk1 ck1 wr HS.out).mono ?_
       rintro e w1 ⟨rfl, hb1⟩
       have HB1 := hid (HB.out.trans (hb1.mono HB.out.size))
       have HK1 := hid (HK.out.below hb1)
       clear hb1 HK HB c0 c1 c2 p2
       cases hy : (tAt ks k).full false
       ·have HR : Hid ((T.mk ps ks).full root = false) := by show _ = _; rw [HE2.out, ← HD.out, HDD.out, hy]; rfl
        clear hy
        go_wp2
        go_ret
        exact ⟨by rw [HR.out]; rfl, HB1.out⟩
       ·have HD2 : Hid (fullL (ks.drop (k + 1)) = fullL ks) := by show _ = _; rw [← HD.out, HDD.out, hy]; rfl
        clear hy
        go_wp2
        go_roundw
        case rel => exact ⟨k + 1, by omega, by go_num, HD2.out, HK1.out, HB1.out⟩
        case measure => simp [intOf]; omega
      ·have hk' : k = nk := by omega
       have HR : Hid ((T.mk ps ks).full root = true) := by
        show _ = _
        rw [HE2.out, ← HD.out, hk', HNK.out, List.drop_length]
        rfl
       clear hk' HD
       go_wp2
       go_ret
       exact ⟨by rw [HR.out]; rfl, HB.out⟩
set_option maxHeartbeats 4000000 in
theorem specPairs_any (t : T) : ∀ (S : Nat → Prop) (lf : Bool) (ap ak : Option Addr) (np cp nk ck : Nat) (w : World), Sub w S lf (.slice ap np cp) (.slice ak nk ck) t → t.all.length ≤ 1048576 →
  Calls Tryz.prog 69 #[.agg #[.bool lf, .slice ap np cp, .slice ak nk ck]] w fun e w' => ∃ v, e = .returned v ∧ Ow w' w.heap.size v t.all ∧ Below w.heap.size w w' := by
 induction t using T.ind
 rename_i ps ks ih
 intro S lf ap ak np cp nk ck w h hal
 obtain ⟨ap', np', cp', ak', nk', ck', e1, e2, HNP, HNK, b1, b2, hlf, hP⟩ := h.shape
 cases e1
 cases e2
 have H0 := hid h
 have HP := hid hP
 have HIH := hid ih
 have HAL : Hid (ps.length + (allL ks).length ≤ 1048576) := by show _ ≤ _; simpa [T.all] using hal
 clear h ih hP hal hlf
 have HB0 : Hid (Below w.heap.size w ((w.alloc (.cells #[.bool lf, .slice ap np cp, .slice ak nk ck] 115)).alloc (.cells #[] 112))) := below_new (below_new (Below.refl _ _))
 have KP := hid ((Bk.new w 115 [.bool lf, .slice ap np cp, .slice ak nk ck]).alloc (.cells #[] 112))
 have HO : Hid (Ow ((w.alloc (.cells #[.bool lf, .slice ap np cp, .slice ak nk ck] 115)).alloc (.cells #[] 112)) (w.heap.size + 1) (.slice (some ⟨w.heap.size + 1, 0, none⟩) 0 0) []) := by
  have := ow_new (w.alloc (.cells #[.bool lf, .slice ap np cp, .slice ak nk ck] 115)) (w.heap.size + 1) (by simp)
  show Ow _ _ _ _
  simpa using this
 simp only [T.ks, T.ps] at HNK HNP HP
 go_enter Tryz.func69, Tryz.ntmps69
 go_wp2_with (at_builtin; refine wpList_append_pairs rfl _ _ rfl (w.heap.size + 1) _ [] rfl HO.out S _ ps rfl (HP.out.below HB0.out) ?q1 ?q2 ?_)
 case q1 => have := HAL.out; simp; omega
 case q2 => simp
 intro v1 w1 hO1 hg1
 have HB1 : Hid (Below (w.heap.size + 1) ((w.alloc (.cells #[.bool lf, .slice ap np cp, .slice ak nk ck] 115)).alloc (.cells #[] 112)) w1) := grown_belowB HO.out hg1 (by simp)
 have HO1 := hid hO1
 have HBW := hid (HB0.out.trans (HB1.out.mono (by omega)))
 have KP1 : Hid (Bk w1 w.heap.size 115 [.bool lf, .slice ap np cp, .slice ak nk ck]) := KP.out.to (only_of_belowB HB1.out) (by omega)
 obtain ⟨a1, n1, cc1, hv1, HN1⟩ := hO1.shape'
 subst hv1
 have p2 := KP1.out.cell (j := 2) rfl
 clear hO1 hg1 HB1 HB0 KP HO
 go_wp2_with fail
 go_loopw [3, 12] (fun x i wr => ∃ (k : Nat) (v' : Value), k ≤ nk ∧ i = .int .i64 k ∧ x = v' ∧ Hid (Ow wr (w.heap.size + 1) v' (ps ++ allL (ks.take k))) ∧ Hid (Bk wr w.heap.size 115 [.bool lf, .slice ap np cp, .slice ak nk ck]) ∧ Hid (Below w.heap.size w wr)) (fun _ i _ => nk - (intOf i).toNat)
 case atStart => exact ⟨0, _, Nat.zero_le _, rfl, rfl, by show Ow _ _ _ _; simpa [allL] using HO1.out, KP1.out, HBW.out⟩
 case round =>
  obtain ⟨k, v', hkn, rfl, hv', HO2, HK, HB⟩ := hrel
  obtain ⟨a2, n2, cc2, hv2, HN2⟩ := HO2.out.shape'
  subst hv2
  subst hv'
  clear p2
  by_cases hlt : k < nk
  ·have hlt' : (k : Int) < (nk : Int) := by omega
   have hks : k < ks.length := by rw [← HNK.out]; exact hlt
   obtain ⟨g, off, hak, _, hgw, hkid⟩ := (H0.out.kept HB.out).kids (by omega)
   subst hak
   obtain ⟨l1, ap1, np1, cp1, ak1, nk1, ck1, c0, c1, c2, hs⟩ := hkid k hlt
   simp only [T.ks] at hs
   have HS := hid hs
   have p2 := HK.out.cell (j := 2) rfl
   clear hkid hs hgw
   have HTK : Hid (allL (ks.take (k + 1)) = allL (ks.take k) ++ (tAt ks k).all) := allL_take ks k hks
   have HLN : Hid ((ps ++ allL (ks.take k)).length + (tAt ks k).all.length ≤ 1048576) := by
    show _ ≤ _
    have h1 := allL_take_le ks (k + 1)
    have h2 := HAL.out
    rw [HTK.out] at h1
    simp only [List.length_append] at h1 ⊢
    omega
   go_wp2_with fail
   refine (HIH.out (tAt ks k) (tAt_mem hks) S l1 ap1 ak1 np1 cp1 nk1 ck1 wr HS.out (by have := HLN.out; omega)).mono ?_
   rintro e w2 ⟨v3, rfl, hO3, hb2⟩
   obtain ⟨a3, n3, cc3, hv3, HN3⟩ := hO3.shape'
   subst hv3
   have HO3 := hid hO3
   have HO4 := hid (HO2.out.kept hb2)
   have HK2 := hid (HK.out.below hb2)
   have HB2 := hid (HB.out.trans (hb2.mono HB.out.size))
   have HSZ : Hid (w.heap.size + 1 ≤ w2.heap.size) := HK2.out.lt
   clear hO3 hb2 HO2 HK HB c0 c1 c2 p2
   go_wp2_with (at_builtin; refine wpList_append_pairs rfl _ _ rfl (w.heap.size + 1) _ (ps ++ allL (ks.take k)) rfl HO4.out (fun _ => True) _ (tAt ks k).all rfl (HO3.out.pr (fun _ _ _ _ => trivial)) ?q1 ?q2 ?_)
   case q1 => have := HLN.out; omega
   case q2 => exact HSZ.out
   intro v5 w5 hO5 hg5
   have HB5 := grown_belowB HO4.out hg5 HSZ.out
   have HO5 : Hid (Ow w5 (w.heap.size + 1) v5 (ps ++ allL (ks.take (k + 1)))) := by
    show Ow _ _ _ _
    rw [HTK.out]
    simpa using hO5
   have HK5 : Hid (Bk w5 w.heap.size 115 [.bool lf, .slice ap np cp, .slice (some ⟨g, off, none⟩) nk ck]) := HK2.out.to (only_of_belowB HB5) (by omega)
   have HBB := hid (HB2.out.trans (HB5.mono (by omega)))
   obtain ⟨a5, n5, cc5, hv5, HN5⟩ := hO5.shape'
   subst hv5
   clear hO5 hg5 HB5 HO3 HO4 HK2 HB2
   go_wp2
   go_roundw
   case rel => exact ⟨k + 1, _, by omega, by go_num, rfl, HO5.out, HK5.out, HBB.out⟩
   case measure => simp [intOf]; omega
  ·have hk' : k = nk := by omega
   have HF : Hid (Ow wr w.heap.size (.slice a2 n2 cc2) (T.mk ps ks).all) := by
    show Ow _ _ _ _
    have e : (T.mk ps ks).all = ps ++ allL (ks.take k) := by rw [hk', HNK.out, List.take_length]; simp [T.all]
    rw [e]
    exact own_mono HO2.out (by omega)
   clear hk'
   go_wp2
   go_ret
   exact ⟨_, rfl, HF.out, HB.out⟩
open Go.RowKit
theorem infoPtrL : (Tryz.prog.info? 165).map (fun i => (i.zero, i.size, i.bytes)) = some (some (.pointer none), 1, 8) := by kernel_rfl
def Ok (w : World) (base : Nat) (v : Value) (n : Nat) (A : Nat → Nat) : Prop := w.ownsRow base 165 1 v n (ptrs A n)
theorem Ok.to {w w' : World} {R : Nat → Prop} {base n : Nat} {v : Value} {A : Nat → Nat} (h : Ok w base v n A) (ho : Only R w w') (hR : ∀ k, v.ownBlock = some k → ¬ R k) : Ok w' base v n A := own_kept h ho hR
theorem Ok.kept {w w' : World} {base n : Nat} {v : Value} {A : Nat → Nat} (h : Ok w base v n A) (hb : Below w.heap.size w w') : Ok w' base v n A := h.to (only_of_below hb (fun _ => False)) (fun _ _ h => h)
theorem Ok.shape {w : World} {base n : Nat} {v : Value} {A : Nat → Nat} (h : Ok w base v n A) : ∃ a c, v = .slice a n c := own_shape h
theorem ptrs_snoc (A : Nat → Nat) (n b : Nat) : ptrs A n ++ [ptr b] = ptrs (fun i => if i = n then b else A i) (n + 1) := by
 simp only [ptrs, List.range_succ, List.map_append, List.map_cons, List.map_nil, if_true]
 congr 1
 apply List.map_congr_left
 intro i hi
 rw [if_neg (by have := List.mem_range.1 hi; omega)]
theorem wpList_append_ptr {w : World} {ops : Array Oper} {rest : List Oper} {o : Oper} {a : Act} {Q : Exit → Act → World → Prop} (hgd : o.guard = none) (s x : Operand)
  (ho : o.op = .call { callee := .builtin .append, args := #[s, x], argTypes := #[193, 193] }) (base : Nat) (v : Value) (n : Nat) (A : Nat → Nat) (hs : a.eval s = v) (hown : Ok w base v n A)
  (g b : Nat) (hx : a.eval x = .slice (some ⟨g, 0, none⟩) 1 1) (hc : w.cell? ⟨g, 0, none⟩ = some (.pointer (some ⟨b, 0, none⟩))) (hb : n ≤ 1048576) (hbase : base ≤ w.heap.size)
  (h : ∀ v' w', Ok w' base v' (n + 1) (fun i => if i = n then b else A i) → w.grownBy w' v.ownBlock → (v'.ownBlock = v.ownBlock ∨ v'.ownBlock = some w.heap.size) → wpList Tryz.prog ops Q rest (a.put o.dst v') w') : wpList Tryz.prog ops Q (o :: rest) a w := by
 obtain ⟨i, hi, hz, hsz, hby⟩ := info_of infoPtrL
 refine wpList_append_row_at hgd s x 193 ho base 165 i _ 1 8 Tryz.underlying193 hi hz hsz hby rfl (by decide) v n (ptrs A n) hs hown (fun _ => True) _ 1 [ptr b] hx ?_ rfl (by intro u hu; simp at hu; subst hu; rfl) (by unfold maxLen; omega) (by omega) hbase ?_
 ·refine ⟨_, 1, rfl, Nat.le_refl _, by omega, fun h => by omega, fun h => (by cases h), fun _ => ⟨g, 0, rfl, block_lt hc, trivial, fun j u hu => ?_⟩⟩
  cases j with
  | zero => simp at hu; subst hu; simpa [ptr] using hc
  | succ j => simp at hu
 ·intro v' w' h1 h2 h3
  refine h v' w' ?_ h2 h3
  unfold Ok
  rw [← ptrs_snoc]
  exact h1
theorem tAt_snoc (ts : List T) (t : T) (i : Nat) (h : i < (ts ++ [t]).length) : tAt (ts ++ [t]) i = if i = ts.length then t else tAt ts i := by
 by_cases e : i = ts.length
 ·subst e; simp [tAt]
 ·simp at h
  rw [if_neg e]
  simp [tAt, List.getElem?_append_left (show i < ts.length by omega)]
theorem full_ne : ∀ (t : T) (r : Bool), t.full r = true → t.ne
 | .mk ps [], r, h => by
  have := full_lf h
  show ps ≠ []
  rintro rfl
  simp at this
 | .mk ps (k :: ks), r, h => by
  have := full_br h (by simp)
  exact full_ne k false (this.2.2.2 k (by simp))
structure Rdy (t : T) : Prop where
 ne : t.ne
 bare : t.bare = false
 few : t.ps.length + t.ks.length ≤ 1048576
 lv : t.lv ≤ 1048576
theorem full_few {t : T} {r : Bool} (h : t.full r = true) : t.ps.length + t.ks.length ≤ 8 ∧ t.bare = false := by
 obtain ⟨ps, ks⟩ := t
 by_cases hk : ks = []
 ·subst hk
  have := full_lf h
  simp [T.ps, T.ks, T.bare]
  refine ⟨by omega, ?_⟩
  rintro rfl
  simp at this
 ·have := full_br h hk
  simp only [T.ps, T.ks, T.bare, this.2.2.1, List.length_nil, decide_eq_false_iff_not]
  omega
theorem rdy_of {h : Nat} {t : T} {r : Bool} (e : Ev h t) (hu : t.full r = true) (hs : t.size ≤ 1048576) : Rdy t := by
 have h1 := full_few hu
 have h2 := ev_le_size e hu
 have h3 := ev_lv h t e
 exact ⟨full_ne t r hu, h1.2, by omega, by omega⟩
theorem pre_len {ns l : List NB} {a : Nat} (h : Pre ns a l) (hl : 0 < l.length) : a + l.length ≤ ns.length := by
 have := h (l.length - 1) (by omega)
 rw [List.getElem?_eq_getElem (by omega : l.length - 1 < l.length)] at this
 have := (List.getElem?_eq_some_iff.1 this).1
 omega
theorem rdI_rdy {ns : List NB} {f : Nat} {pl : Int} {nx n1 : Nat} {t : T} (h : rdI ns f pl nx = some (t, n1)) (hl : ns.length ≤ 1048576) : Rdy t ∧ n1 ≤ ns.length ∧ nx < n1 := by
 obtain ⟨_, h2, h3, ⟨e, h4⟩, h5, rfl⟩ := rdI_sound ns f pl nx t n1 h
 have h6 := pre_len h5 (by rw [lay_length]; exact T.size_pos t)
 rw [lay_length] at h6
 have := T.size_pos t
 exact ⟨rdy_of h4 h3 (by omega), by omega, by omega⟩
def ReadPost (o : Option (T × Nat)) (w : World) (wb : Nat) (nv : Value) (e : Ending) (w' : World) : Prop := match o with
 | none => e = .returned (.pointer none)
 | some (t, n1) => ∃ b, e = .returned (.pointer (some ⟨b, 0, none⟩)) ∧ Limb w' (fun y => w.heap.size ≤ y ∧ y < w'.heap.size) b t ∧ Bk w' wb 197 [nv, .int .i64 n1]
def ReadC (ns : List NB) (f : Nat) : Prop := ∀ (S : Nat → Prop) (wb : Nat) (an : Option Addr) (nn cn : Nat) (pl : Int) (nx : Nat) (w : World), Bk w wb 197 [.slice an nn cn, .int .i64 nx] → Nr w S (.slice an nn cn) ns → ¬ S wb → ns.length < 400 → nx ≤ ns.length → ns.length ≤ nx + f →
 Calls Tryz.prog 151 #[.pointer (some ⟨wb, 0, none⟩), .int .i64 pl] w fun e w' => ReadPost (rdI ns f pl nx) w wb (.slice an nn cn) e w' ∧ Only (fun b => b = wb) w w'
def brT (ns : List NB) (f : Nat) (x : NB) (nx : Nat) : Option (T × Nat) := if brOk x = true then (match rdIL (rdI ns f) x.keys [] x.kids nx with
 | none => none
 | some (ts, n) => some (.mk [] ts, n)) else none
open Go.RowKit
theorem load_sub {w : World} {g : Nat} {x y z : Value} (c0 : w.cell? ⟨g, 0, none⟩ = some x) (c1 : w.cell? ⟨g, 1, none⟩ = some y) (c2 : w.cell? ⟨g, 2, none⟩ = some z) :
  (loadVar 115 ⟨g, 0, none⟩).run Tryz.prog w = .ok (.agg #[x, y, z]) w := by go_simp
theorem results_sub3 {fn : Func} {p u v : Tmp} (h : fn.results = #[.cell p 115, .tmp u, .tmp v]) (tmps : Array Value) (w : World) (g : Nat) {x y z b d : Value} (hp : tmps.getD p undef = .pointer (some ⟨g, 0, none⟩)) (hb : tmps.getD u undef = b) (hd : tmps.getD v undef = d)
  (c0 : w.cell? ⟨g, 0, none⟩ = some x) (c1 : w.cell? ⟨g, 1, none⟩ = some y) (c2 : w.cell? ⟨g, 2, none⟩ = some z) : (results fn tmps).run Tryz.prog w = .ok (.tuple #[.agg #[x, y, z], b, d]) w := by
 have hp' : tmps[p]?.getD undef = .pointer (some ⟨g, 0, none⟩) := by simpa using hp
 have hb' : tmps[u]?.getD undef = b := by simpa using hb
 have hd' : tmps[v]?.getD undef = d := by simpa using hd
 simp [results, h, hp', hb', hd', asAddr, load_sub c0 c1 c2]
def SubPost (o : Option (T × Nat)) (w : World) (e : Ending) (w' : World) : Prop := match o with
 | none => e = .returned (.tuple #[.agg #[.bool false, .slice none 0 0, .slice none 0 0], .int .i64 0, .bool false])
 | some (t, n) => ∃ lf ap np cp ak nk ck, e = .returned (.tuple #[.agg #[.bool lf, .slice ap np cp, .slice ak nk ck], .int .i64 (n : Nat), .bool true]) ∧ Sub w' (fun y => w.heap.size ≤ y ∧ y < w'.heap.size) lf (.slice ap np cp) (.slice ak nk ck) t
theorem mkV_snoc (L : Nat → Bool) (P K : Nat → Value) (n : Nat) (l : Bool) (p k : Value) : mkV L P K n ++ [(.bool l, p, k)] = mkV (fun i => if i = n then l else L i) (fun i => if i = n then p else P i) (fun i => if i = n then k else K i) (n + 1) := by
 simp only [mkV, List.range_succ, List.map_append, List.map_cons, List.map_nil, if_true]
 congr 1
 apply List.map_congr_left
 intro i hi
 have : i ≠ n := by have := List.mem_range.1 hi; omega
 simp [this]
structure SpI (w wr : World) (sb bs : Nat) (lf : Bool) (nv pv : Value) (ps : List PB) (ts : List T) (kv : Value) (L : Nat → Bool) (P K : Nat → Value) : Prop where
 lo : w.heap.size + 3 ≤ sb ∧ sb < bs
 hi : bs ≤ wr.heap.size
 tre : Bk wr w.heap.size 33 [nv]
 res : Bk wr (w.heap.size + 1) 115 [.bool false, .slice none 0 0, .slice none 0 0]
 sub : Bk wr sb 115 [.bool lf, pv, kv]
 par : Pr wr (fun y => w.heap.size + 3 ≤ y ∧ y < bs ∧ y ≠ sb) pv ps
 row : wr.ownsRow bs 115 3 kv ts.length (ncs (mkV L P K ts.length))
 kid : ∀ i, i < ts.length → Sub wr (fun y => bs ≤ y ∧ y < wr.heap.size ∧ kv.ownBlock ≠ some y) (L i) (P i) (K i) (tAt ts i)
 bel : Below w.heap.size w wr
theorem SpI.keep {w wr w1 : World} {sb bs : Nat} {lf : Bool} {nv pv : Value} {ps : List PB} {ts : List T} {kv : Value} {L : Nat → Bool} {P K : Nat → Value} (h : SpI w wr sb bs lf nv pv ps ts kv L P K) (hb : Below wr.heap.size wr w1) : SpI w w1 sb bs lf nv pv ps ts kv L P K :=
 ⟨h.lo, Nat.le_trans h.hi hb.size, h.tre.below hb, h.res.below hb, h.sub.below hb, h.par.below hb, own_kept h.row (only_of_below hb (fun _ => False)) (fun _ _ h => h), fun i hi => ((h.kid i hi).kept hb).mono (fun _ hx _ => ⟨hx.1, Nat.lt_of_lt_of_le hx.2.1 hb.size, hx.2.2⟩), h.bel.trans (hb.mono h.bel.size)⟩
theorem SpI.push {w u w2 : World} {sb bs : Nat} {lf : Bool} {nv pv : Value} {ps : List PB} {ts : List T} {kv v' : Value} {L : Nat → Bool} {P K : Nat → Value} (h : SpI w u sb bs lf nv pv ps ts kv L P K)
  {l : Bool} {p k : Value} {t : T} (hl : Sub u (fun y => bs ≤ y ∧ y < u.heap.size ∧ kv.ownBlock ≠ some y) l p k t)
  (ho : w2.ownsRow bs 115 3 v' (ts.length + 1) (ncs (mkV L P K ts.length) ++ [.bool l, p, k])) (hg : u.grownBy w2 kv.ownBlock) (ha : v'.ownBlock = kv.ownBlock ∨ v'.ownBlock = some u.heap.size) :
  SpI w (w2.setCell ⟨sb, 2, none⟩ v') sb bs lf nv pv ps (ts ++ [t]) v' (fun i => if i = ts.length then l else L i) (fun i => if i = ts.length then p else P i) (fun i => if i = ts.length then k else K i) := by
 have hlo := h.lo
 have hkv := fun x e => (World.ownsRow.lt h.row x e).1
 have hsz : u.heap.size ≤ w2.heap.size := hg.size
 have hsb := h.sub.lt
 have hav : ∀ x, v'.ownBlock = some x → bs ≤ x := fun x e => (World.ownsRow.lt ho x e).1
 have o1 : Only (fun b => some b = kv.ownBlock) u w2 := only_of_grown hg (fun k e => e.symm)
 have o2 : Only (fun b => b = sb) w2 (w2.setCell ⟨sb, 2, none⟩ v') := only_set (R := fun b => b = sb) rfl _
 have o3 : Only (fun b => some b = kv.ownBlock ∨ b = sb) u (w2.setCell ⟨sb, 2, none⟩ v') := (o1.mono (fun _ _ e => .inl e)).then o2 (fun _ _ e => .inr e)
 have hz : (w2.setCell ⟨sb, 2, none⟩ v').heap.size = w2.heap.size := by simp [World.setCell]
 have hR : ∀ y, y < bs → y ≠ sb → ¬ (some y = kv.ownBlock ∨ y = sb) := by
  rintro y hy hne (e | e)
  ·have := hkv y e.symm; omega
  ·exact hne e
 have fin : ∀ {l : Bool} {p k : Value} {t : T}, Sub u (fun y => bs ≤ y ∧ y < u.heap.size ∧ kv.ownBlock ≠ some y) l p k t → Sub (w2.setCell ⟨sb, 2, none⟩ v') (fun y => bs ≤ y ∧ y < (w2.setCell ⟨sb, 2, none⟩ v').heap.size ∧ v'.ownBlock ≠ some y) l p k t := by
  intro l p k t hs
  refine (hs.to o3 (fun x hx _ => ?_)).mono (fun x hx _ => ⟨hx.1, by rw [hz]; omega, ?_⟩)
  ·rintro (e | e)
   ·exact hx.2.2 e.symm
   ·have := hx.1; omega
  ·rcases ha with ha | ha
   ·rw [ha]; exact hx.2.2
   ·rw [ha]; intro e; cases e; omega
 have hhi := h.hi
 refine ⟨h.lo, by rw [hz]; omega, h.tre.to o3 (hR _ (by omega) (by omega)), h.res.to o3 (hR _ (by omega) (by omega)), ?_, h.par.to o3 (fun y hy _ => hR y hy.2.1 hy.2.2), ?_, ?_, ?_⟩
 ·have k1 := h.sub.to o1 (fun e => by have := hkv sb e.symm; omega)
  exact k1.set 2 v'
 ·rw [List.length_append]
  have := own_kept ho o2 (fun x e => by have := hav x e; omega)
  rw [show [Value.bool l, p, k] = ncs [(.bool l, p, k)] from rfl, ← ncs_append, mkV_snoc] at this
  exact this
 ·intro i hi
  rw [tAt_snoc _ _ _ hi]
  by_cases e : i = ts.length
  ·subst e
   simp only [if_true]
   exact fin hl
  ·simp only [e, if_false]
   simp at hi
   exact fin (h.kid i (by omega))
 ·exact (h.bel.trans (o3.below (by have := h.bel.size; omega) (fun y hy => hR y (by omega) (by omega))))
theorem SpI.done {w wr : World} {sb bs : Nat} {lf : Bool} {nv pv : Value} {ps : List PB} {ts : List T} {kv : Value} {L : Nat → Bool} {P K : Nat → Value} (h : SpI w wr sb bs lf nv pv ps ts kv L P K) (hlf : lf = decide (ts.length = 0)) :
  Sub wr (fun y => (w.heap.size ≤ y ∧ y < wr.heap.size) ∧ y ≠ w.heap.size + 1) lf pv kv (.mk ps ts) := by
 have hlo := h.lo
 have hsb := h.sub.lt
 refine .mk lf pv kv ps ts L P K hlf (Rw.mono h.par (fun y hy hy2 => ⟨⟨by omega, hy2⟩, by omega⟩)) (rw_own h.row (fun y _ h1 h2 => ⟨⟨by omega, h2⟩, by omega⟩)) (fun i hi => (h.kid i hi).mono (fun y hy _ => ⟨⟨by omega, hy.2.1⟩, by omega⟩))
theorem ow_at {W : World} {g base : Nat} (hg : W.heap[g]? = some (.cells #[] 112 (0, 0))) (hb : base ≤ g) : Ow W base (.slice (some ⟨g, 0, none⟩) 0 0) [] :=
 ⟨rfl, .inr ⟨g, 0, #[], rfl, hb, hg, Nat.le_refl _, by decide, rfl, rfl⟩⟩
theorem kc2g {u v v' : World} {a0 a1 : Addr} {x0 x1 : Value} {row : Option Nat} (hg : v.grownBy v' row) (hr : ∀ k, row = some k → u.heap.size ≤ k) (h : v.cell? a0 = some x0 ∧ v.cell? a1 = some x1 ∧ KC u v [(a0, x0), (a1, x1)]) : v'.cell? a0 = some x0 ∧ v'.cell? a1 = some x1 ∧ KC u v' [(a0, x0), (a1, x1)] :=
 kc2 ⟨h.2.2.cells, h.2.2.bel.grown hg h.2.2.bel.size hr⟩
theorem kc2w {u v : World} {o o' : Obj} {a0 a1 : Addr} {x0 x1 : Value} (hs : u.heap.size ≤ v.heap.size) (h : (v.alloc o).cell? a0 = some x0 ∧ (v.alloc o).cell? a1 = some x1 ∧ KC u (v.alloc o) [(a0, x0), (a1, x1)]) : (v.alloc o').cell? a0 = some x0 ∧ (v.alloc o').cell? a1 = some x1 ∧ KC u (v.alloc o') [(a0, x0), (a1, x1)] := by
 obtain ⟨_, _, h1, h2⟩ := h
 refine kc2 ⟨h1, h2.os, h2.tape, h2.output, by simp; omega, fun k hk => ?_⟩
 rw [Below.heap_alloc _ _ _ (by omega), ← h2.block k hk, Below.heap_alloc _ _ _ (by omega)]
theorem kc2s {u v : World} {g i j k : Nat} {x y z : Value} {a0 a1 : Addr} {x0 x1 : Value} (hs : u.heap.size ≤ g) (h : v.cell? a0 = some x0 ∧ v.cell? a1 = some x1 ∧ KC u v [(a0, x0), (a1, x1)]) :
  (((v.setCell ⟨g, i, none⟩ x).setCell ⟨g, j, none⟩ y).setCell ⟨g, k, none⟩ z).cell? a0 = some x0 ∧ (((v.setCell ⟨g, i, none⟩ x).setCell ⟨g, j, none⟩ y).setCell ⟨g, k, none⟩ z).cell? a1 = some x1 ∧ KC u (((v.setCell ⟨g, i, none⟩ x).setCell ⟨g, j, none⟩ y).setCell ⟨g, k, none⟩ z) [(a0, x0), (a1, x1)] :=
 kc2 ⟨h.2.2.cells, ((h.2.2.bel.setCell hs _).setCell hs _).setCell hs _⟩
theorem step_clone {w : World} {ops : Array Oper} {o : Oper} {a : Act} {K : Act → World → Prop} {Q : Exit → Act → World → Prop} {E : Prop} (hgd : o.guard = none) (s x : Operand)
  (ho : o.op = .call { callee := .builtin .append, args := #[s, x], argTypes := #[82, 82] }) (base g : Nat) (hs : a.eval s = .slice (some ⟨g, 0, none⟩) 0 0) (hown : w.heap[g]? = some (.cells #[] 112 (0, 0))) (hbg : base ≤ g)
  (S : Nat → Prop) (src : Value) (m : List PB) (hx : a.eval x = src) (hsrc : Pr w S src m) (hb : m.length ≤ 2097154)
  (h : ∀ a' n' c' w', Ow w' base (.slice a' n' c') m → w.grownBy w' (some g) → ((Value.slice a' n' c').ownBlock = some g ∨ (Value.slice a' n' c').ownBlock = some w.heap.size) → (∀ b o, b < w.heap.size → b ≠ g → w'.cell? ⟨b, o, none⟩ = w.cell? ⟨b, o, none⟩) → (∀ b o, b < w.heap.size → b ≠ g → w'.frozen? ⟨b, o, none⟩ = w.frozen? ⟨b, o, none⟩) → K (a.put o.dst (.slice a' n' c')) w') :
  if Region.wanted o (yielded ops a.tmps) = true then Oper.wp Tryz.prog o a w K Q else E := by
 have hw : Region.wanted o (yielded ops a.tmps) = true := by simp [Region.wanted, hgd]
 rw [if_pos hw]
 have hO := ow_at hown hbg
 have hlt : g < w.heap.size := (Array.getElem?_eq_some_iff.1 hown).1
 obtain ⟨i, hi, hz, hsz, hby⟩ := info_of infoPairI
 obtain ⟨v', w', hr, h2, h3, h5⟩ := run_append_row_at (P := Tryz.prog) (w := w) base 82 o.type 112 i _ 2 32 Tryz.underlying82 hi hz hsz hby rfl (by decide) _ 0 [] hO S src m.length (pcs m) hsrc (pcs_length m) (pcs_one m) (by unfold maxLen; omega) (by omega) (by omega)
 have h4 : Ow w' base v' m := by
  unfold Ow
  simpa using h2
 obtain ⟨a', n', c', rfl, _⟩ := h4.shape'
 unfold Oper.wp execOp
 simp only [ho, resolve, invoke, builtin, Sem.run_bind, Sem.run_pure, Result.andThen_ok, List.map_toArray, List.map_cons, List.map_nil, hs, hx, hr]
 exact h a' n' c' w' h4 h3 h5 (fun b o hb hne => World.cell?_of_block (w := w) (h3.block b hb (fun e => hne (by cases e; rfl)))) (fun b o hb hne => World.frozen?_of_block (w := w) (h3.block b hb (fun e => hne (by cases e; rfl))))
theorem meet_set {U W w2 : World} {g sb : Nat} {lf : Bool} {a2 : Option Addr} {n2 c2 : Nat} {ps : List PB} (hb : Below U.heap.size U W) (hW : U.heap.size ≤ W.heap.size) (hO : Ow w2 U.heap.size (.slice a2 n2 c2) ps) (hg : W.grownBy w2 (some g)) (hat : (Value.slice a2 n2 c2).ownBlock = some g ∨ (Value.slice a2 n2 c2).ownBlock = some W.heap.size)
  (hs : W.heap[sb]? = some (.cells #[.bool false, .slice none 0 0, .slice none 0 0] 115 (0, 0))) (hne : sb ≠ g) (h1 : U.heap.size ≤ sb) (h2 : U.heap.size ≤ g) :
  Below U.heap.size U (((w2.setCell ⟨sb, 0, none⟩ (.bool lf)).setCell ⟨sb, 1, none⟩ (.slice a2 n2 c2)).setCell ⟨sb, 2, none⟩ (.slice none 0 0)) ∧ U.heap.size ≤ sb ∧ sb < w2.heap.size ∧ w2.heap.size ≤ (((w2.setCell ⟨sb, 0, none⟩ (.bool lf)).setCell ⟨sb, 1, none⟩ (.slice a2 n2 c2)).setCell ⟨sb, 2, none⟩ (.slice none 0 0)).heap.size ∧
   Bk (((w2.setCell ⟨sb, 0, none⟩ (.bool lf)).setCell ⟨sb, 1, none⟩ (.slice a2 n2 c2)).setCell ⟨sb, 2, none⟩ (.slice none 0 0)) sb 115 [.bool lf, .slice a2 n2 c2, .slice none 0 0] ∧
   Pr (((w2.setCell ⟨sb, 0, none⟩ (.bool lf)).setCell ⟨sb, 1, none⟩ (.slice a2 n2 c2)).setCell ⟨sb, 2, none⟩ (.slice none 0 0)) (fun y => U.heap.size ≤ y ∧ y < w2.heap.size ∧ y ≠ sb) (.slice a2 n2 c2) ps := by
 have hlt : sb < W.heap.size := (Array.getElem?_eq_some_iff.1 hs).1
 have hB : Bk w2 sb 115 [.bool false, .slice none 0 0, .slice none 0 0] := (hg.block sb hlt (fun e => hne (by cases e; rfl))).trans hs
 have hbel : Below U.heap.size U w2 := hb.grown hg hW (fun k e => by cases e; exact h2)
 have hpn : ∀ k, (Value.slice a2 n2 c2).ownBlock = some k → k ≠ sb := by
  rintro k hk rfl
  rcases hat with h | h
  ·rw [hk] at h; cases h; exact hne rfl
  ·rw [hk] at h; cases h; omega
 have o : Only (fun y => y = sb) w2 (((w2.setCell ⟨sb, 0, none⟩ (.bool lf)).setCell ⟨sb, 1, none⟩ (.slice a2 n2 c2)).setCell ⟨sb, 2, none⟩ (.slice none 0 0)) := ((only_set (R := fun y => y = sb) rfl _).trans (only_set (R := fun y => y = sb) rfl _)).trans (only_set (R := fun y => y = sb) rfl _)
 refine ⟨((hbel.setCell h1 _).setCell h1 _).setCell h1 _, h1, hB.lt, by simp [World.setCell], ((hB.set _ _).set _ _).set _ _, ?_⟩
 exact Rw.to (hO.pr (fun k hk h3 h4 => ⟨h3, h4, hpn k hk⟩)) o (fun y hy _ e => hy.2.2 e)
theorem meet_new {U W w2 : World} {g : Nat} {lf : Bool} {a2 : Option Addr} {n2 c2 : Nat} {ps : List PB} (hb : Below U.heap.size U W) (hW : U.heap.size ≤ W.heap.size) (hO : Ow w2 U.heap.size (.slice a2 n2 c2) ps) (hg : W.grownBy w2 (some g)) (h2 : U.heap.size ≤ g) :
  Below U.heap.size U (w2.alloc (.cells #[.bool lf, .slice a2 n2 c2, .slice none 0 0] 115)) ∧ U.heap.size ≤ w2.heap.size ∧ w2.heap.size < w2.heap.size + 1 ∧ w2.heap.size + 1 ≤ (w2.alloc (.cells #[.bool lf, .slice a2 n2 c2, .slice none 0 0] 115)).heap.size ∧
   Bk (w2.alloc (.cells #[.bool lf, .slice a2 n2 c2, .slice none 0 0] 115)) w2.heap.size 115 [.bool lf, .slice a2 n2 c2, .slice none 0 0] ∧
   Pr (w2.alloc (.cells #[.bool lf, .slice a2 n2 c2, .slice none 0 0] 115)) (fun y => U.heap.size ≤ y ∧ y < w2.heap.size + 1 ∧ y ≠ w2.heap.size) (.slice a2 n2 c2) ps := by
 have hbel : Below U.heap.size U w2 := hb.grown hg hW (fun k e => by cases e; exact h2)
 refine ⟨hbel.alloc hbel.size _, hbel.size, by omega, by simp, Bk.new w2 115 [.bool lf, .slice a2 n2 c2, .slice none 0 0], ?_⟩
 exact Rw.below (hO.pr (fun k _ h3 h4 => ⟨h3, by omega, by omega⟩)) (below_new (Below.refl _ _))
theorem wpList_append_sub {w : World} {ops : Array Oper} {rest : List Oper} {o : Oper} {a : Act} {Q : Exit → Act → World → Prop} (hgd : o.guard = none) (s x : Operand)
  (ho : o.op = .call { callee := .builtin .append, args := #[s, x], argTypes := #[113, 113] }) (base : Nat) (v : Value) (n : Nat) (V : List V3) (hs : a.eval s = v) (hown : w.ownsRow base 115 3 v n (ncs V))
  (g : Nat) (l : Bool) (ap : Option Addr) (np cp : Nat) (ak : Option Addr) (nk ck : Nat) (hx : a.eval x = .slice (some ⟨g, 0, none⟩) 1 1) (hB : Bk w g 115 [.bool l, .slice ap np cp, .slice ak nk ck]) (hb : n ≤ 1048576) (hbase : base ≤ w.heap.size)
  (h : ∀ v' w', w'.ownsRow base 115 3 v' (n + 1) (ncs V ++ [.bool l, .slice ap np cp, .slice ak nk ck]) → w.grownBy w' v.ownBlock → (v'.ownBlock = v.ownBlock ∨ v'.ownBlock = some w.heap.size) → wpList Tryz.prog ops Q rest (a.put o.dst v') w') : wpList Tryz.prog ops Q (o :: rest) a w := by
 obtain ⟨i, hi, hz, hsz, hby⟩ := info_of infoSub
 refine wpList_append_row_at hgd s x 113 ho base 115 i _ 3 56 Tryz.underlying113 hi hz hsz hby rfl (by decide) v n (ncs V) hs hown (fun _ => True) _ 1 [.bool l, .slice ap np cp, .slice ak nk ck] hx (hB.rw (Nat.le_refl _) (by omega) (fun h => by omega) _ trivial) rfl
  (by intro u hu; simp at hu; rcases hu with rfl | rfl | rfl <;> rfl) (by unfold maxLen; omega) (by omega) hbase h
theorem rdSL_cons (rd : Int → Option (T × Nat)) (k : Int) (kids : List Int) (nx : Nat) : rdSL rd (k :: kids) nx = if k ≠ (nx : Int) then none else match rd k with
  | none => none
  | some (t, n1) => match rdSL rd kids n1 with
   | none => none
   | some (ts, n2) => some (t :: ts, n2) := rfl
def rdJ (rd : Int → Option (T × Nat)) (ts : List T) (kids : List Int) (nx : Nat) : Option (List T × Nat) := match rdSL rd kids nx with
 | none => none
 | some (ts', n) => some (ts ++ ts', n)
theorem rdJ_nil (rd : Int → Option (T × Nat)) (kids : List Int) (nx : Nat) : rdJ rd [] kids nx = rdSL rd kids nx := by
 rw [rdJ]
 cases rdSL rd kids nx with
 | none => rfl
 | some x => obtain ⟨ts, n⟩ := x; rfl
theorem rdJ_no (rd : Int → Option (T × Nat)) (ts : List T) (k : Int) (kids : List Int) (nx : Nat) (h : k ≠ (nx : Int) ∨ rd k = none) : rdJ rd ts (k :: kids) nx = none := by
 rw [rdJ, rdSL_cons]
 by_cases e : k = (nx : Int)
 ·rw [if_neg (fun h => h e)]
  rcases h with h | h
  ·exact absurd e h
  ·rw [h]
 ·rw [if_pos e]
theorem rdJ_step (rd : Int → Option (T × Nat)) (ts : List T) (k : Int) (kids : List Int) (nx n1 : Nat) (t : T) (e : k = (nx : Int)) (h : rd k = some (t, n1)) : rdJ rd ts (k :: kids) nx = rdJ rd (ts ++ [t]) kids n1 := by
 rw [rdJ, rdSL_cons, if_neg (fun h => h e), h, rdJ]
 simp only
 cases rdSL rd kids n1 with
 | none => rfl
 | some x => obtain ⟨ts', n⟩ := x; simp
theorem rdJ_end (rd : Int → Option (T × Nat)) (ts : List T) (nx : Nat) : rdJ rd ts [] nx = some (ts, nx) := by simp [rdJ, rdSL]
open Go.RowKit
def OwN (w : World) (p : V3) (x : NB) : Prop := w.ownsRow 0 112 2 p.1 x.ps.length (pcs x.ps) ∧ w.ownsRow 0 9 1 p.2.1 x.keys.length (x.keys.map Value.string) ∧ w.ownsRow 0 3 1 p.2.2 x.kids.length (x.kids.map (Value.int .i64))
def bl (p : V3) (y : Nat) : Prop := p.1.ownBlock = some y ∨ p.2.1.ownBlock = some y ∨ p.2.2.ownBlock = some y
def ap3 (p : V3) : Prop := ∀ y, (p.1.ownBlock = some y → p.2.1.ownBlock ≠ some y ∧ p.2.2.ownBlock ≠ some y) ∧ (p.2.1.ownBlock = some y → p.2.2.ownBlock ≠ some y)
theorem OwN.to {w w' : World} {R : Nat → Prop} {p : V3} {x : NB} (h : OwN w p x) (ho : Only R w w') (hR : ∀ y, bl p y → ¬ R y) : OwN w' p x :=
 ⟨own_kept h.1 ho (fun y e => hR y (.inl e)), own_kept h.2.1 ho (fun y e => hR y (.inr (.inl e))), own_kept h.2.2 ho (fun y e => hR y (.inr (.inr e)))⟩
theorem OwN.lt {w : World} {p : V3} {x : NB} (h : OwN w p x) {y : Nat} (hy : bl p y) : y < w.heap.size := by
 rcases hy with e | e | e
 ·exact (World.ownsRow.lt h.1 y e).2
 ·exact (World.ownsRow.lt h.2.1 y e).2
 ·exact (World.ownsRow.lt h.2.2 y e).2
theorem own_lower {w : World} {base : Nat} {e : TypeId} {size n : Nat} {v : Value} {xs : List Value} (h : w.ownsRow base e size v n xs) : w.ownsRow 0 e size v n xs := by
 refine ⟨h.1, h.2.imp id ?_⟩
 rintro ⟨g, cap, cur, h1, h2, h3⟩
 exact ⟨g, cap, cur, h1, Nat.zero_le _, h3⟩
theorem own_ge {w : World} {base : Nat} {e : TypeId} {size n : Nat} {v : Value} {xs : List Value} (h : w.ownsRow base e size v n xs) (k : Nat) (hk : v.ownBlock = some k) : base ≤ k := by
 rcases h.2 with ⟨rfl, _⟩ | ⟨g, cap, cur, rfl, hb, _⟩
 ·cases hk
 ·cases hk; exact hb
def N1K (w : World) (F : Nat → Prop) (p : V3) (x : NB) : Prop := N1 w F p x ∧ OwN w p x ∧ ap3 p ∧ ∀ y, bl p y → F y
theorem N1K.to {w w' : World} {S R : Nat → Prop} {p : V3} {x : NB} (h : N1K w S p x) (ho : Only R w w') (hd : ∀ b, S b → b < w.heap.size → ¬ R b) : N1K w' S p x :=
 ⟨h.1.to ho hd, h.2.1.to ho (fun y hy => hd y (h.2.2.2 y hy) (h.2.1.lt hy)), h.2.2⟩
theorem N1K.mono {w : World} {S R : Nat → Prop} {p : V3} {x : NB} (h : N1K w S p x) (hd : ∀ b, S b → b < w.heap.size → R b) : N1K w R p x :=
 ⟨h.1.mono hd, h.2.1, h.2.2.1, fun y hy => hd y (h.2.2.2 y hy) (h.2.1.lt hy)⟩
theorem OwN.n1 {w : World} {S : Nat → Prop} {p : V3} {x : NB} (h : OwN w p x) (hS : ∀ y, bl p y → S y) : N1 w S p x :=
 ⟨rw_own h.1 (fun k e _ _ => hS k (.inl e)), rw_own h.2.1 (fun k e _ _ => hS k (.inr (.inl e))), rw_own h.2.2 (fun k e _ _ => hS k (.inr (.inr e)))⟩
theorem n1K_nil (w : World) (F : Nat → Prop) : N1K w F (.slice none 0 0, .slice none 0 0, .slice none 0 0) ⟨[], [], []⟩ :=
 ⟨⟨rw_nil _ _, rw_nil _ _, rw_nil _ _⟩, ⟨World.ownsRow_nil _ _ _ _, World.ownsRow_nil _ _ _ _, World.ownsRow_nil _ _ _ _⟩, fun y => ⟨fun e => by (cases e), fun e => by (cases e)⟩, fun y hy => by rcases hy with e | e | e <;> cases e⟩
def apartV (V : List V3) (n : Nat) : Prop := ∀ i j, i < n → j < n → i ≠ j → ∀ y, bl (vAt V i) y → ¬ bl (vAt V j) y
def NO (w : World) (F : Nat → Prop) (v : Value) (ns : List NB) : Prop :=
 ∃ V : List V3, V.length = ns.length ∧ w.ownsRow 0 85 3 v ns.length (ncs V) ∧ (∀ i, i < ns.length → N1K w F (vAt V i) (nAt ns i)) ∧ (∀ y, F y → y < w.heap.size ∧ v.ownBlock ≠ some y) ∧ apartV V ns.length
theorem NO.to {w w' : World} {R F : Nat → Prop} {v : Value} {ns : List NB} (h : NO w F v ns) (ho : Only R w w') (hv : ∀ y, v.ownBlock = some y → ¬ R y) (hF : ∀ y, F y → ¬ R y) : NO w' F v ns := by
 obtain ⟨V, h1, h2, h3, h4, h5⟩ := h
 exact ⟨V, h1, own_kept h2 ho hv, fun i hi => (h3 i hi).to ho (fun y hy _ => hF y hy), fun y hy => ⟨Nat.lt_of_lt_of_le (h4 y hy).1 ho.size, (h4 y hy).2⟩, h5⟩
theorem NO.kept {w w' : World} {F : Nat → Prop} {v : Value} {ns : List NB} (h : NO w F v ns) (hb : Below w.heap.size w w') : NO w' F v ns := h.to (only_of_below hb (fun _ => False)) (fun _ _ h => h) (fun _ _ h => h)
theorem NO.shape {w : World} {F : Nat → Prop} {v : Value} {ns : List NB} (h : NO w F v ns) : ∃ a n c, v = .slice a n c ∧ Hid (n = ns.length) := by
 obtain ⟨V, h1, h2, h3, h4⟩ := h
 obtain ⟨a, c, rfl⟩ := own_shape h2
 exact ⟨a, _, c, rfl, rfl⟩
theorem NO.nr {w : World} {F S : Nat → Prop} {v : Value} {ns : List NB} (h : NO w F v ns) (hS : ∀ y, y < w.heap.size → S y) : Nr w S v ns := by
 obtain ⟨V, h1, h2, h3, h4⟩ := h
 exact ⟨V, h1, rw_own h2 (fun y _ _ hy => hS y hy), fun i hi => (h3 i hi).1.mono (fun y _ hy => hS y hy)⟩
theorem no_nil (w : World) : NO w (fun _ => False) (.slice none 0 0) [] := ⟨[], rfl, World.ownsRow_nil _ _ _ _, fun i hi => by simp at hi, fun _ h => h.elim, fun i j hi => absurd hi (Nat.not_lt_zero _)⟩
theorem NO.lt {w : World} {F : Nat → Prop} {v : Value} {ns : List NB} (h : NO w F v ns) : ∀ y, v.ownBlock = some y → y < w.heap.size := by
 obtain ⟨V, h1, h2, h3, h4⟩ := h
 exact fun y hy => (World.ownsRow.lt h2 y hy).2
theorem nAt_append_left {ns ms : List NB} {i : Nat} (h : i < ns.length) : nAt (ns ++ ms) i = nAt ns i := by simp [nAt, List.getElem?_append_left h]
theorem nAt_append_at (ns : List NB) (x : NB) (ms : List NB) : nAt (ns ++ x :: ms) ns.length = x := by simp [nAt]
theorem vAt_append_left {V W : List V3} {i : Nat} (h : i < V.length) : vAt (V ++ W) i = vAt V i := by simp [vAt, List.getElem?_append_left h]
theorem vAt_append_at (V : List V3) (x : V3) : vAt (V ++ [x]) V.length = x := by simp [vAt]
theorem NO.push {u w2 : World} {F : Nat → Prop} {v v' : Value} {ns : List NB} (h : NO u F v ns) (x : NB) (p : V3) (hx : N1K u (fun _ => False) p x) (ho : ∀ V : List V3, V.length = ns.length → u.ownsRow 0 85 3 v ns.length (ncs V) → w2.ownsRow 0 85 3 v' (ns.length + 1) (ncs V ++ [p.1, p.2.1, p.2.2])) (hg : u.grownBy w2 v.ownBlock) (ha : v'.ownBlock = v.ownBlock ∨ v'.ownBlock = some u.heap.size) :
  NO w2 F v' (ns ++ [x]) := by
 obtain ⟨V, h1, h2, h3, h4, h5⟩ := h
 have o : Only (fun y => v.ownBlock = some y) u w2 := only_of_grown hg (fun k e => e)
 refine ⟨V ++ [p], by simp [h1], ?_, fun i hi => ?_, fun y hy => ⟨Nat.lt_of_lt_of_le (h4 y hy).1 hg.size, ?_⟩, fun i j hi hj hij y hy hz => ?_⟩
 ·rw [ncs_append, List.length_append]
  exact ho V h1 h2
 ·simp at hi
  by_cases e : i < ns.length
  ·rw [vAt_append_left (by omega), nAt_append_left e]
   exact (h3 i e).to o (fun y hy _ hv => (h4 y hy).2 hv)
  ·obtain rfl : i = ns.length := by omega
   rw [nAt_append_at, ← h1, vAt_append_at]
   exact (hx.to o (fun y hy => hy.elim)).mono (fun y hy => hy.elim)
 ·rcases ha with ha | ha
  ·rw [ha]; exact (h4 y hy).2
  ·rw [ha]; intro e; have := (h4 y hy).1; cases e; omega
 ·have hat : ∀ i, i < (ns ++ [x]).length → (i < ns.length ∧ vAt (V ++ [p]) i = vAt V i) ∨ vAt (V ++ [p]) i = p := by
   intro i hi
   simp at hi
   by_cases e : i < ns.length
   ·exact .inl ⟨e, vAt_append_left (by omega)⟩
   ·obtain rfl : i = ns.length := by omega
    exact .inr (by rw [← h1, vAt_append_at])
  rcases hat i hi with ⟨e, e1⟩ | e1
  ·rcases hat j hj with ⟨d, d1⟩ | d1
   ·rw [e1] at hy; rw [d1] at hz; exact h5 i j e d hij y hy hz
   ·rw [d1] at hz; exact hx.2.2.2 y hz
  ·rw [e1] at hy; exact hx.2.2.2 y hy
theorem NO.put {w : World} {F G : Nat → Prop} {v : Value} {ms l : List NB} {x z : NB} {g n c : Nat} (hv : v = .slice (some ⟨g, 0, none⟩) n c) (h' : NO w G v (ms ++ z :: l)) (hGF : ∀ y, G y → F y) (hFF : ∀ y, F y → y < w.heap.size ∧ v.ownBlock ≠ some y) (p : V3) (hx : N1K w F p x) (hn : ∀ y, bl p y → ¬ G y) :
  NO (((w.setCell ⟨g, ms.length * 3, none⟩ p.1).setCell ⟨g, ms.length * 3 + 1, none⟩ p.2.1).setCell ⟨g, ms.length * 3 + 2, none⟩ p.2.2) F v (ms ++ x :: l) := by
 subst hv
 obtain ⟨V, h1, h2, h3', _, h5⟩ := h'
 have h3 := fun i hi => (h3' i hi).mono (R := F) (fun y hy _ => hGF y hy)
 have h4 := hFF
 have hgb : (Value.slice (some ⟨g, 0, none⟩) n c).ownBlock = some g := rfl
 have o : Only (fun y => y = g) w (((w.setCell ⟨g, ms.length * 3, none⟩ p.1).setCell ⟨g, ms.length * 3 + 1, none⟩ p.2.1).setCell ⟨g, ms.length * 3 + 2, none⟩ p.2.2) := ((only_set (R := fun y => y = g) rfl _).trans (only_set (R := fun y => y = g) rfl _)).trans (only_set (R := fun y => y = g) rfl _)
 have hF : ∀ y, F y → ¬ y = g := fun y hy e => (h4 y hy).2 (by rw [hgb, e])
 have hl : ms.length < (ms ++ z :: l).length := by simp
 have hl2 : (ms ++ x :: l).length = (ms ++ z :: l).length := by simp
 refine ⟨V.set ms.length p, by rw [List.length_set, h1, hl2], ?_, fun i hi => ?_, fun y hy => ⟨Nat.lt_of_lt_of_le (h4 y hy).1 o.size, (h4 y hy).2⟩, fun i j hi hj hij y hy hz => ?_⟩
 ·rw [ncs_set _ _ _ (by omega), hl2]
  obtain ⟨k1, k2⟩ := h2
  rcases k2 with ⟨k2, _⟩ | ⟨g', cap, cur, e, k3, k4, k5, k6, k7, k8⟩
  ·cases k2
  ·cases e
   refine ⟨by simpa using k1, .inr ⟨g, c, ((cur.setIfInBounds (ms.length * 3) p.1).setIfInBounds (ms.length * 3 + 1) p.2.1).setIfInBounds (ms.length * 3 + 2) p.2.2, rfl, k3, ?_, k5, k6, by simpa using k7, ?_⟩⟩
   ·simp [World.setCell, Array.getElem?_modify, k4]
   ·rw [← k8]
    simp only [Array.toList_setIfInBounds, List.take_set]
 ·by_cases e : i = ms.length
  ·subst e
   rw [vAt_set _ _ _ (by omega), nAt_append_at]
   exact hx.to o (fun y hy _ => hF y hy)
  ·rw [vAt_other _ _ _ _ e]
   have : nAt (ms ++ x :: l) i = nAt (ms ++ z :: l) i := by
    by_cases hi2 : i < ms.length
    ·rw [nAt_append_left hi2, nAt_append_left hi2]
    ·obtain ⟨j, rfl⟩ : ∃ j, i = ms.length + 1 + j := ⟨i - ms.length - 1, by omega⟩
     simp only [nAt]
     rw [List.getElem?_append_right (by omega), List.getElem?_append_right (by omega), show ms.length + 1 + j - ms.length = j + 1 by omega]
     rfl
   rw [this]
   exact (h3 i (by omega)).to o (fun y hy _ => hF y hy)
 ·rw [hl2] at hi hj
  by_cases e : i = ms.length
  ·subst e
   rw [vAt_set _ _ _ (by omega)] at hy
   rw [vAt_other _ _ _ _ (Ne.symm hij)] at hz
   exact hn y hy ((h3' j hj).2.2.2 y hz)
  ·rw [vAt_other _ _ _ _ e] at hy
   by_cases d : j = ms.length
   ·subst d
    rw [vAt_set _ _ _ (by omega)] at hz
    exact hn y hz ((h3' i hi).2.2.2 y hy)
   ·rw [vAt_other _ _ _ _ d] at hz
    exact h5 i j hi hj hij y hy hz
structure LyI (w wr : World) (F : Nat → Prop) (v vv q0 q1 q2 : Value) (nb : Nat) (kx ki : Value) (Fk : Nat → Prop) (L : List NB) (keys : List ByteArray) (kids : List Int) : Prop where
 fw : ∀ y, F y → y < w.heap.size
 vw : ∀ y, v.ownBlock = some y → y < w.heap.size
 lo : w.heap.size < nb
 nodes : NO wr Fk vv L
 par : Bk wr w.heap.size 115 [q0, q1, q2]
 nod : Bk wr nb 85 [.slice none 0 0, kx, ki]
 rx : wr.ownsRow 0 9 1 kx keys.length (keys.map Value.string)
 ri : wr.ownsRow 0 3 1 ki kids.length (kids.map (Value.int .i64))
 fk : ∀ y, Fk y → (F y ∨ w.heap.size < y) ∧ y ≠ nb ∧ kx.ownBlock ≠ some y ∧ ki.ownBlock ≠ some y
 ff : ∀ y, F y → Fk y
 vb : ∀ y, vv.ownBlock = some y → (v.ownBlock = some y ∨ w.heap.size < y) ∧ y ≠ nb ∧ kx.ownBlock ≠ some y ∧ ki.ownBlock ≠ some y
 xb : ∀ y, kx.ownBlock = some y → w.heap.size < y ∧ y ≠ nb ∧ ki.ownBlock ≠ some y
 ib : ∀ y, ki.ownBlock = some y → w.heap.size < y ∧ y ≠ nb
 only : Only (fun y => v.ownBlock = some y) w wr
theorem LyI.keep {w wr w1 : World} {F : Nat → Prop} {v vv q0 q1 q2 : Value} {nb : Nat} {kx ki : Value} {Fk : Nat → Prop} {L : List NB} {keys : List ByteArray} {kids : List Int} (h : LyI w wr F v vv q0 q1 q2 nb kx ki Fk L keys kids) (hb : Below wr.heap.size wr w1) :
  LyI w w1 F v vv q0 q1 q2 nb kx ki Fk L keys kids :=
 { h with nodes := h.nodes.kept hb, par := h.par.below hb, nod := h.nod.below hb, rx := own_kept h.rx (only_of_below hb (fun _ => False)) (fun _ _ h => h), ri := own_kept h.ri (only_of_below hb (fun _ => False)) (fun _ _ h => h), only := h.only.trans (only_of_below hb _) }
theorem LyI.addKid {w u w2 : World} {F : Nat → Prop} {v vv q0 q1 q2 : Value} {nb : Nat} {kx ki ki' : Value} {Fk : Nat → Prop} {L : List NB} {keys : List ByteArray} {kids : List Int} (h : LyI w u F v vv q0 q1 q2 nb kx ki Fk L keys kids) (z : Int)
  (ho : w2.ownsRow 0 3 1 ki' (kids.length + 1) (kids.map (Value.int .i64) ++ [.int .i64 z])) (hg : u.grownBy w2 ki.ownBlock) (ha : ki'.ownBlock = ki.ownBlock ∨ ki'.ownBlock = some u.heap.size) :
  LyI w (w2.setCell ⟨nb, 2, none⟩ ki') F v vv q0 q1 q2 nb kx ki' Fk L keys (kids ++ [z]) := by
 have hlo := h.lo
 have hnb := h.nod.lt
 have hu := h.only.size
 have o1 : Only (fun y => ki.ownBlock = some y) u w2 := only_of_grown hg (fun k e => e)
 have o2 : Only (fun y => y = nb) w2 (w2.setCell ⟨nb, 2, none⟩ ki') := only_set (R := fun y => y = nb) rfl _
 have o3 : Only (fun y => ki.ownBlock = some y ∨ y = nb) u (w2.setCell ⟨nb, 2, none⟩ ki') := (o1.mono (fun _ _ e => .inl e)).then o2 (fun _ _ e => .inr e)
 have new : ∀ y, y < u.heap.size → ki.ownBlock ≠ some y → ki'.ownBlock ≠ some y := by
  intro y hy hne e
  rcases ha with ha | ha
  ·exact hne (ha ▸ e)
  ·rw [ha] at e; cases e; omega
 have hki : ∀ y, ki'.ownBlock = some y → w.heap.size < y ∧ y ≠ nb := by
  intro y e
  rcases ha with ha | ha
  ·exact h.ib y (ha ▸ e)
  ·rw [ha] at e; cases e; omega
 refine ⟨h.fw, h.vw, h.lo, h.nodes.to o3 ?_ ?_, h.par.to o3 ?_, ?_, ?_, ?_, ?_, h.ff, ?_, ?_, hki, ?_⟩
 ·rintro y hy (e | e)
  ·exact (h.vb y hy).2.2.2 e
  ·exact (h.vb y hy).2.1 e
 ·rintro y hy (e | e)
  ·exact (h.fk y hy).2.2.2 e
  ·exact (h.fk y hy).2.1 e
 ·rintro (e | e)
  ·have := h.ib _ e; omega
  ·omega
 ·have k1 := h.nod.to o1 (fun e => (h.ib nb e).2 rfl)
  exact k1.set 2 ki'
 ·exact own_kept h.rx o3 (by
   rintro y hy (e | e)
   ·exact (h.xb y hy).2.2 e
   ·exact (h.xb y hy).2.1 e)
 ·have := own_kept ho o2 (fun y hy e => (hki y hy).2 e)
  simpa using this
 ·intro y hy
  obtain ⟨a1, a2, a3, a4⟩ := h.fk y hy
  obtain ⟨V, _, _, _, n4, _⟩ := h.nodes
  exact ⟨a1, a2, a3, new y (n4 y hy).1 a4⟩
 ·intro y hy
  obtain ⟨a1, a2, a3, a4⟩ := h.vb y hy
  exact ⟨a1, a2, a3, new y (h.nodes.lt y hy) a4⟩
 ·intro y hy
  obtain ⟨a1, a2, a3⟩ := h.xb y hy
  exact ⟨a1, a2, new y (World.ownsRow.lt h.rx y hy).2 a3⟩
 ·refine h.only.then o3 (fun y hy e => ?_)
  rcases e with e | e
  ·have := h.ib y e; omega
  ·omega
theorem LyI.addKey {w u w2 : World} {F : Nat → Prop} {v vv q0 q1 q2 : Value} {nb : Nat} {kx ki kx' : Value} {Fk : Nat → Prop} {L : List NB} {keys : List ByteArray} {kids : List Int} (h : LyI w u F v vv q0 q1 q2 nb kx ki Fk L keys kids) (z : ByteArray)
  (ho : w2.ownsRow 0 9 1 kx' (keys.length + 1) (keys.map Value.string ++ [.string z])) (hg : u.grownBy w2 kx.ownBlock) (ha : kx'.ownBlock = kx.ownBlock ∨ kx'.ownBlock = some u.heap.size) :
  LyI w (w2.setCell ⟨nb, 1, none⟩ kx') F v vv q0 q1 q2 nb kx' ki Fk L (keys ++ [z]) kids := by
 have hlo := h.lo
 have hnb := h.nod.lt
 have hu := h.only.size
 have o1 : Only (fun y => kx.ownBlock = some y) u w2 := only_of_grown hg (fun k e => e)
 have o2 : Only (fun y => y = nb) w2 (w2.setCell ⟨nb, 1, none⟩ kx') := only_set (R := fun y => y = nb) rfl _
 have o3 : Only (fun y => kx.ownBlock = some y ∨ y = nb) u (w2.setCell ⟨nb, 1, none⟩ kx') := (o1.mono (fun _ _ e => .inl e)).then o2 (fun _ _ e => .inr e)
 have new : ∀ y, y < u.heap.size → kx.ownBlock ≠ some y → kx'.ownBlock ≠ some y := by
  intro y hy hne e
  rcases ha with ha | ha
  ·exact hne (ha ▸ e)
  ·rw [ha] at e; cases e; omega
 have hkx : ∀ y, kx'.ownBlock = some y → w.heap.size < y ∧ y ≠ nb ∧ ki.ownBlock ≠ some y := by
  intro y e
  rcases ha with ha | ha
  ·exact h.xb y (ha ▸ e)
  ·rw [ha] at e; cases e
   exact ⟨by omega, by omega, fun e => by have := (World.ownsRow.lt h.ri _ e).2; omega⟩
 refine ⟨h.fw, h.vw, h.lo, h.nodes.to o3 ?_ ?_, h.par.to o3 ?_, ?_, ?_, ?_, ?_, h.ff, ?_, hkx, h.ib, ?_⟩
 ·rintro y hy (e | e)
  ·exact (h.vb y hy).2.2.1 e
  ·exact (h.vb y hy).2.1 e
 ·rintro y hy (e | e)
  ·exact (h.fk y hy).2.2.1 e
  ·exact (h.fk y hy).2.1 e
 ·rintro (e | e)
  ·have := h.xb _ e; omega
  ·omega
 ·have k1 := h.nod.to o1 (fun e => (h.xb nb e).2.1 rfl)
  exact k1.set 1 kx'
 ·have := own_kept ho o2 (fun y hy e => (hkx y hy).2.1 e)
  simpa using this
 ·exact own_kept h.ri o3 (by
   rintro y hy (e | e)
   ·exact (h.xb y e).2.2 hy
   ·exact (h.ib y hy).2 e)
 ·intro y hy
  obtain ⟨a1, a2, a3, a4⟩ := h.fk y hy
  obtain ⟨V, _, _, _, n4, _⟩ := h.nodes
  exact ⟨a1, a2, new y (n4 y hy).1 a3, a4⟩
 ·intro y hy
  obtain ⟨a1, a2, a3, a4⟩ := h.vb y hy
  exact ⟨a1, a2, new y (h.nodes.lt y hy) a3, a4⟩
 ·refine h.only.then o3 (fun y hy e => ?_)
  rcases e with e | e
  ·have := h.xb y e; omega
  ·omega
theorem LyI.sub {w wr w1 : World} {F : Nat → Prop} {v vv v1 q0 q1 q2 : Value} {nb : Nat} {kx ki : Value} {Fk : Nat → Prop} {L M : List NB} {keys : List ByteArray} {kids : List Int} (h : LyI w wr F v vv q0 q1 q2 nb kx ki Fk L keys kids)
  (hn : NO w1 (fun y => Fk y ∨ (wr.heap.size ≤ y ∧ y < w1.heap.size ∧ v1.ownBlock ≠ some y)) v1 M) (ho : Only (fun y => vv.ownBlock = some y) wr w1) (hv : ∀ y, v1.ownBlock = some y → vv.ownBlock = some y ∨ wr.heap.size ≤ y) :
  LyI w w1 F v v1 q0 q1 q2 nb kx ki (fun y => Fk y ∨ (wr.heap.size ≤ y ∧ y < w1.heap.size ∧ v1.ownBlock ≠ some y)) M keys kids := by
 have hlo := h.lo
 have hnb := h.nod.lt
 have hp := h.par.lt
 have lx := fun y e => (World.ownsRow.lt h.rx y e).2
 have li := fun y e => (World.ownsRow.lt h.ri y e).2
 have nx : ∀ y, wr.heap.size ≤ y → y ≠ nb ∧ kx.ownBlock ≠ some y ∧ ki.ownBlock ≠ some y := by
  intro y hy
  refine ⟨by omega, fun e => ?_, fun e => ?_⟩
  ·have := lx y e; omega
  ·have := li y e; omega
 refine ⟨h.fw, h.vw, h.lo, hn, h.par.to ho (fun e => ?_), h.nod.to ho (fun e => (h.vb nb e).2.1 rfl), own_kept h.rx ho (fun y hy e => (h.vb y e).2.2.1 hy), own_kept h.ri ho (fun y hy e => (h.vb y e).2.2.2 hy), ?_, fun y hy => .inl (h.ff y hy), ?_, h.xb, h.ib, ?_⟩
 ·rcases (h.vb _ e).1 with e | e
  ·have := h.vw _ e; omega
  ·omega
 ·rintro y (hy | ⟨hy, _, _⟩)
  ·exact h.fk y hy
  ·exact ⟨.inr (by omega), nx y hy⟩
 ·intro y hy
  rcases hv y hy with e | e
  ·exact h.vb y e
  ·exact ⟨.inr (by omega), nx y e⟩
 ·refine h.only.then ho (fun y hy e => ?_)
  rcases (h.vb y e).1 with e | e
  ·exact e
  ·omega
open Go.RowKit
theorem wpList_append_zero {w : World} {ops : Array Oper} {rest : List Oper} {o : Oper} {a : Act} {Q : Exit → Act → World → Prop} (hgd : o.guard = none) (s x : Operand)
  (ho : o.op = .call { callee := .builtin .append, args := #[s, x], argTypes := #[31, 31] }) (F : Nat → Prop) (v : Value) (ns : List NB) (hs : a.eval s = v) (hown : NO w F v ns)
  (g : Nat) (hx : a.eval x = .slice (some ⟨g, 0, none⟩) 1 1) (hB : Bk w g 85 [.slice none 0 0, .slice none 0 0, .slice none 0 0]) (hb : ns.length ≤ 1048576)
  (h : ∀ g' n' c' w', NO w' F (.slice (some ⟨g', 0, none⟩) n' c') (ns ++ [⟨[], [], []⟩]) → Hid (n' = ns.length + 1) → w.grownBy w' v.ownBlock → ((Value.slice (some ⟨g', 0, none⟩) n' c').ownBlock = v.ownBlock ∨ (Value.slice (some ⟨g', 0, none⟩) n' c').ownBlock = some w.heap.size) → wpList Tryz.prog ops Q rest (a.put o.dst (.slice (some ⟨g', 0, none⟩) n' c')) w') : wpList Tryz.prog ops Q (o :: rest) a w := by
 obtain ⟨i, hi, hz, hsz, hby⟩ := info_of infoNodeI
 have hown' := hown
 obtain ⟨V, h1, h2, h3, h4⟩ := hown'
 refine wpList_append_row_at hgd s x 31 ho 0 85 i _ 3 72 Tryz.underlying31 hi hz hsz hby rfl (by decide) v ns.length (ncs V) hs h2 (fun _ => True) _ 1 [.slice none 0 0, .slice none 0 0, .slice none 0 0] hx (hB.rw (Nat.le_refl _) (by omega) (fun h => by omega) _ trivial) rfl
  (by intro u hu; simp at hu; subst hu; rfl) (by unfold maxLen; omega) (by omega) (Nat.zero_le _) ?_
 intro v' w' k1 k2 k3
 rcases k1.2 with ⟨_, e⟩ | ⟨g', cap, cur, e, _⟩
 ·omega
 ·subst e
  refine h g' _ cap w' ?_ rfl k2 k3
  have hN0 : NO w F v ns := hown
  refine hN0.push ⟨[], [], []⟩ (.slice none 0 0, .slice none 0 0, .slice none 0 0) (n1K_nil _ _) (fun V' e1 e2 => ?_) k2 k3
  have hV : ncs V' = ncs V := by
   rcases e2.2 with ⟨rfl, e3⟩ | ⟨g1, c1, cur1, rfl, _, e5, _, _, _, e6⟩
   ·rw [List.eq_nil_of_length_eq_zero (by omega : V'.length = 0), List.eq_nil_of_length_eq_zero (by omega : V.length = 0)]
   ·rcases h2.2 with ⟨e7, _⟩ | ⟨g2, c2, cur2, e7, _, e8, _, _, _, e9⟩
    ·cases e7
    ·cases e7
     rw [e5] at e8
     cases e8
     rw [← e6, ← e9]
  rw [hV]
  exact k1
theorem NO.rowAt {w : World} {F : Nat → Prop} {a : Option Addr} {n c : Nat} {ns : List NB} (h : NO w F (.slice a n c) ns) (hp : 0 < ns.length) : ∃ g, a = some ⟨g, 0, none⟩ ∧ Hid (n = ns.length) := by
 obtain ⟨V, h1, h2, h3, h4⟩ := h
 rcases h2.2 with ⟨e, e2⟩ | ⟨g, cap, cur, e, _⟩
 ·omega
 ·cases e
  exact ⟨g, rfl, rfl⟩
theorem places_length (ks : List T) : ∀ a, (places a ks).length = ks.length := by
 induction ks with
 | nil => intro a; rfl
 | cons k ks ih => intro a; simp [places, ih]
theorem wpList_append_int1 {w : World} {ops : Array Oper} {rest : List Oper} {o : Oper} {a : Act} {Q : Exit → Act → World → Prop} (hgd : o.guard = none) (s x : Operand)
  (ho : o.op = .call { callee := .builtin .append, args := #[s, x], argTypes := #[34, 34] }) (v : Value) (n : Nat) (xs : List Value) (hs : a.eval s = v) (hown : w.ownsRow 0 3 1 v n xs)
  (g : Nat) (z : Int) (hx : a.eval x = .slice (some ⟨g, 0, none⟩) 1 1) (hB : Bk w g 3 [.int .i64 z]) (hb : n ≤ 1048576)
  (h : ∀ a' n' c' w', w'.ownsRow 0 3 1 (.slice a' n' c') (n + 1) (xs ++ [.int .i64 z]) → w.grownBy w' v.ownBlock → ((Value.slice a' n' c').ownBlock = v.ownBlock ∨ (Value.slice a' n' c').ownBlock = some w.heap.size) → wpList Tryz.prog ops Q rest (a.put o.dst (.slice a' n' c')) w') : wpList Tryz.prog ops Q (o :: rest) a w := by
 obtain ⟨i, hi, hz, hsz, hby⟩ := info_of infoInt'
 refine wpList_append_row_at hgd s x 34 ho 0 3 i _ 1 8 Tryz.underlying34 hi hz hsz hby rfl (by decide) v n xs hs hown (fun _ => True) _ 1 [.int .i64 z] hx (hB.rw (Nat.le_refl _) (by omega) (fun h => by omega) _ trivial) rfl
  (by intro u hu; simp at hu; subst hu; rfl) (by unfold maxLen; omega) (by omega) (Nat.zero_le _) ?_
 intro v' w' k1 k2 k3
 obtain ⟨a', c', rfl⟩ := own_shape k1
 exact h a' _ c' w' k1 k2 k3
theorem step_append_str1 {w : World} {ops : Array Oper} {o : Oper} {a : Act} {K : Act → World → Prop} {Q : Exit → Act → World → Prop} {E : Prop} (hgd : o.guard = none) (s x : Operand)
  (ho : o.op = .call { callee := .builtin .append, args := #[s, x], argTypes := #[83, 83] }) (v : Value) (n : Nat) (xs : List Value) (hs : a.eval s = v) (hown : w.ownsRow 0 9 1 v n xs)
  (g : Nat) (z : ByteArray) (hx : a.eval x = .slice (some ⟨g, 0, none⟩) 1 1) (hB : w.cell? ⟨g, 0, none⟩ = some (.string z)) (hb : n ≤ 1048576) (b0 o0 : Nat) (x0 : Value) (hc0 : w.cell? ⟨b0, o0, none⟩ = some x0) (hf0 : w.frozen? ⟨b0, o0, none⟩ = false) (hne : v.ownBlock ≠ some b0)
  (h : ∀ a' n' c' w', w'.ownsRow 0 9 1 (.slice a' n' c') (n + 1) (xs ++ [.string z]) → w.grownBy w' v.ownBlock → ((Value.slice a' n' c').ownBlock = v.ownBlock ∨ (Value.slice a' n' c').ownBlock = some w.heap.size) → w'.cell? ⟨b0, o0, none⟩ = some x0 → w'.frozen? ⟨b0, o0, none⟩ = false → K (a.put o.dst (.slice a' n' c')) w') :
  if Region.wanted o (yielded ops a.tmps) = true then Oper.wp Tryz.prog o a w K Q else E := by
 have hw : Region.wanted o (yielded ops a.tmps) = true := by simp [Region.wanted, hgd]
 rw [if_pos hw]
 obtain ⟨i, hi, hz, hsz, hby⟩ := info_of infoStr'
 have hsrc : Rw w (fun _ => True) (.slice (some ⟨g, 0, none⟩) 1 1) 1 [.string z] := by
  refine ⟨_, 1, rfl, Nat.le_refl _, by omega, fun h => by omega, fun h => (by cases h), fun _ => ⟨g, 0, rfl, block_lt hB, trivial, fun j u hu => ?_⟩⟩
  cases j with
  | zero => simp at hu; subst hu; simpa using hB
  | succ j => simp at hu
 obtain ⟨v', w', hr, h2, h3, h5⟩ := run_append_row_at (P := Tryz.prog) (w := w) 0 83 o.type 9 i _ 1 16 Tryz.underlying83 hi hz hsz hby rfl (by decide) v n xs hown (fun _ => True) _ 1 [.string z] hsrc rfl (by intro u hu; simp at hu; subst hu; rfl) (by unfold maxLen; omega) (by omega) (Nat.zero_le _)
 obtain ⟨a', c', rfl⟩ := own_shape h2
 have hbl := h3.block b0 (block_lt hc0) (fun e => hne e.symm)
 unfold Oper.wp execOp
 simp only [ho, resolve, invoke, builtin, Sem.run_bind, Sem.run_pure, Result.andThen_ok, List.map_toArray, List.map_cons, List.map_nil, hs, hx, hr]
 exact h a' _ c' w' h2 h3 h5 ((World.cell?_of_block (w := w) (a := ⟨b0, o0, none⟩) hbl).trans hc0) ((World.frozen?_of_block (w := w) (a := ⟨b0, o0, none⟩) hbl).trans hf0)
structure KO (R : Nat → Prop) (u v : World) (cs : List (Addr × Value)) : Prop where
 cells : ∀ p ∈ cs, u.cell? p.1 = some p.2 ∧ ¬ R p.1.block
 only : Only R u v
theorem KO.at {R : Nat → Prop} {u v : World} {cs : List (Addr × Value)} (h : KO R u v cs) {a : Addr} {x : Value} (hp : (a, x) ∈ cs) : v.cell? a = some x := by
 obtain ⟨hc, hr⟩ := h.cells (a, x) hp
 exact (World.cell?_of_block (w := u) (h.only.block a.block (block_lt hc) hr)).trans hc
theorem ko4 {R : Nat → Prop} {u v : World} {a0 a1 a2 a3 : Addr} {x0 x1 x2 x3 : Value} (h : KO R u v [(a0, x0), (a1, x1), (a2, x2), (a3, x3)]) : v.cell? a0 = some x0 ∧ v.cell? a1 = some x1 ∧ v.cell? a2 = some x2 ∧ v.cell? a3 = some x3 ∧ KO R u v [(a0, x0), (a1, x1), (a2, x2), (a3, x3)] := ⟨h.at (by simp), h.at (by simp), h.at (by simp), h.at (by simp), h⟩
theorem ko4o {R : Nat → Prop} {u v v' : World} {a0 a1 a2 a3 : Addr} {x0 x1 x2 x3 : Value} (k : Only R v v') (h : v.cell? a0 = some x0 ∧ v.cell? a1 = some x1 ∧ v.cell? a2 = some x2 ∧ v.cell? a3 = some x3 ∧ KO R u v [(a0, x0), (a1, x1), (a2, x2), (a3, x3)]) : v'.cell? a0 = some x0 ∧ v'.cell? a1 = some x1 ∧ v'.cell? a2 = some x2 ∧ v'.cell? a3 = some x3 ∧ KO R u v' [(a0, x0), (a1, x1), (a2, x2), (a3, x3)] :=
 ko4 ⟨h.2.2.2.2.cells, h.2.2.2.2.only.trans k⟩
theorem szL_take (ks : List T) (k : Nat) (h : k < ks.length) : szL (ks.take (k + 1)) = szL (ks.take k) + (tAt ks k).size := by
 induction ks generalizing k with
 | nil => simp at h
 | cons x ks ih =>
  cases k with
  | zero => simp [szL, tAt]
  | succ k =>
   have := ih k (by simpa using h)
   simp only [List.take_succ_cons, szL, this, Nat.add_assoc]
   rfl
theorem layL_take (ks : List T) (k a : Nat) (h : k < ks.length) : layL a (ks.take (k + 1)) = layL a (ks.take k) ++ lay (a + szL (ks.take k)) (tAt ks k) := by
 induction ks generalizing k a with
 | nil => simp at h
 | cons x ks ih =>
  cases k with
  | zero => simp [layL, tAt, szL]
  | succ k =>
   have := ih k (a + x.size) (by simpa using h)
   simp only [List.take_succ_cons, layL, this, List.append_assoc, szL, Nat.add_assoc]
   rfl
theorem places_take (ks : List T) (k a : Nat) (h : k < ks.length) : places a (ks.take (k + 1)) = places a (ks.take k) ++ [((a + szL (ks.take k) : Nat) : Int)] := by
 induction ks generalizing k a with
 | nil => simp at h
 | cons x ks ih =>
  cases k with
  | zero => simp [places, szL]
  | succ k =>
   have := ih k (a + x.size) (by simpa using h)
   simp only [List.take_succ_cons, places, this, List.cons_append, szL, Nat.add_assoc]
theorem keys_take (ks : List T) (k : Nat) (h : k + 1 < ks.length) : (ks.take (k + 1 + 1)).tail.map T.least = (ks.take (k + 1)).tail.map T.least ++ [(tAt ks (k + 1)).least] := by
 cases ks with
 | nil => simp at h
 | cons x ks =>
  simp only [List.take_succ_cons, List.tail_cons]
  have hk : k < ks.length := by simpa using h
  have e : ks.take (k + 1) = ks.take k ++ [tAt (x :: ks) (k + 1)] := by
   rw [List.take_succ_eq_append_getElem hk]
   simp [tAt, hk]
  rw [e, List.map_append]
  rfl
theorem szL_take_le (ks : List T) (k : Nat) : szL (ks.take k) ≤ szL ks := by
 induction ks generalizing k with
 | nil => simp [szL]
 | cons x ks ih =>
  cases k with
  | zero => simp [szL]
  | succ k =>
   have := ih k
   simp only [List.take_succ_cons, szL]
   omega
theorem ncs_set0 (V : List V3) (x : Value) : ∀ j, j < V.length → ncs (V.set j (x, (vAt V j).2)) = (ncs V).set (j * 3) x := by
 induction V with
 | nil => intro j h; exact absurd h (Nat.not_lt_zero _)
 | cons q V ih =>
  intro j h
  cases j with
  | zero => rfl
  | succ j =>
   have := ih j (by simpa using h)
   rw [show (j + 1) * 3 = j * 3 + 3 by omega]
   show q.1 :: q.2.1 :: q.2.2 :: ncs (V.set j (x, (vAt V j).2)) = _
   rw [this]
   rfl
theorem NO.put0 {w : World} {F G : Nat → Prop} {ms l : List NB} {z : NB} {g n c : Nat} {pv : Value} {ps : List PB} (h' : NO w G (.slice (some ⟨g, 0, none⟩) n c) (ms ++ z :: l)) (hGF : ∀ y, G y → F y) (h4 : ∀ y, F y → y < w.heap.size ∧ (Value.slice (some ⟨g, 0, none⟩) n c).ownBlock ≠ some y) (hp : w.ownsRow 0 112 2 pv ps.length (pcs ps)) (hpf : ∀ y, pv.ownBlock = some y → F y ∧ ¬ G y) :
  NO (w.setCell ⟨g, ms.length * 3, none⟩ pv) F (.slice (some ⟨g, 0, none⟩) n c) (ms ++ ⟨ps, z.keys, z.kids⟩ :: l) := by
 obtain ⟨V, h1, h2, h3', _, h5⟩ := h'
 have h3 := fun i hi => (h3' i hi).mono (R := F) (fun y hy _ => hGF y hy)
 have hgb : (Value.slice (some ⟨g, 0, none⟩) n c).ownBlock = some g := rfl
 have o : Only (fun y => y = g) w (w.setCell ⟨g, ms.length * 3, none⟩ pv) := only_set (R := fun y => y = g) rfl _
 have hF : ∀ y, F y → ¬ y = g := fun y hy e => (h4 y hy).2 (by rw [hgb, e])
 have hl : ms.length < (ms ++ z :: l).length := by simp
 have hl2 : (ms ++ (⟨ps, z.keys, z.kids⟩ : NB) :: l).length = (ms ++ z :: l).length := by simp
 have hn := h3 ms.length hl
 rw [nAt_append_at] at hn
 refine ⟨V.set ms.length (pv, (vAt V ms.length).2), by rw [List.length_set, h1, hl2], ?_, fun i hi => ?_, fun y hy => ⟨Nat.lt_of_lt_of_le (h4 y hy).1 o.size, (h4 y hy).2⟩, fun i j hi hj hij y hy hz => ?_⟩
 ·rw [ncs_set0 _ _ _ (by omega), hl2]
  obtain ⟨k1, k2⟩ := h2
  rcases k2 with ⟨k2, _⟩ | ⟨g', cap, cur, e, k3, k4, k5, k6, k7, k8⟩
  ·cases k2
  ·cases e
   refine ⟨by simpa using k1, .inr ⟨g, c, cur.setIfInBounds (ms.length * 3) pv, rfl, k3, ?_, k5, k6, by simpa using k7, ?_⟩⟩
   ·simp [World.setCell, Array.getElem?_modify, k4]
   ·rw [← k8]
    simp only [Array.toList_setIfInBounds, List.take_set]
 ·by_cases e : i = ms.length
  ·subst e
   rw [vAt_set _ _ _ (by omega), nAt_append_at]
   have hN' := hn.to o (fun y hy _ => hF y hy)
   have hG' : ∀ y, bl (vAt V ms.length) y → G y := (h3' ms.length hl).2.2.2
   have hown : OwN (w.setCell ⟨g, ms.length * 3, none⟩ pv) (pv, (vAt V ms.length).2) ⟨ps, z.keys, z.kids⟩ := ⟨own_kept hp o (fun y hy e => hF y (hpf y hy).1 e), hN'.2.1.2⟩
   have hbl : ∀ y, bl (pv, (vAt V ms.length).2) y → F y := by
    rintro y (e | e)
    ·exact (hpf y e).1
    ·exact hGF y (hG' y (.inr e))
   refine ⟨hown.n1 hbl, hown, fun y => ⟨fun e => ⟨fun d => (hpf y e).2 (hG' y (.inr (.inl d))), fun d => (hpf y e).2 (hG' y (.inr (.inr d)))⟩, (hN'.2.2.1 y).2⟩, hbl⟩
  ·rw [vAt_other _ _ _ _ e]
   have : nAt (ms ++ (⟨ps, z.keys, z.kids⟩ : NB) :: l) i = nAt (ms ++ z :: l) i := by
    by_cases hi2 : i < ms.length
    ·rw [nAt_append_left hi2, nAt_append_left hi2]
    ·obtain ⟨j, rfl⟩ : ∃ j, i = ms.length + 1 + j := ⟨i - ms.length - 1, by omega⟩
     simp only [nAt]
     rw [List.getElem?_append_right (by omega), List.getElem?_append_right (by omega), show ms.length + 1 + j - ms.length = j + 1 by omega]
     rfl
   rw [this]
   exact (h3 i (by omega)).to o (fun y hy _ => hF y hy)
 ·rw [hl2] at hi hj
  have hot : ∀ k, k < (ms ++ z :: l).length → k ≠ ms.length → ∀ y, bl (pv, (vAt V ms.length).2) y → ¬ bl (vAt V k) y := by
   rintro k hk hne y (e | e) d
   ·exact (hpf y e).2 ((h3' k hk).2.2.2 y d)
   ·exact h5 ms.length k hl hk (Ne.symm hne) y (.inr e) d
  by_cases e : i = ms.length
  ·subst e
   rw [vAt_set _ _ _ (by omega)] at hy
   rw [vAt_other _ _ _ _ (Ne.symm hij)] at hz
   exact hot j hj (Ne.symm hij) y hy hz
  ·rw [vAt_other _ _ _ _ e] at hy
   by_cases d : j = ms.length
   ·subst d
    rw [vAt_set _ _ _ (by omega)] at hz
    exact hot i hi e y hz hy
   ·rw [vAt_other _ _ _ _ d] at hz
    exact h5 i j hi hj hij y hy hz
theorem NO.cells {w : World} {F : Nat → Prop} {g n c : Nat} {ns : List NB} (h : NO w F (.slice (some ⟨g, 0, none⟩) n c) ns) (i : Nat) (hi : i < ns.length) : (∃ x0 x1 x2, w.cell? ⟨g, i * 3, none⟩ = some x0 ∧ w.cell? ⟨g, i * 3 + 1, none⟩ = some x1 ∧ w.cell? ⟨g, i * 3 + 2, none⟩ = some x2) ∧ ∀ o, w.frozen? ⟨g, o, none⟩ = false := by
 obtain ⟨V, h1, h2, h3, h4, _⟩ := h
 have hc := World.ownsRow.cells h2 (g := g) rfl
 obtain ⟨c0, c1, c2⟩ := ncs_at V i (by omega)
 have d0 := hc _ _ c0
 have d1 := hc _ _ c1
 have d2 := hc _ _ c2
 rw [Addr.add_lit, Nat.zero_add] at d0 d1 d2
 refine ⟨⟨_, _, _, d0, d1, d2⟩, fun o => ?_⟩
 rcases h2.2 with ⟨e, _⟩ | ⟨g', cap, cur, e, _, k4, _⟩
 ·cases e
 ·cases e
  simp [World.frozen?, k4]
open Go.RowKit
structure NA (w : World) (v : Value) (V : List V3) (ns : List NB) : Prop where
 len : V.length = ns.length
 row : w.ownsRow 0 85 3 v ns.length (ncs V)
 own : ∀ i, i < ns.length → OwN w (vAt V i) (nAt ns i) ∧ ap3 (vAt V i)
 apart : ∀ i j, i < ns.length → j < ns.length → i ≠ j → ∀ y, bl (vAt V i) y → ¬ bl (vAt V j) y
 off : ∀ i, i < ns.length → ∀ y, bl (vAt V i) y → v.ownBlock ≠ some y
theorem NA.to {w w' : World} {R : Nat → Prop} {v : Value} {V : List V3} {ns : List NB} (h : NA w v V ns) (ho : Only R w w') (hv : ∀ y, v.ownBlock = some y → ¬ R y) (hR : ∀ i, i < ns.length → ∀ y, bl (vAt V i) y → ¬ R y) : NA w' v V ns :=
 ⟨h.len, own_kept h.row ho hv, fun i hi => ⟨(h.own i hi).1.to ho (hR i hi), (h.own i hi).2⟩, h.apart, h.off⟩
theorem NA.kept {w w' : World} {v : Value} {V : List V3} {ns : List NB} (h : NA w v V ns) (hb : Below w.heap.size w w') : NA w' v V ns := h.to (only_of_below hb (fun _ => False)) (fun _ _ h => h) (fun _ _ _ _ h => h)
theorem na_nil (w : World) : NA w (.slice none 0 0) [] [] := ⟨rfl, World.ownsRow_nil _ _ _ _, fun i hi => by simp at hi, fun i j hi => by simp at hi, fun i hi => by simp at hi⟩
theorem NA.nr {w : World} {v : Value} {V : List V3} {ns : List NB} (h : NA w v V ns) {S : Nat → Prop} (hS : ∀ y, y < w.heap.size → S y) : Nr w S v ns :=
 ⟨V, h.len, rw_own h.row (fun k _ _ h => hS k h), fun i hi => ⟨rw_own (h.own i hi).1.1 (fun k _ _ h => hS k h), rw_own (h.own i hi).1.2.1 (fun k _ _ h => hS k h), rw_own (h.own i hi).1.2.2 (fun k _ _ h => hS k h)⟩⟩
theorem NA.push {u w2 : World} {v v' : Value} {V : List V3} {ns : List NB} (h : NA u v V ns) (x : NB) (p : V3) (hx : OwN u p x) (hap : ap3 p) (hd : ∀ y, bl p y → v.ownBlock ≠ some y ∧ ∀ i, i < ns.length → ¬ bl (vAt V i) y)
  (ho : w2.ownsRow 0 85 3 v' (ns.length + 1) (ncs V ++ [p.1, p.2.1, p.2.2])) (hg : u.grownBy w2 v.ownBlock) (ha : v'.ownBlock = v.ownBlock ∨ v'.ownBlock = some u.heap.size) :
  NA w2 v' (V ++ [p]) (ns ++ [x]) := by
 have o : Only (fun y => v.ownBlock = some y) u w2 := only_of_grown hg (fun k e => e)
 have hl := h.len
 have hat : ∀ i, i < (ns ++ [x]).length → (i < ns.length ∧ vAt (V ++ [p]) i = vAt V i ∧ nAt (ns ++ [x]) i = nAt ns i) ∨ (i = ns.length ∧ vAt (V ++ [p]) i = p ∧ nAt (ns ++ [x]) i = x) := by
  intro i hi
  simp at hi
  by_cases e : i < ns.length
  ·exact .inl ⟨e, vAt_append_left (by omega), nAt_append_left e⟩
  ·obtain rfl : i = ns.length := by omega
   exact .inr ⟨rfl, by rw [← hl, vAt_append_at], nAt_append_at _ _ _⟩
 refine ⟨by simp [hl], by rw [ncs_append, List.length_append]; exact ho, fun i hi => ?_, fun i j hi hj hij y hy hz => ?_, fun i hi y hy hv => ?_⟩
 ·rcases hat i hi with ⟨e, e1, e2⟩ | ⟨e, e1, e2⟩
  ·rw [e1, e2]; exact ⟨(h.own i e).1.to o (h.off i e), (h.own i e).2⟩
  ·rw [e1, e2]; exact ⟨hx.to o (fun y hy => (hd y hy).1), hap⟩
 ·rcases hat i hi with ⟨e, e1, _⟩ | ⟨e, e1, _⟩
  ·rw [e1] at hy
   rcases hat j hj with ⟨d, d1, _⟩ | ⟨d, d1, _⟩
   ·rw [d1] at hz; exact h.apart i j e d hij y hy hz
   ·rw [d1] at hz; exact (hd y hz).2 i e hy
  ·rw [e1] at hy
   rcases hat j hj with ⟨d, d1, _⟩ | ⟨d, d1, _⟩
   ·rw [d1] at hz; exact (hd y hy).2 j d hz
   ·omega
 ·have : y < u.heap.size ∧ v.ownBlock ≠ some y := by
   rcases hat i hi with ⟨e, e1, _⟩ | ⟨e, e1, _⟩
   ·rw [e1] at hy; exact ⟨(h.own i e).1.lt hy, h.off i e y hy⟩
   ·rw [e1] at hy; exact ⟨hx.lt hy, (hd y hy).1⟩
  rcases ha with ha | ha
  ·rw [ha] at hv; exact this.2 hv
  ·rw [ha] at hv; cases hv; omega
theorem nAt_other (ms : List NB) (z x : NB) (l : List NB) {i : Nat} (h : i ≠ ms.length) : nAt (ms ++ x :: l) i = nAt (ms ++ z :: l) i := by
 by_cases hi2 : i < ms.length
 ·rw [nAt_append_left hi2, nAt_append_left hi2]
 ·obtain ⟨j, rfl⟩ : ∃ j, i = ms.length + 1 + j := ⟨i - ms.length - 1, by omega⟩
  simp only [nAt]
  rw [List.getElem?_append_right (by omega), List.getElem?_append_right (by omega), show ms.length + 1 + j - ms.length = j + 1 by omega]
  rfl
theorem NA.upd {u w2 w3 : World} {v : Value} {V : List V3} {ms l : List NB} {z z' : NB} {p' : V3} {g : Nat} (h : NA u v V (ms ++ z :: l)) (hv : v.ownBlock = some g) (ho : Only (bl (vAt V ms.length)) u w2) (hown : OwN w2 p' z') (hap : ap3 p')
  (hbl : ∀ y, bl p' y → bl (vAt V ms.length) y ∨ u.heap.size ≤ y) (o3 : Only (fun y => y = g) w2 w3) (hrow : w3.ownsRow 0 85 3 v (ms ++ z :: l).length (ncs (V.set ms.length p'))) : NA w3 v (V.set ms.length p') (ms ++ z' :: l) := by
 have hl2 : (ms ++ z' :: l).length = (ms ++ z :: l).length := by simp
 have hlt : ms.length < (ms ++ z :: l).length := by simp
 have hl := h.len
 have hg : g < u.heap.size := (World.ownsRow.lt h.row g hv).2
 have hoff : ∀ y, bl p' y → y ≠ g := by
  intro y hy e
  rcases hbl y hy with h1 | h1
  ·exact h.off _ hlt y h1 (by rw [hv, e])
  ·omega
 have hat : ∀ i, i ≠ ms.length → vAt (V.set ms.length p') i = vAt V i := fun i hi => vAt_other _ _ _ _ hi
 have hat0 : vAt (V.set ms.length p') ms.length = p' := vAt_set _ _ _ (by omega)
 refine ⟨by rw [List.length_set, hl, hl2], by rw [hl2]; exact hrow, fun i hi => ?_, fun i j hi hj hij y hy hz => ?_, fun i hi y hy hv' => ?_⟩
 ·rw [hl2] at hi
  by_cases e : i = ms.length
  ·subst e
   rw [hat0, nAt_append_at]
   exact ⟨hown.to o3 (fun y hy => hoff y hy), hap⟩
  ·rw [hat i e, nAt_other ms z z' l e]
   exact ⟨((h.own i hi).1.to ho (fun y hy hz => h.apart i ms.length hi hlt e y hy hz)).to o3 (fun y hy e2 => h.off i hi y hy (by rw [hv, e2])), (h.own i hi).2⟩
 ·rw [hl2] at hi hj
  have key : ∀ i, i < (ms ++ z :: l).length → i ≠ ms.length → ∀ y, bl (vAt V i) y → ¬ bl p' y := by
   intro i hi e y hy hz
   rcases hbl y hz with h1 | h1
   ·exact h.apart i ms.length hi hlt e y hy h1
   ·have := (h.own i hi).1.lt hy; omega
  by_cases e : i = ms.length
  ·rw [e, hat0] at hy
   have hj' : j ≠ ms.length := by omega
   rw [hat j hj'] at hz
   exact key j hj hj' y hz hy
  ·rw [hat i e] at hy
   by_cases e2 : j = ms.length
   ·rw [e2, hat0] at hz; exact key i hi e y hy hz
   ·rw [hat j e2] at hz; exact h.apart i j hi hj hij y hy hz
 ·rw [hl2] at hi
  rw [hv] at hv'
  cases hv'
  by_cases e : i = ms.length
  ·rw [e, hat0] at hy; exact hoff _ hy rfl
  ·rw [hat i e] at hy; exact h.off i hi _ hy hv
theorem row_set {w : World} {E : TypeId} {s g n c m : Nat} {xs : List Value} (h : w.ownsRow 0 E s (.slice (some ⟨g, 0, none⟩) n c) m xs) (j : Nat) (u : Value) : (w.setCell ⟨g, j, none⟩ u).ownsRow 0 E s (.slice (some ⟨g, 0, none⟩) n c) m (xs.set j u) := by
 obtain ⟨k1, k2⟩ := h
 rcases k2 with ⟨k2, _⟩ | ⟨g', cap, cur, e, k3, k4, k5, k6, k7, k8⟩
 ·cases k2
 ·cases e
  refine ⟨by simpa using k1, .inr ⟨g, c, cur.setIfInBounds j u, rfl, k3, ?_, k5, k6, by simpa using k7, ?_⟩⟩
  ·simp [World.setCell, Array.getElem?_modify, k4]
  ·rw [← k8]
   simp only [Array.toList_setIfInBounds, List.take_set]
theorem set_same {xs : List Value} {j : Nat} {u : Value} (h : xs[j]? = some u) : xs.set j u = xs := by
 apply List.ext_getElem?
 intro i
 rw [List.getElem?_set]
 split
 ·rename_i e; subst e
  split
  ·exact h.symm
  ·rename_i hl; rw [List.getElem?_eq_none (by omega)]
 ·rfl
theorem ncs_set1 (V : List V3) (j : Nat) (x : Value) (h : j < V.length) : ncs (V.set j ((vAt V j).1, x, (vAt V j).2.2)) = (ncs V).set (j * 3 + 1) x := by
 obtain ⟨c0, c1, c2⟩ := ncs_at V j h
 rw [ncs_set _ _ _ h]
 simp only
 rw [set_same c0]
 apply set_same
 rw [List.getElem?_set, if_neg (by omega)]
 exact c2
theorem ncs_set2 (V : List V3) (j : Nat) (x : Value) (h : j < V.length) : ncs (V.set j ((vAt V j).1, (vAt V j).2.1, x)) = (ncs V).set (j * 3 + 2) x := by
 obtain ⟨c0, c1, c2⟩ := ncs_at V j h
 rw [ncs_set _ _ _ h]
 simp only
 rw [set_same c0, set_same c1]
theorem NA.addKey {u w2 : World} {g n c : Nat} {V : List V3} {ms l : List NB} {z : NB} {kx' : Value} {s : ByteArray} (h : NA u (.slice (some ⟨g, 0, none⟩) n c) V (ms ++ z :: l)) (hO : w2.ownsRow 0 9 1 kx' (z.keys.length + 1) (z.keys.map Value.string ++ [.string s])) (hg : u.grownBy w2 (vAt V ms.length).2.1.ownBlock)
  (ha : kx'.ownBlock = (vAt V ms.length).2.1.ownBlock ∨ ∃ k, kx'.ownBlock = some k ∧ u.heap.size ≤ k) :
  NA (w2.setCell ⟨g, ms.length * 3 + 1, none⟩ kx') (.slice (some ⟨g, 0, none⟩) n c) (V.set ms.length ((vAt V ms.length).1, kx', (vAt V ms.length).2.2)) (ms ++ ⟨z.ps, z.keys ++ [s], z.kids⟩ :: l) := by
 have hlt : ms.length < (ms ++ z :: l).length := by simp
 obtain ⟨h1, h2⟩ := h.own _ hlt
 rw [nAt_append_at] at h1
 have o : Only (fun y => (vAt V ms.length).2.1.ownBlock = some y) u w2 := only_of_grown hg (fun k e => e)
 have hl := h.len
 have hnew : ∀ y, kx'.ownBlock = some y → (vAt V ms.length).2.1.ownBlock = some y ∨ u.heap.size ≤ y := by
  intro y hy
  rcases ha with e | ⟨k, e, hk⟩
  ·exact .inl (e ▸ hy)
  ·rw [e] at hy; cases hy; exact .inr hk
 refine h.upd rfl (o.mono (fun y _ e => .inr (.inl e))) ⟨?_, ?_, ?_⟩ ?_ ?_ (only_set (R := fun y => y = g) rfl _) ?_
 ·exact own_kept h1.1 o (fun y e e2 => ((h2 y).1 e).1 e2)
 ·simpa using hO
 ·exact own_kept h1.2.2 o (fun y e e2 => (h2 y).2 e2 e)
 ·intro y
  refine ⟨fun e => ⟨fun e2 => ?_, ((h2 y).1 e).2⟩, fun e e2 => ?_⟩
  ·rcases hnew y e2 with h3 | h3
   ·exact ((h2 y).1 e).1 h3
   ·have := h1.lt (.inl e); omega
  ·rcases hnew y e with h3 | h3
   ·exact (h2 y).2 h3 e2
   ·have := h1.lt (.inr (.inr e2)); omega
 ·rintro y (e | e | e)
  ·exact .inl (.inl e)
  ·exact (hnew y e).imp (fun h => .inr (.inl h)) id
  ·exact .inl (.inr (.inr e))
 ·rw [ncs_set1 _ _ _ (by omega)]
  exact row_set (own_kept h.row o (fun y e e2 => h.off _ hlt y (.inr (.inl e2)) e)) _ _
theorem NA.addKid {u w2 : World} {g n c : Nat} {V : List V3} {ms l : List NB} {z : NB} {ki' : Value} {s : Int} (h : NA u (.slice (some ⟨g, 0, none⟩) n c) V (ms ++ z :: l)) (hO : w2.ownsRow 0 3 1 ki' (z.kids.length + 1) (z.kids.map (Value.int .i64) ++ [.int .i64 s])) (hg : u.grownBy w2 (vAt V ms.length).2.2.ownBlock)
  (ha : ki'.ownBlock = (vAt V ms.length).2.2.ownBlock ∨ ∃ k, ki'.ownBlock = some k ∧ u.heap.size ≤ k) :
  NA (w2.setCell ⟨g, ms.length * 3 + 2, none⟩ ki') (.slice (some ⟨g, 0, none⟩) n c) (V.set ms.length ((vAt V ms.length).1, (vAt V ms.length).2.1, ki')) (ms ++ ⟨z.ps, z.keys, z.kids ++ [s]⟩ :: l) := by
 have hlt : ms.length < (ms ++ z :: l).length := by simp
 obtain ⟨h1, h2⟩ := h.own _ hlt
 rw [nAt_append_at] at h1
 have o : Only (fun y => (vAt V ms.length).2.2.ownBlock = some y) u w2 := only_of_grown hg (fun k e => e)
 have hl := h.len
 have hnew : ∀ y, ki'.ownBlock = some y → (vAt V ms.length).2.2.ownBlock = some y ∨ u.heap.size ≤ y := by
  intro y hy
  rcases ha with e | ⟨k, e, hk⟩
  ·exact .inl (e ▸ hy)
  ·rw [e] at hy; cases hy; exact .inr hk
 refine h.upd rfl (o.mono (fun y _ e => .inr (.inr e))) ⟨?_, ?_, ?_⟩ ?_ ?_ (only_set (R := fun y => y = g) rfl _) ?_
 ·exact own_kept h1.1 o (fun y e e2 => ((h2 y).1 e).2 e2)
 ·exact own_kept h1.2.1 o (fun y e e2 => (h2 y).2 e e2)
 ·simpa using hO
 ·intro y
  refine ⟨fun e => ⟨((h2 y).1 e).1, fun e2 => ?_⟩, fun e e2 => ?_⟩
  ·rcases hnew y e2 with h3 | h3
   ·exact ((h2 y).1 e).2 h3
   ·have := h1.lt (.inl e); omega
  ·rcases hnew y e2 with h3 | h3
   ·exact (h2 y).2 e h3
   ·have := h1.lt (.inr (.inl e)); omega
 ·rintro y (e | e | e)
  ·exact .inl (.inl e)
  ·exact .inl (.inr (.inl e))
  ·exact (hnew y e).imp (fun h => .inr (.inr h)) id
 ·rw [ncs_set2 _ _ _ (by omega)]
  exact row_set (own_kept h.row o (fun y e e2 => h.off _ hlt y (.inr (.inr e2)) e)) _ _
structure NI (w wr : World) (v vv : Value) (V0 V : List V3) (ns L : List NB) (P : Nat → Prop) : Prop where
 na : NA wr vv V L
 old : ∀ i, i < ns.length → vAt V i = vAt V0 i
 new : ∀ i, ns.length ≤ i → i < L.length → ∀ y, bl (vAt V i) y → P y ∨ w.heap.size ≤ y
 only : Only (fun y => v.ownBlock = some y) w wr
 vb : ∀ y, vv.ownBlock = some y → v.ownBlock = some y ∨ w.heap.size ≤ y
open Go.RowKit
theorem ownD_base {w : World} {B B' : Nat} {e : TypeId} {size : Nat} {v : Value} {n : Nat} {xs : List Value} (h : w.ownsRow B e size v n xs) (hB : B' ≤ B) : w.ownsRow B' e size v n xs := by
 refine ⟨h.1, h.2.imp id ?_⟩
 rintro ⟨g, cap, cur, k1, k2, k3⟩
 exact ⟨g, cap, cur, k1, by omega, k3⟩
theorem bk_own {w : World} {g B : Nat} {T : TypeId} {xs : List Value} {n size : Nat} (h : Bk w g T xs) (hl : xs.length = n * size) (hn : n ≤ 1048576) (hB : B ≤ g) : w.ownsRow B T size (.slice (some ⟨g, 0, none⟩) n n) n xs :=
 ⟨hl, .inr ⟨g, n, xs.toArray, rfl, hB, h, Nat.le_refl _, by unfold maxLen; omega, by simpa using hl, by simp [← hl]⟩⟩
theorem bk_ob {w : World} {g B : Nat} {zs : List Int} (h : Bk w g 5 (zs.map (Value.int .u8))) (hn : zs.length ≤ 1048576) (hB : B ≤ g) : Ob w B (.slice (some ⟨g, 0, none⟩) zs.length zs.length) zs :=
 bk_own h (by simp) hn hB
theorem own_at {w : World} {B : Nat} {E : TypeId} {s : Nat} {a : Option Addr} {n c m : Nat} {xs : List Value} (h : w.ownsRow B E s (.slice a n c) m xs) : n = m ∧ n ≤ c ∧ c ≤ 9223372036854775807 ∧ (0 < n → ∃ g, a = some ⟨g, 0, none⟩ ∧ B ≤ g ∧ g < w.heap.size ∧ (∀ o, w.frozen? ⟨g, o, none⟩ = false) ∧ ∀ (j : Nat) u, xs[j]? = some u → w.cell? ⟨g, j, none⟩ = some u) := by
 have hc := fun g hg => World.ownsRow.cells h (g := g) hg
 have hlt := World.ownsRow.lt h
 rcases h.2 with ⟨e, e2⟩ | ⟨g, cap, cur, e, hB, hg, k5, k6, k7, k8⟩
 ·cases e; exact ⟨e2.symm, Nat.le_refl _, by omega, fun h => by omega⟩
 ·have e2 : a = some ⟨g, 0, none⟩ ∧ n = m ∧ c = cap := by cases e; exact ⟨rfl, rfl, rfl⟩
  obtain ⟨rfl, rfl, rfl⟩ := e2
  refine ⟨rfl, k5, by unfold maxLen at k6; omega, fun _ => ⟨g, rfl, hB, (hlt g rfl).2, fun o => by simp [World.frozen?, hg], fun j u hu => ?_⟩⟩
  have := hc g rfl j u hu
  rwa [Addr.add_lit, Nat.zero_add] at this
structure SOw (w : World) (B : Nat) (v : Value) (V : List Value) (ss : List (List Int)) : Prop where
 len : V.length = ss.length
 row : w.ownsRow B 102 1 v ss.length V
 own : ∀ i, i < ss.length → Ob w B (uAt V i) (shAt ss i) ∧ byt (shAt ss i)
 apart : ∀ i j, i < ss.length → j < ss.length → i ≠ j → ∀ y, (uAt V i).ownBlock = some y → (uAt V j).ownBlock ≠ some y
 off : ∀ i, i < ss.length → ∀ y, (uAt V i).ownBlock = some y → v.ownBlock ≠ some y
def sbl (v : Value) (V : List Value) (y : Nat) : Prop := v.ownBlock = some y ∨ ∃ i, i < V.length ∧ (uAt V i).ownBlock = some y
theorem SOw.to {w w' : World} {B : Nat} {R : Nat → Prop} {v : Value} {V : List Value} {ss : List (List Int)} (h : SOw w B v V ss) (ho : Only R w w') (hR : ∀ y, sbl v V y → ¬ R y) : SOw w' B v V ss :=
 ⟨h.len, own_kept h.row ho (fun y e => hR y (.inl e)), fun i hi => ⟨own_kept (h.own i hi).1 ho (fun y e => hR y (.inr ⟨i, by rw [h.len]; exact hi, e⟩)), (h.own i hi).2⟩, h.apart, h.off⟩
theorem SOw.below {w w' : World} {B : Nat} {v : Value} {V : List Value} {ss : List (List Int)} (h : SOw w B v V ss) (hb : Below w.heap.size w w') : SOw w' B v V ss := h.to (only_of_below hb (fun _ => False)) (fun _ _ h => h)
theorem SOw.base {w : World} {B B' : Nat} {v : Value} {V : List Value} {ss : List (List Int)} (h : SOw w B v V ss) (hB : B' ≤ B) : SOw w B' v V ss :=
 ⟨h.len, ownD_base h.row hB, fun i hi => ⟨ownD_base (h.own i hi).1 hB, (h.own i hi).2⟩, h.apart, h.off⟩
theorem SOw.lt {w : World} {B : Nat} {v : Value} {V : List Value} {ss : List (List Int)} (h : SOw w B v V ss) {y : Nat} (hy : sbl v V y) : B ≤ y ∧ y < w.heap.size := by
 rcases hy with e | ⟨i, hi, e⟩
 ·exact World.ownsRow.lt h.row y e
 ·exact World.ownsRow.lt (h.own i (by rw [← h.len]; exact hi)).1 y e
theorem SOw.shr {w : World} {B : Nat} {v : Value} {V : List Value} {ss : List (List Int)} (h : SOw w B v V ss) {S : Nat → Prop} (hS : ∀ y, sbl v V y → S y) : Shr w S v ss :=
 ⟨V, h.len, rw_own h.row (fun k e _ _ => hS k (.inl e)), fun i hi => by_ob (h.own i hi).1 (h.own i hi).2 (fun k e _ _ => hS k (.inr ⟨i, by rw [h.len]; exact hi, e⟩))⟩
theorem so_nil (w : World) (B : Nat) : SOw w B (.slice none 0 0) [] [] := ⟨rfl, World.ownsRow_nil _ _ _ _, fun i hi => by simp at hi, fun i j hi => by simp at hi, fun i hi => by simp at hi⟩
theorem uAt_left {V : List Value} {p : Value} {i : Nat} (h : i < V.length) : uAt (V ++ [p]) i = uAt V i := by simp [uAt, List.getElem?_append_left h]
theorem uAt_end (V : List Value) (p : Value) : uAt (V ++ [p]) V.length = p := by simp [uAt]
theorem shAt_left {V : List (List Int)} {p : List Int} {i : Nat} (h : i < V.length) : shAt (V ++ [p]) i = shAt V i := by simp [shAt, List.getElem?_append_left h]
theorem shAt_end (V : List (List Int)) (p : List Int) : shAt (V ++ [p]) V.length = p := by simp [shAt]
theorem uAt_set {V : List Value} {p : Value} {i : Nat} (h : i < V.length) : uAt (V.set i p) i = p := by simp [uAt, h]
theorem uAt_other {V : List Value} {p : Value} {i j : Nat} (h : i ≠ j) : uAt (V.set j p) i = uAt V i := by simp [uAt, Ne.symm h]
theorem SOw.push {u w2 : World} {B : Nat} {v v' : Value} {V : List Value} {ss : List (List Int)} (h : SOw u B v V ss) (x : List Int) (p : Value) (hx : Ob u B p x) (hxb : byt x) (hd : ∀ y, p.ownBlock = some y → ¬ sbl v V y)
  (ho : w2.ownsRow B 102 1 v' (ss.length + 1) (V ++ [p])) (hg : u.grownBy w2 v.ownBlock) (ha : v'.ownBlock = v.ownBlock ∨ v'.ownBlock = some u.heap.size) :
  SOw w2 B v' (V ++ [p]) (ss ++ [x]) := by
 have o : Only (fun y => v.ownBlock = some y) u w2 := only_of_grown hg (fun k e => e)
 have hl := h.len
 have hat : ∀ i, i < (ss ++ [x]).length → (i < ss.length ∧ uAt (V ++ [p]) i = uAt V i ∧ shAt (ss ++ [x]) i = shAt ss i) ∨ (i = ss.length ∧ uAt (V ++ [p]) i = p ∧ shAt (ss ++ [x]) i = x) := by
  intro i hi
  simp at hi
  by_cases e : i < ss.length
  ·exact .inl ⟨e, uAt_left (by omega), shAt_left e⟩
  ·obtain rfl : i = ss.length := by omega
   exact .inr ⟨rfl, by rw [← hl, uAt_end], shAt_end _ _⟩
 refine ⟨by simp [hl], by rw [List.length_append]; exact ho, fun i hi => ?_, fun i j hi hj hij y hy hz => ?_, fun i hi y hy hv => ?_⟩
 ·rcases hat i hi with ⟨e, e1, e2⟩ | ⟨e, e1, e2⟩
  ·rw [e1, e2]; exact ⟨own_kept (h.own i e).1 o (h.off i e), (h.own i e).2⟩
  ·rw [e1, e2]; exact ⟨own_kept hx o (fun y hy e => hd y hy (.inl e)), hxb⟩
 ·rcases hat i hi with ⟨e, e1, _⟩ | ⟨e, e1, _⟩
  ·rw [e1] at hy
   rcases hat j hj with ⟨d, d1, _⟩ | ⟨d, d1, _⟩
   ·rw [d1] at hz; exact h.apart i j e d hij y hy hz
   ·rw [d1] at hz; exact hd y hz (.inr ⟨i, by omega, hy⟩)
  ·rw [e1] at hy
   rcases hat j hj with ⟨d, d1, _⟩ | ⟨d, d1, _⟩
   ·rw [d1] at hz; exact hd y hy (.inr ⟨j, by omega, hz⟩)
   ·omega
 ·have : y < u.heap.size ∧ v.ownBlock ≠ some y := by
   rcases hat i hi with ⟨e, e1, _⟩ | ⟨e, e1, _⟩
   ·rw [e1] at hy; exact ⟨(World.ownsRow.lt (h.own i e).1 y hy).2, h.off i e y hy⟩
   ·rw [e1] at hy; exact ⟨(World.ownsRow.lt hx y hy).2, fun e => hd y hy (.inl e)⟩
  rcases ha with ha | ha
  ·rw [ha] at hv; exact this.2 hv
  ·rw [ha] at hv; cases hv; omega
structure WO (w : World) (B : Nat) (v : Value) (U : List (Int × Value)) (ds : List DW) : Prop where
 len : U.length = ds.length
 row : w.ownsRow B 103 2 v ds.length (wcs U)
 own : ∀ i, i < ds.length → (xAt U i).1 = (dwAt ds i).1 ∧ Ob w B (xAt U i).2 (dwAt ds i).2 ∧ byt (dwAt ds i).2
 apart : ∀ i j, i < ds.length → j < ds.length → i ≠ j → ∀ y, (xAt U i).2.ownBlock = some y → (xAt U j).2.ownBlock ≠ some y
 off : ∀ i, i < ds.length → ∀ y, (xAt U i).2.ownBlock = some y → v.ownBlock ≠ some y
def wbl (v : Value) (U : List (Int × Value)) (y : Nat) : Prop := v.ownBlock = some y ∨ ∃ i, i < U.length ∧ (xAt U i).2.ownBlock = some y
theorem WO.to {w w' : World} {B : Nat} {R : Nat → Prop} {v : Value} {U : List (Int × Value)} {ds : List DW} (h : WO w B v U ds) (ho : Only R w w') (hR : ∀ y, wbl v U y → ¬ R y) : WO w' B v U ds :=
 ⟨h.len, own_kept h.row ho (fun y e => hR y (.inl e)), fun i hi => ⟨(h.own i hi).1, own_kept (h.own i hi).2.1 ho (fun y e => hR y (.inr ⟨i, by rw [h.len]; exact hi, e⟩)), (h.own i hi).2.2⟩, h.apart, h.off⟩
theorem WO.below {w w' : World} {B : Nat} {v : Value} {U : List (Int × Value)} {ds : List DW} (h : WO w B v U ds) (hb : Below w.heap.size w w') : WO w' B v U ds := h.to (only_of_below hb (fun _ => False)) (fun _ _ h => h)
theorem WO.base {w : World} {B B' : Nat} {v : Value} {U : List (Int × Value)} {ds : List DW} (h : WO w B v U ds) (hB : B' ≤ B) : WO w B' v U ds :=
 ⟨h.len, ownD_base h.row hB, fun i hi => ⟨(h.own i hi).1, ownD_base (h.own i hi).2.1 hB, (h.own i hi).2.2⟩, h.apart, h.off⟩
theorem WO.lt {w : World} {B : Nat} {v : Value} {U : List (Int × Value)} {ds : List DW} (h : WO w B v U ds) {y : Nat} (hy : wbl v U y) : B ≤ y ∧ y < w.heap.size := by
 rcases hy with e | ⟨i, hi, e⟩
 ·exact World.ownsRow.lt h.row y e
 ·exact World.ownsRow.lt (h.own i (by rw [← h.len]; exact hi)).2.1 y e
theorem WO.wrr {w : World} {B : Nat} {v : Value} {U : List (Int × Value)} {ds : List DW} (h : WO w B v U ds) {S : Nat → Prop} (hS : ∀ y, wbl v U y → S y) : Wrr w S v ds :=
 ⟨U, h.len, rw_own h.row (fun k e _ _ => hS k (.inl e)), fun i hi => ⟨(h.own i hi).1, by_ob (h.own i hi).2.1 (h.own i hi).2.2 (fun k e _ _ => hS k (.inr ⟨i, by rw [h.len]; exact hi, e⟩))⟩⟩
theorem wo_nil (w : World) (B : Nat) : WO w B (.slice none 0 0) [] [] := ⟨rfl, World.ownsRow_nil _ _ _ _, fun i hi => by simp at hi, fun i j hi => by simp at hi, fun i hi => by simp at hi⟩
theorem xAt_left {U : List (Int × Value)} {p : Int × Value} {i : Nat} (h : i < U.length) : xAt (U ++ [p]) i = xAt U i := by simp [xAt, List.getElem?_append_left h]
theorem xAt_end (U : List (Int × Value)) (p : Int × Value) : xAt (U ++ [p]) U.length = p := by simp [xAt]
theorem wAt_left {U : List DW} {p : DW} {i : Nat} (h : i < U.length) : dwAt (U ++ [p]) i = dwAt U i := by simp [dwAt, List.getElem?_append_left h]
theorem wAt_end (U : List DW) (p : DW) : dwAt (U ++ [p]) U.length = p := by simp [dwAt]
theorem xAt_set {V : List (Int × Value)} {p : Int × Value} {i : Nat} (h : i < V.length) : xAt (V.set i p) i = p := by simp [xAt, h]
theorem xAt_other {V : List (Int × Value)} {p : Int × Value} {i j : Nat} (h : i ≠ j) : xAt (V.set j p) i = xAt V i := by simp [xAt, Ne.symm h]
theorem WO.push {u w2 : World} {B : Nat} {v v' : Value} {U : List (Int × Value)} {ds : List DW} (h : WO u B v U ds) (t : Int) (x : List Int) (p : Value) (hx : Ob u B p x) (hxb : byt x) (hd : ∀ y, p.ownBlock = some y → ¬ wbl v U y)
  (ho : w2.ownsRow B 103 2 v' (ds.length + 1) (wcs U ++ [.int .i64 t, p])) (hg : u.grownBy w2 v.ownBlock) (ha : v'.ownBlock = v.ownBlock ∨ v'.ownBlock = some u.heap.size) :
  WO w2 B v' (U ++ [(t, p)]) (ds ++ [(t, x)]) := by
 have o : Only (fun y => v.ownBlock = some y) u w2 := only_of_grown hg (fun k e => e)
 have hl := h.len
 have hat : ∀ i, i < (ds ++ [(t, x)]).length → (i < ds.length ∧ xAt (U ++ [(t, p)]) i = xAt U i ∧ dwAt (ds ++ [(t, x)]) i = dwAt ds i) ∨ (i = ds.length ∧ xAt (U ++ [(t, p)]) i = (t, p) ∧ dwAt (ds ++ [(t, x)]) i = (t, x)) := by
  intro i hi
  simp at hi
  by_cases e : i < ds.length
  ·exact .inl ⟨e, xAt_left (by omega), wAt_left e⟩
  ·obtain rfl : i = ds.length := by omega
   exact .inr ⟨rfl, by rw [← hl, xAt_end], wAt_end _ _⟩
 refine ⟨by simp [hl], by rw [List.length_append, wcs_append]; exact ho, fun i hi => ?_, fun i j hi hj hij y hy hz => ?_, fun i hi y hy hv => ?_⟩
 ·rcases hat i hi with ⟨e, e1, e2⟩ | ⟨e, e1, e2⟩
  ·rw [e1, e2]; exact ⟨(h.own i e).1, own_kept (h.own i e).2.1 o (h.off i e), (h.own i e).2.2⟩
  ·rw [e1, e2]; exact ⟨rfl, own_kept hx o (fun y hy e => hd y hy (.inl e)), hxb⟩
 ·rcases hat i hi with ⟨e, e1, _⟩ | ⟨e, e1, _⟩
  ·rw [e1] at hy
   rcases hat j hj with ⟨d, d1, _⟩ | ⟨d, d1, _⟩
   ·rw [d1] at hz; exact h.apart i j e d hij y hy hz
   ·rw [d1] at hz; exact hd y hz (.inr ⟨i, by omega, hy⟩)
  ·rw [e1] at hy
   rcases hat j hj with ⟨d, d1, _⟩ | ⟨d, d1, _⟩
   ·rw [d1] at hz; exact hd y hy (.inr ⟨j, by omega, hz⟩)
   ·omega
 ·have : y < u.heap.size ∧ v.ownBlock ≠ some y := by
   rcases hat i hi with ⟨e, e1, _⟩ | ⟨e, e1, _⟩
   ·rw [e1] at hy; exact ⟨(World.ownsRow.lt (h.own i e).2.1 y hy).2, h.off i e y hy⟩
   ·rw [e1] at hy; exact ⟨(World.ownsRow.lt hx y hy).2, fun e => hd y hy (.inl e)⟩
  rcases ha with ha | ha
  ·rw [ha] at hv; exact this.2 hv
  ·rw [ha] at hv; cases hv; omega
structure DO (w : World) (B : Nat) (sv : Value) (V : List Value) (dv : Value) (U : List (Int × Value)) (d : DK) : Prop where
 hs : SOw w B sv V d.sh
 hd : WO w B dv U d.dw
 ap : ∀ y, sbl sv V y → ¬ wbl dv U y
def dbl (sv : Value) (V : List Value) (dv : Value) (U : List (Int × Value)) (y : Nat) : Prop := sbl sv V y ∨ wbl dv U y
theorem DO.to {w w' : World} {B : Nat} {R : Nat → Prop} {sv dv : Value} {V : List Value} {U : List (Int × Value)} {d : DK} (h : DO w B sv V dv U d) (ho : Only R w w') (hR : ∀ y, dbl sv V dv U y → ¬ R y) : DO w' B sv V dv U d := ⟨h.hs.to ho (fun y e => hR y (.inl e)), h.hd.to ho (fun y e => hR y (.inr e)), h.ap⟩
theorem DO.below {w w' : World} {B : Nat} {sv dv : Value} {V : List Value} {U : List (Int × Value)} {d : DK} (h : DO w B sv V dv U d) (hb : Below w.heap.size w w') : DO w' B sv V dv U d := ⟨h.hs.below hb, h.hd.below hb, h.ap⟩
theorem DO.base {w : World} {B B' : Nat} {sv dv : Value} {V : List Value} {U : List (Int × Value)} {d : DK} (h : DO w B sv V dv U d) (hB : B' ≤ B) : DO w B' sv V dv U d := ⟨h.hs.base hB, h.hd.base hB, h.ap⟩
theorem DO.lt {w : World} {B : Nat} {sv dv : Value} {V : List Value} {U : List (Int × Value)} {d : DK} (h : DO w B sv V dv U d) {y : Nat} (hy : dbl sv V dv U y) : B ≤ y ∧ y < w.heap.size := hy.elim h.hs.lt h.hd.lt
theorem DO.dk {w : World} {B : Nat} {sa da : Option Addr} {sn sc dn dc : Nat} {V : List Value} {U : List (Int × Value)} {d : DK} (h : DO w B (.slice sa sn sc) V (.slice da dn dc) U d) {S : Nat → Prop} (hS : ∀ y, dbl (.slice sa sn sc) V (.slice da dn dc) U y → S y) : Dk w S sa sn sc da dn dc d := ⟨h.hs.shr (fun y e => hS y (.inl e)), h.hd.wrr (fun y e => hS y (.inr e))⟩
theorem do_nil (w : World) (B : Nat) : DO w B (.slice none 0 0) [] (.slice none 0 0) [] ⟨[], []⟩ := ⟨so_nil w B, wo_nil w B, fun y hy => by
 rcases hy with e | ⟨i, hi, _⟩
 ·cases e
 ·simp at hi⟩
open Go.RowKit
set_option linter.unusedVariables false
theorem shtOk_iff (l : List Int) : shtOk l = true ↔ l.length = 0 ∨ l.length = 512 := by simp only [shtOk, Bool.or_eq_true, decide_eq_true_eq]
theorem wrtOk_iff (n : Nat) (p : DW) : wrtOk n p = true ↔ 0 ≤ p.1 ∧ p.1 < (n : Int) ∧ p.2.length = 512 := by simp only [wrtOk, Bool.and_eq_true, decide_eq_true_eq, and_assoc]
theorem dkOk_iff (d : DK) : dkOk d = true ↔ 2 ≤ d.sh.length ∧ d.sh.length ≤ 400 ∧ d.dw.length ≤ 500 ∧ (∀ i, i < d.sh.length → shtOk (shAt d.sh i) = true) ∧ ∀ i, i < d.dw.length → wrtOk d.sh.length (dwAt d.dw i) = true := by
 simp only [dkOk, Bool.and_eq_true, decide_eq_true_eq, and_assoc, allD_at (l := d.sh) (z := []), allD_at (l := d.dw) (z := ((0, []) : DW)), shAt, dwAt]
theorem dk_no {d : DK} (h : ¬ (2 ≤ d.sh.length ∧ d.sh.length ≤ 400 ∧ d.dw.length ≤ 500)) : dkOk d = false := by
 rw [Bool.eq_false_iff]
 intro e
 have := (dkOk_iff d).1 e
 exact h ⟨this.1, this.2.1, this.2.2.1⟩
theorem dk_no_sheet {d : DK} {i : Nat} (hi : i < d.sh.length) (h : ¬ shtOk (shAt d.sh i) = true) : dkOk d = false := by
 rw [Bool.eq_false_iff]
 intro e
 exact h (((dkOk_iff d).1 e).2.2.2.1 i hi)
theorem dk_no_write {d : DK} {i : Nat} (hi : i < d.dw.length) (h : ¬ wrtOk d.sh.length (dwAt d.dw i) = true) : dkOk d = false := by
 rw [Bool.eq_false_iff]
 intro e
 exact h (((dkOk_iff d).1 e).2.2.2.2 i hi)
set_option maxHeartbeats 4000000 in
theorem specDiskOk_any (S : Nat → Prop) (sa : Option Addr) (sn sc : Nat) (da : Option Addr) (dn dc : Nat) (d : DK) (w : World) (h : Dk w S sa sn sc da dn dc d) :
  Calls Tryz.prog 23 #[.agg #[.slice sa sn sc, .slice da dn dc]] w fun e w' => e = .returned (.bool (dkOk d)) ∧ Below w.heap.size w w' := by
 have HS := hid h.hs
 have HD := hid h.hd
 obtain ⟨ns, hsc, hsc'⟩ := h.hs.len
 obtain ⟨nd, hdc, hdc'⟩ := h.hd.len
 have HNS := hid ns
 have HND := hid nd
 have HB0 : Hid (Below w.heap.size w (w.alloc (.cells #[.slice sa sn sc, .slice da dn dc] 30))) := below_new (Below.refl _ _)
 have KP : Hid (Bk (w.alloc (.cells #[.slice sa sn sc, .slice da dn dc] 30)) w.heap.size 30 [.slice sa sn sc, .slice da dn dc]) := Bk.new w 30 [.slice sa sn sc, .slice da dn dc]
 clear h
 have c0 := KP.out.cell (j := 0) rfl
 have c1 := KP.out.cell (j := 1) rfl
 by_cases q1 : sn < 2
 ·have q1' : (sn : Int) < 2 := by omega
  have HF := hid (dk_no (d := d) (by omega))
  clear ns nd
  go_enter Tryz.func23, Tryz.ntmps23
  go_wp2
  go_ret
  exact ⟨by rw [HF.out]; rfl, HB0.out⟩
 ·have q1' : ¬ (sn : Int) < 2 := by omega
  by_cases q2 : 400 < sn
  ·have q2' : (400 : Int) < (sn : Int) := by omega
   have HF := hid (dk_no (d := d) (by omega))
   clear ns nd
   go_enter Tryz.func23, Tryz.ntmps23
   go_wp2
   go_ret
   exact ⟨by rw [HF.out]; rfl, HB0.out⟩
  ·have q2' : ¬ (400 : Int) < (sn : Int) := by omega
   by_cases q3 : 500 < dn
   ·have q3' : (500 : Int) < (dn : Int) := by omega
    have HF := hid (dk_no (d := d) (by omega))
    clear ns nd
    go_enter Tryz.func23, Tryz.ntmps23
    go_wp2
    go_ret
    exact ⟨by rw [HF.out]; rfl, HB0.out⟩
   ·have q3' : ¬ (500 : Int) < (dn : Int) := by omega
    have HQ : Hid (2 ≤ d.sh.length ∧ d.sh.length ≤ 400 ∧ d.dw.length ≤ 500) := ⟨by omega, by omega, by omega⟩
    clear ns nd
    go_enter Tryz.func23, Tryz.ntmps23
    go_wp2_with fail
    clear c0 c1
    go_loopw [26] (fun i wr => ∃ k : Nat, k ≤ sn ∧ i = .int .i64 k ∧ Hid (∀ i, i < k → shtOk (shAt d.sh i) = true) ∧ Hid (Bk wr w.heap.size 30 [.slice sa sn sc, .slice da dn dc]) ∧ Hid (Below w.heap.size w wr)) (fun i _ => sn - (intOf i).toNat)
    case atStart => exact ⟨0, Nat.zero_le _, rfl, fun i hi => absurd hi (Nat.not_lt_zero _), KP.out, HB0.out⟩
    case round =>
     obtain ⟨k, hk, rfl, HT, HK, HB⟩ := hrel
     clear KP HB0
     by_cases hlt : k < sn
     ·have hlt' : (k : Int) < (sn : Int) := by omega
      obtain ⟨b, off, rfl, _, hbw, hcell⟩ := (HS.out.below HB.out).at (by omega)
      obtain ⟨ap, np, cp, m0, hp⟩ := hcell k hlt
      have l0 := hp.len.1
      have hkl : k < d.sh.length := by rw [← HNS.out]; exact hlt
      have HB1 : Hid (Below w.heap.size w (wr.alloc (.cells #[.slice ap np cp] 102))) := HB.out.alloc HB.out.size _
      have HK1 := hid (HK.out.alloc (.cells #[.slice ap np cp] 102))
      clear hcell hbw hp
      by_cases n0 : np = 0
      ·have HT1 : Hid (∀ i, i < k + 1 → shtOk (shAt d.sh i) = true) := by
        intro i hi
        by_cases e : i = k
        ·subst e; exact (shtOk_iff _).2 (by omega)
        ·exact HT.out i (by omega)
       have n0' : ((np : Int) != 0) = false := by simp; omega
       subst n0
       clear l0 HT
       go_wp2
       go_roundw
       case rel => exact ⟨k + 1, by omega, by go_num, HT1.out, HK1.out, HB1.out⟩
       case measure => simp [intOf]; omega
      ·have n0' : ((np : Int) != 0) = true := by simp; omega
       have n0'' : ¬ (np : Int) = 0 := by omega
       by_cases n5 : np = 512
       ·have HT1 : Hid (∀ i, i < k + 1 → shtOk (shAt d.sh i) = true) := by
         intro i hi
         by_cases e : i = k
         ·subst e; exact (shtOk_iff _).2 (by omega)
         ·exact HT.out i (by omega)
        subst n5
        clear l0 HT
        go_wp2
        go_roundw
        case rel => exact ⟨k + 1, by omega, by go_num, HT1.out, HK1.out, HB1.out⟩
        case measure => simp [intOf]; omega
       ·have n5' : ((np : Int) != 512) = true := by simp; omega
        have n5'' : ¬ (np : Int) = 512 := by omega
        have HF := hid (dk_no_sheet hkl (fun e => by have := (shtOk_iff _).1 e; omega))
        clear l0 hkl HT
        go_wp2
        go_ret
        exact ⟨by rw [HF.out]; rfl, HB1.out⟩
     ·have hkn : k = sn := by omega
      have HT0 : Hid (∀ i, i < d.sh.length → shtOk (shAt d.sh i) = true) := by rw [← HNS.out, ← hkn]; exact HT.out
      clear HT hkn
      have c1 := HK.out.cell (j := 1) rfl
      go_wp2_with fail
      clear c1
      go_loopw [44] (fun i wr => ∃ k : Nat, k ≤ dn ∧ i = .int .i64 k ∧ Hid (∀ i, i < k → wrtOk d.sh.length (dwAt d.dw i) = true) ∧ Hid (Bk wr w.heap.size 30 [.slice sa sn sc, .slice da dn dc]) ∧ Hid (Below w.heap.size w wr)) (fun i _ => dn - (intOf i).toNat)
      case atStart => exact ⟨0, Nat.zero_le _, rfl, fun i hi => absurd hi (Nat.not_lt_zero _), HK.out, HB.out⟩
      case round =>
       clear HK HB
       obtain ⟨j, hj, rfl, HT, HK, HB⟩ := hrel
       by_cases hlt : j < dn
       ·have hlt' : (j : Int) < (dn : Int) := by omega
        obtain ⟨b, off, rfl, _, hbw, hcell⟩ := (HD.out.below HB.out).at (by omega)
        obtain ⟨ap, np, cp, mt, m0, hp⟩ := hcell j hlt
        have l0 := hp.len.1
        have hkl : j < d.dw.length := by rw [← HND.out]; exact hlt
        generalize htt : (dwAt d.dw j).1 = tt at *
        have HB1 : Hid (Below w.heap.size w (wr.alloc (.cells #[.int .i64 tt, .slice ap np cp] 103))) := HB.out.alloc HB.out.size _
        have HK1 := hid (HK.out.alloc (.cells #[.int .i64 tt, .slice ap np cp] 103))
        have c0 := HK1.out.cell (j := 0) rfl
        have HX : Hid (wrtOk d.sh.length (dwAt d.dw j) = true ↔ 0 ≤ tt ∧ tt < (sn : Int) ∧ np = 512) := by
         show _ ↔ _
         rw [wrtOk_iff, htt, ← l0, HNS.out]
        clear hcell hbw hp htt l0
        by_cases t0 : tt < 0
        ·have HF := hid (dk_no_write hkl (fun e => by have := HX.out.1 e; omega))
         clear hkl HT HX
         go_wp2
         go_ret
         exact ⟨by rw [HF.out]; rfl, HB1.out⟩
        ·by_cases t1 : (sn : Int) ≤ tt
         ·have HF := hid (dk_no_write hkl (fun e => by have := HX.out.1 e; omega))
          clear hkl HT HX
          go_wp2
          go_ret
          exact ⟨by rw [HF.out]; rfl, HB1.out⟩
         ·by_cases n5 : np = 512
          ·have HT1 : Hid (∀ i, i < j + 1 → wrtOk d.sh.length (dwAt d.dw i) = true) := by
            intro i hi
            by_cases e : i = j
            ·subst e; exact HX.out.2 ⟨by omega, by omega, n5⟩
            ·exact HT.out i (by omega)
           subst n5
           clear HT HX hkl
           go_wp2
           go_roundw
           case rel => exact ⟨j + 1, by omega, by go_num, HT1.out, HK1.out, HB1.out⟩
           case measure => simp [intOf]; omega
          ·have n5' : ((np : Int) != 512) = true := by simp; omega
           have n5'' : ¬ (np : Int) = 512 := by omega
           have HF := hid (dk_no_write hkl (fun e => by have := HX.out.1 e; omega))
           clear hkl HT HX
           go_wp2
           go_ret
           exact ⟨by rw [HF.out]; rfl, HB1.out⟩
       ·have hjn : j = dn := by omega
        have HF : Hid (dkOk d = true) := (dkOk_iff d).2 ⟨HQ.out.1, HQ.out.2.1, HQ.out.2.2, HT0.out, by rw [← HND.out, ← hjn]; exact HT.out⟩
        clear HT HT0 hjn
        go_wp2
        go_ret
        exact ⟨by rw [HF.out]; rfl, HB.out⟩
def szOk (n : Int) : Bool := decide (2 ≤ n) && decide (n ≤ 400)
set_option maxHeartbeats 1000000 in
theorem sizeOk_any (n : Int) (w : World) : Calls Tryz.prog 95 #[.int .i64 n] w fun e w' => e = .returned (.bool (szOk n)) ∧ w' = w := by
 by_cases q1 : n < 2
 ·have HF : Hid (szOk n = false) := by show _ = _; rw [szOk, decide_eq_false (show ¬ 2 ≤ n by omega)]; rfl
  have q1' : ¬ 2 ≤ n := by omega
  go_enter Tryz.func95, Tryz.ntmps95
  go_wp2
  go_ret
  exact ⟨by rw [HF.out]; rfl, rfl⟩
 ·have q1' : 2 ≤ n := by omega
  by_cases q2 : n ≤ 400
  ·have HF : Hid (szOk n = true) := by show _ = _; rw [szOk, decide_eq_true q1', decide_eq_true q2]; rfl
   go_enter Tryz.func95, Tryz.ntmps95
   go_wp2
   go_ret
   exact ⟨by rw [HF.out]; rfl, rfl⟩
  ·have HF : Hid (szOk n = false) := by show _ = _; rw [szOk, decide_eq_false q2]; simp
   go_enter Tryz.func95, Tryz.ntmps95
   go_wp2
   go_ret
   exact ⟨by rw [HF.out]; rfl, rfl⟩
set_option maxHeartbeats 1000000 in
theorem shtOk_any (a : Option Addr) (n c : Nat) (zs : List Int) (w : World) (h : n = zs.length) (hn : n ≤ 9223372036854775807) :
  Calls Tryz.prog 112 #[.slice a n c] w fun e w' => e = .returned (.bool (shtOk zs)) ∧ w' = w := by
 by_cases h0 : n = 0
 ·have HV : Hid (shtOk zs = true) := (shtOk_iff zs).2 (by omega)
  subst h0
  clear h
  go_enter Tryz.func112, Tryz.ntmps112
  go_wp2
  go_ret
  exact ⟨by rw [HV.out]; rfl, rfl⟩
 ·have h0' : ((n : Int) == 0) = false := by simp; omega
  have h0'' : ¬ (n : Int) = 0 := by omega
  by_cases h5 : n = 512
  ·have HV : Hid (shtOk zs = true) := (shtOk_iff zs).2 (by omega)
   subst h5
   clear h
   go_enter Tryz.func112, Tryz.ntmps112
   go_wp2
   go_ret
   exact ⟨by rw [HV.out]; rfl, rfl⟩
  ·have h5' : ((n : Int) == 512) = false := by simp; omega
   have h5'' : ¬ (n : Int) = 512 := by omega
   have HV : Hid (shtOk zs = false) := by
    show _ = false
    rw [Bool.eq_false_iff]
    intro e
    have := (shtOk_iff zs).1 e
    omega
   clear h
   go_enter Tryz.func112, Tryz.ntmps112
   go_wp2
   go_ret
   exact ⟨by rw [HV.out]; rfl, rfl⟩
set_option maxHeartbeats 1000000 in
theorem writeOk_any (t : Int) (a : Option Addr) (n c : Nat) (zs : List Int) (m : Nat) (w : World) (h : n = zs.length) (hn : n ≤ 9223372036854775807) :
  Calls Tryz.prog 113 #[.agg #[.int .i64 t, .slice a n c], .int .i64 (m : Int)] w fun e w' => e = .returned (.bool (wrtOk m (t, zs))) ∧ Below w.heap.size w w' := by
 have HB0 : Hid (Below w.heap.size w (w.alloc (.cells #[.int .i64 t, .slice a n c] 103))) := below_new (Below.refl _ _)
 have HN := hid h
 clear h
 by_cases q1 : t < 0
 ·have q1' : ¬ 0 ≤ t := by omega
  have HV : Hid (wrtOk m (t, zs) = false) := by
   show _ = false
   rw [Bool.eq_false_iff]
   intro e
   exact q1' ((wrtOk_iff _ _).1 e).1
  go_enter Tryz.func113, Tryz.ntmps113
  go_wp2
  go_ret
  exact ⟨by rw [HV.out]; rfl, HB0.out⟩
 ·have q1' : 0 ≤ t := by omega
  by_cases q2 : t < (m : Int)
  ·by_cases h5 : n = 512
   ·have HV : Hid (wrtOk m (t, zs) = true) := (wrtOk_iff _ _).2 ⟨q1', q2, by rw [← HN.out]; exact h5⟩
    subst h5
    go_enter Tryz.func113, Tryz.ntmps113
    go_wp2
    go_ret
    exact ⟨by rw [HV.out]; rfl, HB0.out⟩
   ·have h5' : ((n : Int) == 512) = false := by simp; omega
    have h5'' : ¬ (n : Int) = 512 := by omega
    have HV : Hid (wrtOk m (t, zs) = false) := by
     show _ = false
     rw [Bool.eq_false_iff]
     intro e
     exact h5 (HN.out.trans ((wrtOk_iff _ _).1 e).2.2)
    go_enter Tryz.func113, Tryz.ntmps113
    go_wp2
    go_ret
    exact ⟨by rw [HV.out]; rfl, HB0.out⟩
  ·have HV : Hid (wrtOk m (t, zs) = false) := by
    show _ = false
    rw [Bool.eq_false_iff]
    intro e
    exact q2 ((wrtOk_iff _ _).1 e).2.1
   go_enter Tryz.func113, Tryz.ntmps113
   go_wp2
   go_ret
   exact ⟨by rw [HV.out]; rfl, HB0.out⟩
set_option maxHeartbeats 4000000 in
theorem implDiskOk_any (S : Nat → Prop) (sa : Option Addr) (sn sc : Nat) (da : Option Addr) (dn dc : Nat) (d : DK) (w : World) (h : Dk w S sa sn sc da dn dc d) :
  Calls Tryz.prog 74 #[.agg #[.slice sa sn sc, .slice da dn dc]] w fun e w' => e = .returned (.bool (dkOk d)) ∧ Below w.heap.size w w' := by
 have HS := hid h.hs
 have HD := hid h.hd
 obtain ⟨ns, hsc, hsc'⟩ := h.hs.len
 obtain ⟨nd, hdc, hdc'⟩ := h.hd.len
 have HNS := hid ns
 have HND := hid nd
 have HB0 : Hid (Below w.heap.size w (w.alloc (.cells #[.slice sa sn sc, .slice da dn dc] 30))) := below_new (Below.refl _ _)
 have KP : Hid (Bk (w.alloc (.cells #[.slice sa sn sc, .slice da dn dc] 30)) w.heap.size 30 [.slice sa sn sc, .slice da dn dc]) := Bk.new w 30 [.slice sa sn sc, .slice da dn dc]
 clear h
 have c0 := KP.out.cell (j := 0) rfl
 have c1 := KP.out.cell (j := 1) rfl
 have HZ : Hid (szOk (sn : Int) = true ↔ 2 ≤ sn ∧ sn ≤ 400) := by
  show _ ↔ _
  simp only [szOk, Bool.and_eq_true, decide_eq_true_eq]
  omega
 clear ns nd
 go_enter Tryz.func74, Tryz.ntmps74
 go_wp2_with fail
 refine (sizeOk_any (sn : Int) _).mono ?_
 rintro e w0 ⟨rfl, rfl⟩
 cases hz : szOk (sn : Int) with
 | false =>
  have HF := hid (dk_no (d := d) (fun e => by have ns := HNS.out; have := HZ.out.2 (by omega); rw [hz] at this; cases this))
  clear hz HZ
  go_wp2
  go_ret
  exact ⟨by rw [HF.out]; rfl, HB0.out⟩
 | true =>
  have hz2 := HZ.out.1 hz
  by_cases q3 : 500 < dn
  ·have q3' : (500 : Int) < (dn : Int) := by omega
   have HF := hid (dk_no (d := d) (by have nd := HND.out; omega))
   clear hz HZ hz2
   go_wp2
   go_ret
   exact ⟨by rw [HF.out]; rfl, HB0.out⟩
  ·have q3' : ¬ (500 : Int) < (dn : Int) := by omega
   have HQ : Hid (2 ≤ d.sh.length ∧ d.sh.length ≤ 400 ∧ d.dw.length ≤ 500) := by have ns := HNS.out; have nd := HND.out; exact ⟨by omega, by omega, by omega⟩
   clear hz HZ hz2
   go_wp2_with fail
   clear c0 c1
   go_loopw [23] (fun i wr => ∃ k : Nat, k ≤ sn ∧ i = .int .i64 k ∧ Hid (∀ i, i < k → shtOk (shAt d.sh i) = true) ∧ Hid (Bk wr w.heap.size 30 [.slice sa sn sc, .slice da dn dc]) ∧ Hid (Below w.heap.size w wr)) (fun i _ => sn - (intOf i).toNat)
   case atStart => exact ⟨0, Nat.zero_le _, rfl, fun i hi => absurd hi (Nat.not_lt_zero _), KP.out, HB0.out⟩
   case round =>
    obtain ⟨k, hk, rfl, HT, HK, HB⟩ := hrel
    clear KP HB0
    by_cases hlt : k < sn
    ·have hlt' : (k : Int) < (sn : Int) := by omega
     obtain ⟨b, off, rfl, _, hbw, hcell⟩ := (HS.out.below HB.out).at (by omega)
     obtain ⟨ap, np, cp, m0, hp⟩ := hcell k hlt
     have hkl : k < d.sh.length := by rw [← HNS.out]; exact hlt
     have HB1 : Hid (Below w.heap.size w (wr.alloc (.cells #[.slice ap np cp] 102))) := HB.out.alloc HB.out.size _
     have HK1 := hid (HK.out.alloc (.cells #[.slice ap np cp] 102))
     have HC := hid (shtOk_any ap np cp (shAt d.sh k) (wr.alloc (.cells #[.slice ap np cp] 102)) hp.len.1 (by have := hp.len.2; omega))
     have HT1 : Hid (shtOk (shAt d.sh k) = true → ∀ i, i < k + 1 → shtOk (shAt d.sh i) = true) := by
      intro hh i hi
      by_cases e : i = k
      ·subst e; exact hh
      ·exact HT.out i (by omega)
     have HF : Hid (shtOk (shAt d.sh k) = false → dkOk d = false) := fun e => dk_no_sheet hkl (by rw [e]; exact Bool.false_ne_true)
     clear hcell hbw hp hkl HT
     generalize shtOk (shAt d.sh k) = Z at *
     go_wp2_with fail
     refine HC.out.mono ?_
     rintro e w1 ⟨rfl, rfl⟩
     cases Z with
     | true =>
      have HT2 := hid (HT1.out rfl)
      clear HT1 HF
      go_wp2
      go_roundw
      case rel => exact ⟨k + 1, by omega, by go_num, HT2.out, HK1.out, HB1.out⟩
      case measure => simp [intOf]; omega
     | false =>
      have HF2 := hid (HF.out rfl)
      clear HT1 HF
      go_wp2
      go_ret
      exact ⟨by rw [HF2.out]; rfl, HB1.out⟩
    ·have hkn : k = sn := by omega
     have HT0 : Hid (∀ i, i < d.sh.length → shtOk (shAt d.sh i) = true) := by rw [← HNS.out, ← hkn]; exact HT.out
     clear HT hkn
     have c1 := HK.out.cell (j := 1) rfl
     go_wp2_with fail
     clear c1
     go_loopw [35] (fun i wr => ∃ k : Nat, k ≤ dn ∧ i = .int .i64 k ∧ Hid (∀ i, i < k → wrtOk d.sh.length (dwAt d.dw i) = true) ∧ Hid (Below w.heap.size w wr)) (fun i _ => dn - (intOf i).toNat)
     case atStart => exact ⟨0, Nat.zero_le _, rfl, fun i hi => absurd hi (Nat.not_lt_zero _), HB.out⟩
     case round =>
      clear HK HB
      obtain ⟨j, hj, rfl, HT, HB⟩ := hrel
      by_cases hlt : j < dn
      ·have hlt' : (j : Int) < (dn : Int) := by omega
       obtain ⟨b, off, rfl, _, hbw, hcell⟩ := (HD.out.below HB.out).at (by omega)
       obtain ⟨ap, np, cp, mt, m0, hp⟩ := hcell j hlt
       have hkl : j < d.dw.length := by rw [← HND.out]; exact hlt
       generalize htt : (dwAt d.dw j).1 = tt at *
       have HB1 : Hid (Below w.heap.size w (wr.alloc (.cells #[.int .i64 tt, .slice ap np cp] 103))) := HB.out.alloc HB.out.size _
       have HC := hid (writeOk_any tt ap np cp (dwAt d.dw j).2 sn (wr.alloc (.cells #[.int .i64 tt, .slice ap np cp] 103)) hp.len.1 (by have := hp.len.2; omega))
       have hpe : (tt, (dwAt d.dw j).2) = dwAt d.dw j := by rw [← htt]
       rw [hpe, HNS.out] at HC
       have HT1 : Hid (wrtOk d.sh.length (dwAt d.dw j) = true → ∀ i, i < j + 1 → wrtOk d.sh.length (dwAt d.dw i) = true) := by
        intro hh i hi
        by_cases e : i = j
        ·subst e; exact hh
        ·exact HT.out i (by omega)
       have HF : Hid (wrtOk d.sh.length (dwAt d.dw j) = false → dkOk d = false) := fun e => dk_no_write hkl (by rw [e]; exact Bool.false_ne_true)
       rw [← HNS.out] at HC
       clear hcell hbw hp htt hpe HT hkl
       rw [HNS.out] at HC
       generalize wrtOk d.sh.length (dwAt d.dw j) = Z at *
       rw [← HNS.out] at HC
       go_wp2_with fail
       refine HC.out.mono ?_
       rintro e w1 ⟨rfl, hb1⟩
       have HB2 := hid (HB1.out.trans (hb1.mono HB1.out.size))
       clear hb1
       cases Z with
       | true =>
        have HT2 := hid (HT1.out rfl)
        clear HT1 HF
        go_wp2
        go_roundw
        case rel => exact ⟨j + 1, by omega, by go_num, HT2.out, HB2.out⟩
        case measure => simp [intOf]; omega
       | false =>
        have HF2 := hid (HF.out rfl)
        clear HT1 HF
        go_wp2
        go_ret
        exact ⟨by rw [HF2.out]; rfl, HB2.out⟩
      ·have hjn : j = dn := by omega
       have HF : Hid (dkOk d = true) := (dkOk_iff d).2 ⟨HQ.out.1, HQ.out.2.1, HQ.out.2.2, HT0.out, by rw [← HND.out, ← hjn]; exact HT.out⟩
       clear HT HT0 hjn
       go_wp2
       go_ret
       exact ⟨by rw [HF.out]; rfl, HB.out⟩
open Go.RowKit
theorem load_sht {w : World} {g : Nat} {x : Value} (c0 : w.cell? ⟨g, 0, none⟩ = some x) : (loadVar 102 ⟨g, 0, none⟩).run Tryz.prog w = .ok (.agg #[x]) w := by go_simp
theorem results_sht {fn : Func} {p : Tmp} (h : fn.results = #[.cell p 102]) (tmps : Array Value) (w : World) (g : Nat) {x : Value} (hp : tmps.getD p undef = .pointer (some ⟨g, 0, none⟩))
  (c0 : w.cell? ⟨g, 0, none⟩ = some x) : (results fn tmps).run Tryz.prog w = .ok (.agg #[x]) w := by
 have hp' : tmps[p]?.getD undef = .pointer (some ⟨g, 0, none⟩) := by simpa using hp
 simp [results, h, hp', asAddr, load_sht c0]
theorem load_wrt {w : World} {g : Nat} {x y : Value} (c0 : w.cell? ⟨g, 0, none⟩ = some x) (c1 : w.cell? ⟨g, 1, none⟩ = some y) : (loadVar 103 ⟨g, 0, none⟩).run Tryz.prog w = .ok (.agg #[x, y]) w := by go_simp
theorem results_wrt {fn : Func} {p : Tmp} (h : fn.results = #[.cell p 103]) (tmps : Array Value) (w : World) (g : Nat) {x y : Value} (hp : tmps.getD p undef = .pointer (some ⟨g, 0, none⟩))
  (c0 : w.cell? ⟨g, 0, none⟩ = some x) (c1 : w.cell? ⟨g, 1, none⟩ = some y) : (results fn tmps).run Tryz.prog w = .ok (.agg #[x, y]) w := by
 have hp' : tmps[p]?.getD undef = .pointer (some ⟨g, 0, none⟩) := by simpa using hp
 simp [results, h, hp', asAddr, load_wrt c0 c1]
theorem load_dsk {w : World} {g : Nat} {x y : Value} (c0 : w.cell? ⟨g, 0, none⟩ = some x) (c1 : w.cell? ⟨g, 1, none⟩ = some y) : (loadVar 30 ⟨g, 0, none⟩).run Tryz.prog w = .ok (.agg #[x, y]) w := by go_simp
theorem results_dsk {fn : Func} {p : Tmp} (h : fn.results = #[.cell p 30]) (tmps : Array Value) (w : World) (g : Nat) {x y : Value} (hp : tmps.getD p undef = .pointer (some ⟨g, 0, none⟩))
  (c0 : w.cell? ⟨g, 0, none⟩ = some x) (c1 : w.cell? ⟨g, 1, none⟩ = some y) : (results fn tmps).run Tryz.prog w = .ok (.agg #[x, y]) w := by
 have hp' : tmps[p]?.getD undef = .pointer (some ⟨g, 0, none⟩) := by simpa using hp
 simp [results, h, hp', asAddr, load_dsk c0 c1]
theorem infoSheetI : (Tryz.prog.info? 102).map (fun i => (i.zero, i.size, i.bytes)) = some (some (.agg #[.slice none 0 0]), 1, 24) := by kernel_rfl
theorem infoWriteI : (Tryz.prog.info? 103).map (fun i => (i.zero, i.size, i.bytes)) = some (some (.agg #[.int .i64 0, .slice none 0 0]), 2, 32) := by kernel_rfl
theorem made_sheets (n : Nat) : madeCells (Value.agg #[.slice none 0 0]).cells (n * 1) = (List.replicate n (Value.slice none 0 0)).toArray := by
 apply Array.ext
 ·simp [madeCells]
 ·intro i h1 h2; simp [madeCells, Value.cells, Nat.mod_one]
theorem made_writes (n : Nat) : madeCells (Value.agg #[.int .i64 0, .slice none 0 0]).cells (n * 2) = (wcs (List.replicate n (0, .slice none 0 0))).toArray := by
 apply Array.ext
 ·simp [madeCells, wcs_length]
 ·intro i h1 h2
  simp [wcs_length] at h2
  simp only [madeCells, List.getElem_toArray]
  obtain ⟨c0, c1⟩ := wcs_at (List.replicate n ((0, .slice none 0 0) : Int × Value)) (i / 2) (by simp; omega)
  simp [xAt, show i / 2 < n by omega] at c0 c1
  have : i % 2 = 0 ∨ i % 2 = 1 := by omega
  rcases this with e | e
  ·rw [show i / 2 * 2 = i by omega] at c0
   rw [(List.getElem?_eq_some_iff.1 c0).2]
   simp [Value.cells, e]
  ·rw [show i / 2 * 2 + 1 = i by omega] at c1
   rw [(List.getElem?_eq_some_iff.1 c1).2]
   simp [Value.cells, e]
set_option maxHeartbeats 2000000 in
theorem toSheet_any (a : Option Addr) (n c : Nat) (zs : List Int) (w : World) (h : Rd w a n c zs) :
  Calls Tryz.prog 72 #[.agg #[.slice a n c]] w fun e w' => ∃ g, e = .returned (.agg #[.slice (some ⟨g, 0, none⟩) n n]) ∧ w.heap.size ≤ g ∧ Bk w' g 5 (zs.map (Value.int .u8)) ∧ Below w.heap.size w w' := by
 have H0 := hid h
 clear h
 have HB0 : Hid (Below w.heap.size w (((w.alloc (.cells #[.slice a n c] 98)).alloc (.cells #[.slice none 0 0] 102)).alloc (.cells #[.slice none 0 0] 102))) := below_new (below_new (below_new (Below.refl _ _)))
 have KR : Hid (Bk (((w.alloc (.cells #[.slice a n c] 98)).alloc (.cells #[.slice none 0 0] 102)).alloc (.cells #[.slice none 0 0] 102)) (w.heap.size + 1) 102 [.slice none 0 0]) := by
  have := (Bk.new (w.alloc (.cells #[.slice a n c] 98)) 102 [.slice none 0 0]).alloc (.cells #[.slice none 0 0] 102)
  show Bk _ _ _ _
  simpa using this
 have KO : Hid (Bk (((w.alloc (.cells #[.slice a n c] 98)).alloc (.cells #[.slice none 0 0] 102)).alloc (.cells #[.slice none 0 0] 102)) (w.heap.size + 1 + 1) 102 [.slice none 0 0]) := by
  have := Bk.new ((w.alloc (.cells #[.slice a n c] 98)).alloc (.cells #[.slice none 0 0] 102)) 102 [.slice none 0 0]
  show Bk _ _ _ _
  simpa using this
 have HZ : Hid ((((w.alloc (.cells #[.slice a n c] 98)).alloc (.cells #[.slice none 0 0] 102)).alloc (.cells #[.slice none 0 0] 102)).heap.size = w.heap.size + 3) := by show _ = _; simp
 go_enter Tryz.func72, Tryz.ntmps72
 go_wp2_with fail
 refine (toByteS_any a n c zs _ (H0.out.kept HB0.out)).mono ?_
 generalize ((w.alloc (.cells #[.slice a n c] 98)).alloc (.cells #[.slice none 0 0] 102)).alloc (.cells #[.slice none 0 0] 102) = W at *
 rintro e w1 ⟨rfl, hw1⟩
 have K0 : Bk w1 W.heap.size 5 (zs.map (Value.int .u8)) := by rw [hw1]; exact Bk.new _ _ _
 have hb1 : Below W.heap.size W w1 := by rw [hw1]; exact below_new (Below.refl _ _)
 have HB1 := hid (HB0.out.trans (hb1.mono HB0.out.size))
 have KR1 := hid (KR.out.below hb1)
 have KO1 := hid (KO.out.below hb1)
 have K01 := hid K0
 clear hb1 K0 KR KO HB0 hw1
 generalize W.heap.size = g at *
 have c0 := KO1.out.cell (j := 0) rfl
 have f0 := KO1.out.free 0
 have r0 := KR1.out.cell (j := 0) rfl
 have q0 := KR1.out.free 0
 go_wp2
 try simp only [Exit.inBlock, Exit.then]
 refine bodyPost_ret (v := .agg #[.slice (some ⟨g, 0, none⟩) n n]) ?_ rfl ?_
 ·refine results_sht rfl _ _ _ rfl ?_
  ·go_simp
 ·have HZ' := HZ.out
  refine ⟨g, rfl, by omega, ?_, (HB1.out.setCell (by show w.heap.size ≤ w.heap.size + 1 + 1; omega) _).setCell (by show w.heap.size ≤ w.heap.size + 1; omega) _⟩
  exact (K01.out.setOther (by omega) _ _).setOther (by omega) _ _
set_option maxHeartbeats 2000000 in
theorem toWrite_any (t : Int) (a : Option Addr) (n c : Nat) (zs : List Int) (w : World) (h : Rd w a n c zs) :
  Calls Tryz.prog 73 #[.agg #[.int .i64 t, .slice a n c]] w fun e w' => ∃ g, e = .returned (.agg #[.int .i64 t, .slice (some ⟨g, 0, none⟩) n n]) ∧ w.heap.size ≤ g ∧ Bk w' g 5 (zs.map (Value.int .u8)) ∧ Below w.heap.size w w' := by
 have H0 := hid h
 clear h
 have HB2 : Hid (Below w.heap.size w (((w.alloc (.cells #[.int .i64 t, .slice a n c] 101)).alloc (.cells #[.int .i64 0, .slice none 0 0] 103)).alloc (.cells #[.int .i64 t, .slice none 0 0] 103))) := below_new (below_new (below_new (Below.refl _ _)))
 have KP2 : Hid (Bk (((w.alloc (.cells #[.int .i64 t, .slice a n c] 101)).alloc (.cells #[.int .i64 0, .slice none 0 0] 103)).alloc (.cells #[.int .i64 t, .slice none 0 0] 103)) w.heap.size 101 [.int .i64 t, .slice a n c]) := ((Bk.new w 101 [.int .i64 t, .slice a n c]).alloc _).alloc _
 have KR2 : Hid (Bk (((w.alloc (.cells #[.int .i64 t, .slice a n c] 101)).alloc (.cells #[.int .i64 0, .slice none 0 0] 103)).alloc (.cells #[.int .i64 t, .slice none 0 0] 103)) (w.heap.size + 1) 103 [.int .i64 0, .slice none 0 0]) := by
  have := (Bk.new (w.alloc (.cells #[.int .i64 t, .slice a n c] 101)) 103 [.int .i64 0, .slice none 0 0]).alloc (.cells #[.int .i64 t, .slice none 0 0] 103)
  show Bk _ _ _ _
  simpa using this
 have KO2 : Hid (Bk (((w.alloc (.cells #[.int .i64 t, .slice a n c] 101)).alloc (.cells #[.int .i64 0, .slice none 0 0] 103)).alloc (.cells #[.int .i64 t, .slice none 0 0] 103)) (w.heap.size + 1 + 1) 103 [.int .i64 t, .slice none 0 0]) := by
  have := Bk.new ((w.alloc (.cells #[.int .i64 t, .slice a n c] 101)).alloc (.cells #[.int .i64 0, .slice none 0 0] 103)) 103 [.int .i64 t, .slice none 0 0]
  show Bk _ _ _ _
  simpa using this
 have HZ2 : Hid ((((w.alloc (.cells #[.int .i64 t, .slice a n c] 101)).alloc (.cells #[.int .i64 0, .slice none 0 0] 103)).alloc (.cells #[.int .i64 t, .slice none 0 0] 103)).heap.size = w.heap.size + 3) := by show _ = _; simp
 go_enter Tryz.func73, Tryz.ntmps73
 go_wp2_with fail
 refine (toByteS_any a n c zs _ (H0.out.kept HB2.out)).mono ?_
 generalize ((w.alloc (.cells #[.int .i64 t, .slice a n c] 101)).alloc (.cells #[.int .i64 0, .slice none 0 0] 103)).alloc (.cells #[.int .i64 t, .slice none 0 0] 103) = W2 at *
 rintro e w1 ⟨rfl, hw1⟩
 have K0 : Bk w1 W2.heap.size 5 (zs.map (Value.int .u8)) := by rw [hw1]; exact Bk.new _ _ _
 have hb1 : Below W2.heap.size W2 w1 := by rw [hw1]; exact below_new (Below.refl _ _)
 have HB1 := hid (HB2.out.trans (hb1.mono HB2.out.size))
 have KR1 := hid (KR2.out.below hb1)
 have KO1 := hid (KO2.out.below hb1)
 have K01 := hid K0
 clear hb1 K0 KR2 KO2 HB2 hw1 KP2
 generalize W2.heap.size = g at *
 have c0 := KO1.out.cell (j := 0) rfl
 have c1 := KO1.out.cell (j := 1) rfl
 have f1 := KO1.out.free 1
 have r0 := KR1.out.cell (j := 0) rfl
 have r1 := KR1.out.cell (j := 1) rfl
 have q0 := KR1.out.free 0
 have q1 := KR1.out.free 1
 go_wp2
 try simp only [Exit.inBlock, Exit.then]
 refine bodyPost_ret (v := .agg #[.int .i64 t, .slice (some ⟨g, 0, none⟩) n n]) ?_ rfl ?_
 ·refine results_wrt rfl _ _ _ rfl ?_ ?_
  ·go_simp
  ·go_simp
 ·have HZ' := HZ2.out
  refine ⟨g, rfl, by omega, ?_, ((HB1.out.setCell (by show w.heap.size ≤ w.heap.size + 1 + 1; omega) _).setCell (by show w.heap.size ≤ w.heap.size + 1; omega) _).setCell (by show w.heap.size ≤ w.heap.size + 1; omega) _⟩
  exact ((K01.out.setOther (by omega) _ _).setOther (by omega) _ _).setOther (by omega) _ _
open Go.RowKit
set_option linter.unusedVariables false
structure SL (w : World) (B k : Nat) (V : List Value) (ss : List (List Int)) : Prop where
 own : ∀ i, i < k → Ob w B (uAt V i) (shAt ss i) ∧ byt (shAt ss i)
 apart : ∀ i j, i < k → j < k → i ≠ j → ∀ y, (uAt V i).ownBlock = some y → (uAt V j).ownBlock ≠ some y
theorem sl_zero (w : World) (B : Nat) (V : List Value) (ss : List (List Int)) : SL w B 0 V ss := ⟨fun i hi => absurd hi (Nat.not_lt_zero _), fun i j hi => absurd hi (Nat.not_lt_zero _)⟩
theorem SL.put {w w1 w2 : World} {B k g0 : Nat} {V : List Value} {ss : List (List Int)} {p : Value} (h : SL w B k V ss) (hb : Below w.heap.size w w1) (hp : Ob w1 w.heap.size p (shAt ss k)) (hby : byt (shAt ss k)) (o : Only (fun y => y = g0) w1 w2) (hg : g0 < B) (hB : B ≤ w.heap.size) (hk : k < V.length) : SL w2 B (k + 1) (V.set k p) ss := by
 have hnew : ∀ y, p.ownBlock = some y → w.heap.size ≤ y := fun y e => (World.ownsRow.lt hp y e).1
 have hold : ∀ i, i < k → ∀ y, (uAt V i).ownBlock = some y → B ≤ y ∧ y < w.heap.size := fun i hi y e => World.ownsRow.lt (h.own i hi).1 y e
 refine ⟨fun i hi => ?_, fun i j hi hj hij y hy hz => ?_⟩
 ·by_cases e : i = k
  ·subst e
   rw [uAt_set hk]
   exact ⟨ownD_base (own_kept hp o (fun y e e2 => by have := hnew y e; omega)) hB, hby⟩
  ·rw [uAt_other e]
   exact ⟨own_kept (own_kept (h.own i (by omega)).1 (only_of_below hb (fun _ => False)) (fun _ _ h => h)) o (fun y e e2 => by have := (hold i (by omega) y e).1; omega), (h.own i (by omega)).2⟩
 ·by_cases e : i = k
  ·subst e
   rw [uAt_set hk] at hy
   rw [uAt_other (Ne.symm hij)] at hz
   have := hnew y hy
   have := (hold j (by omega) y hz).2
   omega
  ·rw [uAt_other e] at hy
   by_cases e2 : j = k
   ·subst e2
    rw [uAt_set hk] at hz
    have := hnew y hz
    have := (hold i (by omega) y hy).2
    omega
   ·rw [uAt_other e2] at hz
    exact h.apart i j (by omega) (by omega) hij y hy hz
theorem SL.so {w : World} {B g n : Nat} {V : List Value} {ss : List (List Int)} (h : SL w B n V ss) (hn : n = ss.length) (hl : V.length = n) (hk : Bk w g 102 V) (hg : g < B) (hn2 : n ≤ 1048576) : SOw w g (.slice (some ⟨g, 0, none⟩) n n) V ss := by
 subst hn
 refine ⟨hl, bk_own hk (by omega) hn2 (Nat.le_refl _), fun i hi => ⟨ownD_base (h.own i hi).1 (by omega), (h.own i hi).2⟩, h.apart, fun i hi y hy e => ?_⟩
 have := (World.ownsRow.lt (h.own i hi).1 y hy).1
 have e' : g = y := by simpa [Value.ownBlock] using e
 omega
theorem uAt_map (U : List (Int × Value)) (i : Nat) : uAt (U.map Prod.snd) i = (xAt U i).2 := by
 simp only [uAt, xAt, List.getElem?_map]
 cases U[i]? <;> rfl
theorem shAt_map (ds : List DW) (i : Nat) : shAt (ds.map Prod.snd) i = (dwAt ds i).2 := by
 simp only [shAt, dwAt, List.getElem?_map]
 cases ds[i]? <;> rfl
theorem SL.wo {w : World} {B g n : Nat} {U : List (Int × Value)} {ds : List DW} (h : SL w B n (U.map Prod.snd) (ds.map Prod.snd)) (ht : ∀ i, i < n → (xAt U i).1 = (dwAt ds i).1) (hn : n = ds.length) (hl : U.length = n) (hk : Bk w g 103 (wcs U)) (hg : g < B) (hn2 : n ≤ 1048576) : WO w g (.slice (some ⟨g, 0, none⟩) n n) U ds := by
 subst hn
 refine ⟨hl, bk_own hk (by rw [wcs_length, hl]) hn2 (Nat.le_refl _), fun i hi => ?_, fun i j hi hj hij y hy => ?_, fun i hi y hy e => ?_⟩
 ·have := h.own i hi
  rw [uAt_map, shAt_map] at this
  exact ⟨ht i hi, ownD_base this.1 (by omega), this.2⟩
 ·have := h.apart i j hi hj hij y
  rw [uAt_map, uAt_map] at this
  exact this hy
 ·have := (h.own i hi).1
  rw [uAt_map] at this
  have := (World.ownsRow.lt this y hy).1
  have e' : g = y := by simpa [Value.ownBlock] using e
  omega
set_option maxHeartbeats 4000000 in
theorem toSheetS_at (S : Nat → Prop) (a : Option Addr) (n c : Nat) (ss : List (List Int)) (w : World) (h : Shr w S (.slice a n c) ss) (hnm : n ≤ 1048576) (hsm : ∀ i, i < ss.length → (shAt ss i).length ≤ 1048576) :
  Calls Tryz.prog 28 #[.slice a n c] w fun e w' => ∃ V, e = .returned (.slice (some ⟨w.heap.size, 0, none⟩) n n) ∧ SOw w' w.heap.size (.slice (some ⟨w.heap.size, 0, none⟩) n n) V ss ∧ Below w.heap.size w w' := by
 have HN := hid h.len.1
 have H0 := hid h
 have HSM := hid hsm
 clear h hsm
 have hmk := run_make_n (P := Tryz.prog) 27 102 (.agg #[.slice none 0 0]) 1 24 Tryz.underlying27 infoSheetI n (by omega) (by omega)
 rw [made_sheets] at hmk
 have h63 : n ≤ 9223372036854775807 := by omega
 have HV0 : Hid ((List.replicate n (Value.slice none 0 0)).length = n) := by show _ = _; simp
 generalize List.replicate n (Value.slice none 0 0) = V0 at *
 go_enter Tryz.func28, Tryz.ntmps28
 go_wp2
 go_loopw [4] (fun i wr => ∃ (k : Nat) (V : List Value), k ≤ n ∧ i = .int .i64 k ∧ Hid (V.length = n) ∧ Hid (Bk wr w.heap.size 102 V) ∧ Hid (SL wr (w.heap.size + 1) k V ss) ∧ Hid (Below w.heap.size w wr)) (fun i _ => n - (intOf i).toNat)
 case atStart => exact ⟨0, V0, Nat.zero_le _, rfl, HV0.out, Bk.new _ _ _, sl_zero _ _ _ _, (Below.refl _ _).alloc (Nat.le_refl _) _⟩
 case round =>
  obtain ⟨k, V, hk, rfl, HV, HK, HA, HB⟩ := hrel
  by_cases hlt : k < n
  ·have hlt' : (k : Int) < (n : Int) := by omega
   have HP := hid (H0.out.below HB.out)
   obtain ⟨b, off, rfl, _, hbw, hcell⟩ := HP.out.at (by omega)
   obtain ⟨ap, np, cp, c0, hp⟩ := hcell k hlt
   have l0 := hid hp.len.1
   have b0 : np ≤ 1048576 := by rw [l0.out]; exact HSM.out k (by rw [← HN.out]; exact hlt)
   have HPp := hid (hp.rd b0)
   have HBY := hid hp.2
   have HWL : Hid (w.heap.size < wr.heap.size) := HK.out.lt
   clear hcell hbw HP hp
   go_wp2_with fail
   refine (toSheet_any ap np cp (shAt ss k) wr HPp.out).mono ?_
   rintro e w1 ⟨g0, rfl, e0, k0, hb1⟩
   have HK1 := hid (HK.out.below hb1)
   have HB1 := hid (HB.out.trans (hb1.mono HB.out.size))
   have HOB : Hid (Ob w1 wr.heap.size (.slice (some ⟨g0, 0, none⟩) np np) (shAt ss k)) := by
    have := bk_ob (B := wr.heap.size) k0 (by rw [← l0.out]; exact b0) e0
    rw [← l0.out] at this
    exact this
   have HBW := hid hb1
   clear hb1 HB k0 e0 c0 HPp
   have c0 := HK1.out.cell (j := k) (uAt_some (by rw [HV.out]; exact hlt))
   have f0 := HK1.out.free k
   have HK2 := hid (HK1.out.set k (.slice (some ⟨g0, 0, none⟩) np np))
   have HB2 : Hid (Below w.heap.size w (w1.setCell ⟨w.heap.size, k, none⟩ (.slice (some ⟨g0, 0, none⟩) np np))) := HB1.out.setCell (Nat.le_refl _) _
   have HA2 : Hid (SL (w1.setCell ⟨w.heap.size, k, none⟩ (.slice (some ⟨g0, 0, none⟩) np np)) (w.heap.size + 1) (k + 1) (V.set k (.slice (some ⟨g0, 0, none⟩) np np)) ss) :=
    HA.out.put HBW.out HOB.out HBY.out (only_set (R := fun y => y = w.heap.size) rfl _) (Nat.lt_succ_self _) HWL.out (by rw [HV.out]; exact hlt)
   have HV2 : Hid ((V.set k (.slice (some ⟨g0, 0, none⟩) np np)).length = n) := by show _ = _; rw [List.length_set]; exact HV.out
   clear HA HB1 HK1 HOB HBW
   generalize uAt V k = o0 at c0
   go_wp2
   go_roundw
   case rel => exact ⟨k + 1, _, by omega, by go_num, HV2.out, HK2.out, HA2.out, HB2.out⟩
   case measure => simp [intOf]; omega
  ·have hk' : k = n := by omega
   have HR : Hid (SOw wr w.heap.size (.slice (some ⟨w.heap.size, 0, none⟩) n n) V ss) := by
    subst hk'
    exact HA.out.so HN.out HV.out HK.out (Nat.lt_succ_self _) hnm
   clear hk'
   go_wp2
   go_ret
   exact ⟨V, rfl, HR.out, HB.out⟩
set_option maxHeartbeats 4000000 in
theorem toWriteS_at (S : Nat → Prop) (a : Option Addr) (n c : Nat) (ds : List DW) (w : World) (h : Wrr w S (.slice a n c) ds) (hnm : n ≤ 1048576) (hsm : ∀ i, i < ds.length → (dwAt ds i).2.length ≤ 1048576) :
  Calls Tryz.prog 29 #[.slice a n c] w fun e w' => ∃ U, e = .returned (.slice (some ⟨w.heap.size, 0, none⟩) n n) ∧ WO w' w.heap.size (.slice (some ⟨w.heap.size, 0, none⟩) n n) U ds ∧ Below w.heap.size w w' := by
 have HN := hid h.len.1
 have H0 := hid h
 have HSM := hid hsm
 clear h hsm
 have hmk := run_make_n (P := Tryz.prog) 28 103 (.agg #[.int .i64 0, .slice none 0 0]) 2 32 Tryz.underlying28 infoWriteI n (by omega) (by omega)
 rw [made_writes] at hmk
 have h63 : n ≤ 9223372036854775807 := by omega
 have HV0 : Hid ((List.replicate n ((0, .slice none 0 0) : Int × Value)).length = n) := by show _ = _; simp
 generalize List.replicate n ((0, .slice none 0 0) : Int × Value) = V0 at *
 go_enter Tryz.func29, Tryz.ntmps29
 go_wp2
 go_loopw [4] (fun i wr => ∃ (k : Nat) (V : List (Int × Value)), k ≤ n ∧ i = .int .i64 k ∧ Hid (V.length = n) ∧ Hid (Bk wr w.heap.size 103 (wcs V)) ∧ Hid (SL wr (w.heap.size + 1) k (V.map Prod.snd) (ds.map Prod.snd)) ∧ Hid (∀ i, i < k → (xAt V i).1 = (dwAt ds i).1) ∧ Hid (Below w.heap.size w wr)) (fun i _ => n - (intOf i).toNat)
 case atStart => exact ⟨0, V0, Nat.zero_le _, rfl, HV0.out, Bk.new _ _ _, sl_zero _ _ _ _, fun i hi => absurd hi (Nat.not_lt_zero _), (Below.refl _ _).alloc (Nat.le_refl _) _⟩
 case round =>
  obtain ⟨k, V, hk, rfl, HV, HK, HA, HT, HB⟩ := hrel
  by_cases hlt : k < n
  ·have hlt' : (k : Int) < (n : Int) := by omega
   have HP := hid (H0.out.below HB.out)
   obtain ⟨b, off, rfl, _, hbw, hcell⟩ := HP.out.at (by omega)
   obtain ⟨ap, np, cp, ct, c0, hp⟩ := hcell k hlt
   have l0 := hid hp.len.1
   have b0 : np ≤ 1048576 := by rw [l0.out]; exact HSM.out k (by rw [← HN.out]; exact hlt)
   have HPp := hid (hp.rd b0)
   have HBY := hid hp.2
   have HWL : Hid (w.heap.size < wr.heap.size) := HK.out.lt
   have HSA := hid (shAt_map ds k)
   clear hcell hbw HP hp
   generalize htt : (dwAt ds k).1 = tt at *
   have HTT := hid htt
   clear htt
   go_wp2_with fail
   refine (toWrite_any tt ap np cp (dwAt ds k).2 wr HPp.out).mono ?_
   rintro e w1 ⟨g0, rfl, e0, k0, hb1⟩
   have HK1 := hid (HK.out.below hb1)
   have HB1 := hid (HB.out.trans (hb1.mono HB.out.size))
   have HOB : Hid (Ob w1 wr.heap.size (.slice (some ⟨g0, 0, none⟩) np np) (dwAt ds k).2) := by
    have := bk_ob (B := wr.heap.size) k0 (by rw [← l0.out]; exact b0) e0
    rw [← l0.out] at this
    exact this
   have HBW := hid hb1
   clear hb1 HB k0 e0 c0 ct HPp
   obtain ⟨d0, d1⟩ := wcs_at V k (by rw [HV.out]; exact hlt)
   have c0 := HK1.out.cell d0
   have c1 := HK1.out.cell d1
   have f0 := HK1.out.free (k * 2)
   have f1 := HK1.out.free (k * 2 + 1)
   clear d0 d1
   have HK2 : Hid (Bk ((w1.setCell ⟨w.heap.size, k * 2, none⟩ (.int .i64 tt)).setCell ⟨w.heap.size, k * 2 + 1, none⟩ (.slice (some ⟨g0, 0, none⟩) np np)) w.heap.size 103 (wcs (V.set k (tt, .slice (some ⟨g0, 0, none⟩) np np)))) := by
    show Bk _ _ _ _
    rw [wcs_set _ _ _ (by rw [HV.out]; exact hlt)]
    exact (HK1.out.set _ _).set _ _
   have HB2 : Hid (Below w.heap.size w ((w1.setCell ⟨w.heap.size, k * 2, none⟩ (.int .i64 tt)).setCell ⟨w.heap.size, k * 2 + 1, none⟩ (.slice (some ⟨g0, 0, none⟩) np np))) := (HB1.out.setCell (Nat.le_refl _) _).setCell (Nat.le_refl _) _
   have HA2 : Hid (SL ((w1.setCell ⟨w.heap.size, k * 2, none⟩ (.int .i64 tt)).setCell ⟨w.heap.size, k * 2 + 1, none⟩ (.slice (some ⟨g0, 0, none⟩) np np)) (w.heap.size + 1) (k + 1) ((V.set k (tt, .slice (some ⟨g0, 0, none⟩) np np)).map Prod.snd) (ds.map Prod.snd)) := by
    show SL _ _ _ _ _
    rw [List.map_set]
    exact HA.out.put HBW.out (by rw [HSA.out]; exact HOB.out) (by rw [HSA.out]; exact HBY.out) ((only_set (R := fun y => y = w.heap.size) rfl _).trans (only_set (R := fun y => y = w.heap.size) rfl _)) (Nat.lt_succ_self _) HWL.out (by rw [List.length_map, HV.out]; exact hlt)
   have HT2 : Hid (∀ i, i < k + 1 → (xAt (V.set k (tt, .slice (some ⟨g0, 0, none⟩) np np)) i).1 = (dwAt ds i).1) := by
    intro i hi
    by_cases e : i = k
    ·subst e; rw [xAt_set (by rw [HV.out]; exact hlt), HTT.out]
    ·rw [xAt_other e]; exact HT.out i (by omega)
   have HV2 : Hid ((V.set k (tt, .slice (some ⟨g0, 0, none⟩) np np)).length = n) := by show _ = _; rw [List.length_set]; exact HV.out
   clear HA HB1 HK1 HOB HBW HT
   generalize (xAt V k).1 = o0 at c0
   generalize (xAt V k).2 = o1 at c1
   go_wp2
   go_roundw
   case rel => exact ⟨k + 1, _, by omega, by go_num, HV2.out, HK2.out, HA2.out, HT2.out, HB2.out⟩
   case measure => simp [intOf]; omega
  ·have hk' : k = n := by omega
   have HR : Hid (WO wr w.heap.size (.slice (some ⟨w.heap.size, 0, none⟩) n n) V ds) := by
    subst hk'
    exact HA.out.wo HT.out HN.out HV.out HK.out (Nat.lt_succ_self _) hnm
   clear hk'
   go_wp2
   go_ret
   exact ⟨V, rfl, HR.out, HB.out⟩
set_option maxHeartbeats 2000000 in
theorem toDisk_any (S : Nat → Prop) (sa : Option Addr) (sn sc : Nat) (da : Option Addr) (dn dc : Nat) (d : DK) (w : World) (h : Dk w S sa sn sc da dn dc d) (h1 : sn ≤ 1048576) (h2 : dn ≤ 1048576) (hsm : smallD d) :
  Calls Tryz.prog 8 #[.agg #[.slice sa sn sc, .slice da dn dc]] w fun e w' => ∃ g0 g1 V U, e = .returned (.agg #[.slice (some ⟨g0, 0, none⟩) sn sn, .slice (some ⟨g1, 0, none⟩) dn dn]) ∧
   DO w' w.heap.size (.slice (some ⟨g0, 0, none⟩) sn sn) V (.slice (some ⟨g1, 0, none⟩) dn dn) U d ∧ Below w.heap.size w w' := by
 have HS := hid h.hs
 have HD := hid h.hd
 have HM := hid hsm
 clear h hsm
 have HB0 : Hid (Below w.heap.size w (((w.alloc (.cells #[.slice sa sn sc, .slice da dn dc] 25)).alloc (.cells #[.slice none 0 0, .slice none 0 0] 30)).alloc (.cells #[.slice none 0 0, .slice none 0 0] 30))) := below_new (below_new (below_new (Below.refl _ _)))
 have KP : Hid (Bk (((w.alloc (.cells #[.slice sa sn sc, .slice da dn dc] 25)).alloc (.cells #[.slice none 0 0, .slice none 0 0] 30)).alloc (.cells #[.slice none 0 0, .slice none 0 0] 30)) w.heap.size 25 [.slice sa sn sc, .slice da dn dc]) := ((Bk.new w 25 [.slice sa sn sc, .slice da dn dc]).alloc _).alloc _
 have KR : Hid (Bk (((w.alloc (.cells #[.slice sa sn sc, .slice da dn dc] 25)).alloc (.cells #[.slice none 0 0, .slice none 0 0] 30)).alloc (.cells #[.slice none 0 0, .slice none 0 0] 30)) (w.heap.size + 1) 30 [.slice none 0 0, .slice none 0 0]) := by
  have := (Bk.new (w.alloc (.cells #[.slice sa sn sc, .slice da dn dc] 25)) 30 [.slice none 0 0, .slice none 0 0]).alloc (.cells #[.slice none 0 0, .slice none 0 0] 30)
  show Bk _ _ _ _
  simpa using this
 have KO : Hid (Bk (((w.alloc (.cells #[.slice sa sn sc, .slice da dn dc] 25)).alloc (.cells #[.slice none 0 0, .slice none 0 0] 30)).alloc (.cells #[.slice none 0 0, .slice none 0 0] 30)) (w.heap.size + 1 + 1) 30 [.slice none 0 0, .slice none 0 0]) := by
  have := Bk.new ((w.alloc (.cells #[.slice sa sn sc, .slice da dn dc] 25)).alloc (.cells #[.slice none 0 0, .slice none 0 0] 30)) 30 [.slice none 0 0, .slice none 0 0]
  show Bk _ _ _ _
  simpa using this
 have HZ : Hid ((((w.alloc (.cells #[.slice sa sn sc, .slice da dn dc] 25)).alloc (.cells #[.slice none 0 0, .slice none 0 0] 30)).alloc (.cells #[.slice none 0 0, .slice none 0 0] 30)).heap.size = w.heap.size + 3) := by show _ = _; simp
 go_enter Tryz.func8, Tryz.ntmps8
 go_wp2_with fail
 refine (toSheetS_at S sa sn sc d.sh _ (HS.out.below HB0.out) h1 HM.out.1).mono ?_
 generalize (((w.alloc (.cells #[.slice sa sn sc, .slice da dn dc] 25)).alloc (.cells #[.slice none 0 0, .slice none 0 0] 30)).alloc (.cells #[.slice none 0 0, .slice none 0 0] 30)) = W at *
 rintro e w1 ⟨V, rfl, K0, hb1⟩
 have HB1 := hid (HB0.out.trans (hb1.mono HB0.out.size))
 have KP1 := hid (KP.out.below hb1)
 have KR1 := hid (KR.out.below hb1)
 have KO1 := hid (KO.out.below hb1)
 have K01 := hid K0
 have HG0 : Hid (w.heap.size + 3 ≤ W.heap.size) := Nat.le_of_eq HZ.out.symm
 clear hb1 K0 KP KR KO HB0 HZ
 generalize W.heap.size = g0 at *
 have c0 := KO1.out.cell (j := 0) rfl
 have f0 := KO1.out.free 0
 have p1 := KP1.out.cell (j := 1) rfl
 have HG0' := HG0.out
 have HB2 : Hid (Below w.heap.size w (w1.setCell ⟨w.heap.size + 1 + 1, 0, none⟩ (.slice (some ⟨g0, 0, none⟩) sn sn))) := HB1.out.setCell (by show w.heap.size ≤ w.heap.size + 1 + 1; omega) _
 have KR2 := hid (KR1.out.setOther (b := w.heap.size + 1 + 1) (by omega) 0 (.slice (some ⟨g0, 0, none⟩) sn sn))
 have KO2 := hid (KO1.out.set 0 (.slice (some ⟨g0, 0, none⟩) sn sn))
 have K02 : Hid (SOw (w1.setCell ⟨w.heap.size + 1 + 1, 0, none⟩ (.slice (some ⟨g0, 0, none⟩) sn sn)) g0 (.slice (some ⟨g0, 0, none⟩) sn sn) V d.sh) := K01.out.to (only_set (R := fun y => y = w.heap.size + 1 + 1) rfl _) (fun y hy e => by have := (K01.out.lt hy).1; omega)
 clear HB1 KP1 KR1 KO1 K01 HG0'
 go_wp2_with fail
 refine (toWriteS_at S da dn dc d.dw _ (HD.out.below HB2.out) h2 HM.out.2).mono ?_
 generalize w1.setCell ⟨w.heap.size + 1 + 1, 0, none⟩ (.slice (some ⟨g0, 0, none⟩) sn sn) = W2 at *
 clear c0 f0 p1
 rintro e w2 ⟨U, rfl, K1, hb2⟩
 have HB3 := hid (HB2.out.trans (hb2.mono HB2.out.size))
 have KR3 := hid (KR2.out.below hb2)
 have KO3 := hid (KO2.out.below hb2)
 have HAP : Hid (∀ y, sbl (.slice (some ⟨g0, 0, none⟩) sn sn) V y → ¬ wbl (.slice (some ⟨W2.heap.size, 0, none⟩) dn dn) U y) := fun y h1 h2 => by
  have := (K02.out.lt h1).2
  have := (K1.lt h2).1
  omega
 have HWL : Hid (w.heap.size + 3 ≤ W2.heap.size) := by
  have h3 := K02.out.lt (y := g0) (.inl rfl)
  have := HG0.out
  show _ ≤ _
  omega
 have K03 := hid (K02.out.below hb2)
 have K13 := hid K1
 clear hb2 K1 KR2 KO2 K02 HB2
 generalize W2.heap.size = g1 at *
 have c0 := KO3.out.cell (j := 0) rfl
 have c1 := KO3.out.cell (j := 1) rfl
 have f1 := KO3.out.free 1
 have r0 := KR3.out.cell (j := 0) rfl
 have r1 := KR3.out.cell (j := 1) rfl
 have q0 := KR3.out.free 0
 have q1 := KR3.out.free 1
 go_wp2
 try simp only [Exit.inBlock, Exit.then]
 refine bodyPost_ret (v := .agg #[.slice (some ⟨g0, 0, none⟩) sn sn, .slice (some ⟨g1, 0, none⟩) dn dn]) ?_ rfl ?_
 ·refine results_dsk rfl _ _ _ rfl ?_ ?_
  ·go_simp
  ·go_simp
 ·have HG0' := HG0.out
  have HWL' := HWL.out
  refine ⟨g0, g1, V, U, rfl, ?_, ((HB3.out.setCell (by show w.heap.size ≤ w.heap.size + 1 + 1; omega) _).setCell (by show w.heap.size ≤ w.heap.size + 1; omega) _).setCell (by show w.heap.size ≤ w.heap.size + 1; omega) _⟩
  have O1 : Only (fun y => y < w.heap.size + 3) w2 (((w2.setCell ⟨w.heap.size + 1 + 1, 1, none⟩ (.slice (some ⟨g1, 0, none⟩) dn dn)).setCell ⟨w.heap.size + 1, 0, none⟩ (.slice (some ⟨g0, 0, none⟩) sn sn)).setCell ⟨w.heap.size + 1, 1, none⟩ (.slice (some ⟨g1, 0, none⟩) dn dn)) :=
   ((only_set (R := fun y => y < w.heap.size + 3) (by show w.heap.size + 1 + 1 < w.heap.size + 3; omega) _).trans (only_set (R := fun y => y < w.heap.size + 3) (by show w.heap.size + 1 < w.heap.size + 3; omega) _)).trans (only_set (R := fun y => y < w.heap.size + 3) (by show w.heap.size + 1 < w.heap.size + 3; omega) _)
  exact ⟨(K03.out.to O1 (fun y hy e => by have := (K03.out.lt hy).1; omega)).base (by omega), (K13.out.to O1 (fun y hy e => by have := (K13.out.lt hy).1; omega)).base (by omega), HAP.out⟩
open Go.RowKit
set_option maxHeartbeats 2000000 in
theorem eqNode_any (S S' : Nat → Prop) (ap ax ai ap' ax' ai' : Option Addr) (np cp nx cx ni ci np' cp' nx' cx' ni' ci' : Nat) (x y : NB) (w : World)
  (hP : Pr w S (.slice ap np cp) x.ps) (hS : Sr w S (.slice ax nx cx) x.keys) (hI : Ir w S (.slice ai ni ci) x.kids) (hP' : Pr w S' (.slice ap' np' cp') y.ps) (hS' : Sr w S' (.slice ax' nx' cx') y.keys) (hI' : Ir w S' (.slice ai' ni' ci') y.kids) :
  Calls Tryz.prog 120 #[.agg #[.slice ap np cp, .slice ax nx cx, .slice ai ni ci], .agg #[.slice ap' np' cp', .slice ax' nx' cx', .slice ai' ni' ci']] w fun e w' => e = .returned (.bool (decide (x = y))) ∧ Below w.heap.size w w' := by
 have HP := hid hP
 have HS := hid hS
 have HI := hid hI
 have HP' := hid hP'
 have HS' := hid hS'
 have HI' := hid hI'
 clear hP hS hI hP' hS' hI'
 have HB0 : Hid (Below w.heap.size w ((w.alloc (.cells #[.slice ap np cp, .slice ax nx cx, .slice ai ni ci] 85)).alloc (.cells #[.slice ap' np' cp', .slice ax' nx' cx', .slice ai' ni' ci'] 85))) := below_new (below_new (Below.refl _ _))
 have KA : Hid (Bk ((w.alloc (.cells #[.slice ap np cp, .slice ax nx cx, .slice ai ni ci] 85)).alloc (.cells #[.slice ap' np' cp', .slice ax' nx' cx', .slice ai' ni' ci'] 85)) w.heap.size 85 [.slice ap np cp, .slice ax nx cx, .slice ai ni ci]) := (Bk.new w 85 [.slice ap np cp, .slice ax nx cx, .slice ai ni ci]).alloc _
 have KB : Hid (Bk ((w.alloc (.cells #[.slice ap np cp, .slice ax nx cx, .slice ai ni ci] 85)).alloc (.cells #[.slice ap' np' cp', .slice ax' nx' cx', .slice ai' ni' ci'] 85)) (w.heap.size + 1) 85 [.slice ap' np' cp', .slice ax' nx' cx', .slice ai' ni' ci']) := by
  have := Bk.new (w.alloc (.cells #[.slice ap np cp, .slice ax nx cx, .slice ai ni ci] 85)) 85 [.slice ap' np' cp', .slice ax' nx' cx', .slice ai' ni' ci']
  show Bk _ _ _ _
  simpa using this
 go_enter Tryz.func120, Tryz.ntmps120
 go_wp2_with fail
 refine (eqPairS_at S S' ap ap' np np' cp cp' x.ps y.ps _ (HP.out.below HB0.out) (HP'.out.below HB0.out)).mono ?_
 generalize (w.alloc (.cells #[.slice ap np cp, .slice ax nx cx, .slice ai ni ci] 85)).alloc (.cells #[.slice ap' np' cp', .slice ax' nx' cx', .slice ai' ni' ci'] 85) = W at *
 rintro e w1 ⟨rfl, hb1⟩
 have HB1 := hid (HB0.out.trans (hb1.mono HB0.out.size))
 have KA1 := hid (KA.out.below hb1)
 have KB1 := hid (KB.out.below hb1)
 clear hb1 HB0 KA KB
 by_cases h1 : x.ps = y.ps
 ·rw [decide_eq_true h1]
  have HH1 := hid h1
  clear h1
  have c0 := KA1.out.cell (j := 1) rfl
  have d0 := KB1.out.cell (j := 1) rfl
  go_wp2_with fail
  refine (eqStringS_at S S' ax ax' nx nx' cx cx' x.keys y.keys _ (HS.out.below HB1.out) (HS'.out.below HB1.out)).mono ?_
  rintro e w2 ⟨rfl, hb2⟩
  have HB2 := hid (HB1.out.trans (hb2.mono HB1.out.size))
  have KA2 := hid (KA1.out.below hb2)
  have KB2 := hid (KB1.out.below hb2)
  clear hb2 HB1 KA1 KB1 c0 d0
  by_cases h2 : x.keys = y.keys
  ·rw [decide_eq_true h2]
   have HH2 := hid h2
   clear h2
   have c0 := KA2.out.cell (j := 2) rfl
   have d0 := KB2.out.cell (j := 2) rfl
   go_wp2_with fail
   refine (eqIntS_at S S' ai ai' ni ni' ci ci' x.kids y.kids _ (HI.out.below HB2.out) (HI'.out.below HB2.out)).mono ?_
   rintro e w3 ⟨rfl, hb3⟩
   have HB3 := hid (HB2.out.trans (hb3.mono HB2.out.size))
   clear hb3 HB2 KA2 KB2 c0 d0
   by_cases h3 : x.kids = y.kids
   ·rw [decide_eq_true h3]
    have HF : Hid (decide (x = y) = true) := by
     show _ = _
     rw [decide_eq_true_eq]
     have e1 := HH1.out
     have e2 := HH2.out
     cases x; cases y; simp_all
    clear h3
    go_wp2
    go_ret
    exact ⟨by rw [HF.out]; rfl, HB3.out⟩
   ·rw [decide_eq_false h3]
    have HF : Hid (decide (x = y) = false) := by
     show _ = _
     rw [decide_eq_false_iff_not]
     rintro rfl
     exact h3 rfl
    clear h3
    go_wp2
    go_ret
    exact ⟨by rw [HF.out]; rfl, HB3.out⟩
  ·rw [decide_eq_false h2]
   have HF : Hid (decide (x = y) = false) := by
    show _ = _
    rw [decide_eq_false_iff_not]
    rintro rfl
    exact h2 rfl
   clear h2
   go_wp2
   go_ret
   exact ⟨by rw [HF.out]; rfl, HB2.out⟩
 ·rw [decide_eq_false h1]
  have HF : Hid (decide (x = y) = false) := by
   show _ = _
   rw [decide_eq_false_iff_not]
   rintro rfl
   exact h1 rfl
  clear h1
  go_wp2
  go_ret
  exact ⟨by rw [HF.out]; rfl, HB1.out⟩
set_option maxHeartbeats 4000000 in
theorem eqNodeS_at (S S' : Nat → Prop) (a a' : Option Addr) (n n' c c' : Nat) (l l' : List NB) (w : World) (h : Nr w S (.slice a n c) l) (h' : Nr w S' (.slice a' n' c') l') :
  Calls Tryz.prog 79 #[.slice a n c, .slice a' n' c'] w fun e w' => e = .returned (.bool (decide (l = l'))) ∧ Below w.heap.size w w' := by
 obtain ⟨hn, hnc, hcc⟩ := h.len
 obtain ⟨hn', hnc', hcc'⟩ := h'.len
 have HN := hid hn
 have HN' := hid hn'
 have H0 := hid h
 have H0' := hid h'
 clear h h' hn hn'
 by_cases hne : n = n'
 ·subst hne
  have hz : ((n : Int) != (n : Int)) = false := by simp
  go_enter Tryz.func79, Tryz.ntmps79
  go_wp2
  go_loopw [5] (fun i wr => ∃ k : Nat, k ≤ n ∧ i = .int .i64 k ∧ Hid (Below w.heap.size w wr) ∧ Hid (l.take k = l'.take k)) (fun i _ => n - (intOf i).toNat)
  case atStart => exact ⟨0, Nat.zero_le _, rfl, Below.refl _ _, rfl⟩
  case round =>
   obtain ⟨k, hk, rfl, HB, HT⟩ := hrel
   by_cases hlt : k < n
   ·have hlt' : (k : Int) < (n : Int) := by omega
    have HP := hid (H0.out.below HB.out)
    have HP' := hid (H0'.out.below HB.out)
    obtain ⟨b, off, rfl, _, hbw, hcell⟩ := HP.out.at (by omega)
    obtain ⟨b', off', rfl, _, hbw', hcell'⟩ := HP'.out.at (by omega)
    obtain ⟨ap, np, cp, ax, nx, cx, ai, ni, ci, c0, c1, c2, hp, hx, hi⟩ := hcell k hlt
    obtain ⟨ap', np', cp', ax', nx', cx', ai', ni', ci', d0, d1, d2, hp', hx', hi'⟩ := hcell' k hlt
    have HC : Hid (∀ v, Below wr.heap.size wr v → Calls Tryz.prog 120 #[.agg #[.slice ap np cp, .slice ax nx cx, .slice ai ni ci], .agg #[.slice ap' np' cp', .slice ax' nx' cx', .slice ai' ni' ci']] v fun e w' => e = .returned (.bool (decide (nAt l k = nAt l' k))) ∧ Below v.heap.size v w') := fun v hv =>
     eqNode_any S S' ap ax ai ap' ax' ai' np cp nx cx ni ci np' cp' nx' cx' ni' ci' (nAt l k) (nAt l' k) v (hp.below hv) (hx.below hv) (hi.below hv) (hp'.below hv) (hx'.below hv) (hi'.below hv)
    have HS : Hid (nAt l k = nAt l' k → l.take (k + 1) = l'.take (k + 1)) := by
     intro e
     have hl : k < l.length := by rw [← HN.out]; exact hlt
     have hl' : k < l'.length := by rw [← HN'.out]; exact hlt
     rw [List.take_succ_eq_append_getElem hl, List.take_succ_eq_append_getElem hl', HT.out]
     simp [nAt, hl, hl'] at e
     rw [e]
    have HF : Hid (nAt l k ≠ nAt l' k → decide (l = l') = false) := by
     intro e
     rw [decide_eq_false_iff_not]
     intro e'
     exact e (by rw [e'])
    have T0 := hid (kc0_6 c0 c1 c2 d0 d1 d2)
    clear hcell hcell' hbw hbw' HP HP' HT hp hx hi hp' hx' hi' c0 c1 c2 d0 d1 d2
    generalize nAt l k = cx1 at *
    generalize nAt l' k = cx2 at *
    by_cases he : cx1 = cx2
    ·have HS1 := hid (HS.out he)
     rw [decide_eq_true he] at HC
     clear he HS HF
     go_wp2_with fail
     go_region_held3 (fun v => v.cell? ⟨b, off + k * 3, none⟩ = some (.slice ap np cp) ∧ v.cell? ⟨b, off + k * 3 + 1, none⟩ = some (.slice ax nx cx) ∧ v.cell? ⟨b, off + k * 3 + 2, none⟩ = some (.slice ai ni ci) ∧ v.cell? ⟨b', off' + k * 3, none⟩ = some (.slice ap' np' cp') ∧ v.cell? ⟨b', off' + k * 3 + 1, none⟩ = some (.slice ax' nx' cx') ∧ v.cell? ⟨b', off' + k * 3 + 2, none⟩ = some (.slice ai' ni' ci') ∧ KC wr v [(⟨b, off + k * 3, none⟩, .slice ap np cp), (⟨b, off + k * 3 + 1, none⟩, .slice ax nx cx), (⟨b, off + k * 3 + 2, none⟩, .slice ai ni ci), (⟨b', off' + k * 3, none⟩, .slice ap' np' cp'), (⟨b', off' + k * 3 + 1, none⟩, .slice ax' nx' cx'), (⟨b', off' + k * 3 + 2, none⟩, .slice ai' ni' ci')])
      (first | assumption | exact kc6 (T0.out.call (below_drew _)) | exact kc6c hbC (by assumption))
      (first | (go_at_call 120; refine (HC.out _ (KC.bel (by first | exact (by assumption : _ ∧ _ ∧ _ ∧ _ ∧ _ ∧ _ ∧ _).2.2.2.2.2.2))).mono ?_; rintro e w' ⟨rfl, hbC⟩))
     all_goals (rename_i hS; have HB1 := hid (Below.then' HB.out hS.2.2.2.2.2.2.bel (Nat.le_refl _)); clear hS; go_wp2)
     go_roundw
     case rel => exact ⟨k + 1, by omega, by go_num, HB1.out, HS1.out⟩
     case measure => simp [intOf]; omega
    ·have HF1 := hid (HF.out he)
     rw [decide_eq_false he] at HC
     clear he HS HF
     go_wp2_with fail
     go_region_held3 (fun v => v.cell? ⟨b, off + k * 3, none⟩ = some (.slice ap np cp) ∧ v.cell? ⟨b, off + k * 3 + 1, none⟩ = some (.slice ax nx cx) ∧ v.cell? ⟨b, off + k * 3 + 2, none⟩ = some (.slice ai ni ci) ∧ v.cell? ⟨b', off' + k * 3, none⟩ = some (.slice ap' np' cp') ∧ v.cell? ⟨b', off' + k * 3 + 1, none⟩ = some (.slice ax' nx' cx') ∧ v.cell? ⟨b', off' + k * 3 + 2, none⟩ = some (.slice ai' ni' ci') ∧ KC wr v [(⟨b, off + k * 3, none⟩, .slice ap np cp), (⟨b, off + k * 3 + 1, none⟩, .slice ax nx cx), (⟨b, off + k * 3 + 2, none⟩, .slice ai ni ci), (⟨b', off' + k * 3, none⟩, .slice ap' np' cp'), (⟨b', off' + k * 3 + 1, none⟩, .slice ax' nx' cx'), (⟨b', off' + k * 3 + 2, none⟩, .slice ai' ni' ci')])
      (first | assumption | exact kc6 (T0.out.call (below_drew _)) | exact kc6c hbC (by assumption))
      (first | (go_at_call 120; refine (HC.out _ (KC.bel (by first | exact (by assumption : _ ∧ _ ∧ _ ∧ _ ∧ _ ∧ _ ∧ _).2.2.2.2.2.2))).mono ?_; rintro e w' ⟨rfl, hbC⟩))
     all_goals (rename_i hS; have HB1 := hid (Below.then' HB.out hS.2.2.2.2.2.2.bel (Nat.le_refl _)); clear hS; go_wp2)
     go_ret
     exact ⟨by rw [HF1.out]; rfl, HB1.out⟩
   ·have HF : Hid (decide (l = l') = true) := by
     show decide (l = l') = true
     have hk' : k = n := by omega
     have e := HT.out
     have e1 : l.length ≤ k := by rw [← HN.out]; omega
     have e2 : l'.length ≤ k := by rw [← HN'.out]; omega
     rw [List.take_of_length_le e1, List.take_of_length_le e2] at e
     simp [e]
    clear HT
    go_wp2
    go_ret
    exact ⟨by rw [HF.out]; rfl, HB.out⟩
 ·have hz : ((n : Int) != (n' : Int)) = true := by simp; omega
  have HF : Hid (decide (l = l') = false) := by
   show decide (l = l') = false
   rw [decide_eq_false_iff_not]
   intro e
   exact hne (by rw [HN.out, HN'.out, e])
  clear hne
  go_enter Tryz.func79, Tryz.ntmps79
  go_wp2
  go_ret
  exact ⟨by rw [HF.out]; rfl, Below.refl _ _⟩
set_option maxHeartbeats 2000000 in
theorem eqTree_at (S S' : Nat → Prop) (a a' : Option Addr) (n n' c c' : Nat) (l l' : List NB) (w : World) (h : Nr w S (.slice a n c) l) (h' : Nr w S' (.slice a' n' c') l') :
  Calls Tryz.prog 32 #[.agg #[.slice a n c], .agg #[.slice a' n' c']] w fun e w' => e = .returned (.bool (decide (l = l'))) ∧ Below w.heap.size w w' := by
 have H0 := hid h
 have H0' := hid h'
 clear h h'
 have HB0 : Hid (Below w.heap.size w ((w.alloc (.cells #[.slice a n c] 33)).alloc (.cells #[.slice a' n' c'] 33))) := below_new (below_new (Below.refl _ _))
 go_enter Tryz.func32, Tryz.ntmps32
 go_wp2_with fail
 refine (eqNodeS_at S S' a a' n n' c c' l l' _ (H0.out.below HB0.out) (H0'.out.below HB0.out)).mono ?_
 rintro e w1 ⟨rfl, hb1⟩
 have HB1 := hid (HB0.out.trans (hb1.mono HB0.out.size))
 clear hb1 HB0
 by_cases he : l = l'
 ·have HE := hid (decide_eq_true he)
  rw [decide_eq_true he]
  clear he
  go_wp2
  go_ret
  exact ⟨by rw [HE.out]; rfl, HB1.out⟩
 ·have HE := hid (decide_eq_false he)
  rw [decide_eq_false he]
  clear he
  go_wp2
  go_ret
  exact ⟨by rw [HE.out]; rfl, HB1.out⟩
end Go.Proofs.YtidjehapeanpbaaGreatDoor
