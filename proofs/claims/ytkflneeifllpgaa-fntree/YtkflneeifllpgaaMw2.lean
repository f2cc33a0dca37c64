/-
  Appending pairs to a row of one's own; the method all: it adds the pairs below a limb.
-/
import Derived.Test.YtkflneeifllpgaaMw1
import Derived.Maps.AppendAt
import Derived.Laws.CopyRow
import Derived.Lib.AppendZerosOnto
import Derived.Lib.Overlaps
import Derived.Deep.RegionLaw
import Derived.Deep.DeepCutAuto
import Derived.Lib.Bytealg
namespace Go.Proofs.Ytkflneeifllpgaa
open Go.RowKit

/-- The slice value v owns, from block base on, a row of the pairs l. -/
def Ow (w : World) (base : Nat) (v : Value) (l : List PB) : Prop := w.ownsRow base 35 2 v l.length (pcs l)
theorem Ow.to {w w' : World} {R : Nat → Prop} {base : Nat} {v : Value} {l : List PB} (h : Ow w base v l) (ho : Only R w w') (hR : ∀ k, v.ownBlock = some k → ¬ R k) : Ow w' base v l := own_kept h ho hR
theorem Ow.kept {w w' : World} {base : Nat} {v : Value} {l : List PB} (h : Ow w base v l) (hb : Below w.heap.size w w') : Ow w' base v l := h.to (only_of_below hb (fun _ => False)) (fun _ _ h => h)
theorem Ow.pr {w : World} {base : Nat} {v : Value} {l : List PB} (h : Ow w base v l) {S : Nat → Prop} (hS : ∀ k, v.ownBlock = some k → base ≤ k → k < w.heap.size → S k) : Pr w S v l := rw_own h hS
theorem Ow.shape' {w : World} {base : Nat} {v : Value} {l : List PB} (h : Ow w base v l) : ∃ a n c, v = .slice a n c ∧ Hid (n = l.length) := by
  obtain ⟨a, c, rfl⟩ := own_shape h
  exact ⟨a, _, c, rfl, rfl⟩
theorem Ow.shape {w : World} {base : Nat} {v : Value} {l : List PB} (h : Ow w base v l) : ∃ a c, v = .slice a l.length c := own_shape h
theorem ow_nil (w : World) (base : Nat) : Ow w base (.slice none 0 0) [] := World.ownsRow_nil w base _ _
theorem info_of {P : Program} {e : TypeId} {z : Value} {size bytes : Nat} (h : (P.info? e).map (fun i => (i.zero, i.size, i.bytes)) = some (some z, size, bytes)) : ∃ i, P.info? e = some i ∧ i.zero = some z ∧ i.size = size ∧ i.bytes = bytes := by
  obtain ⟨i, hi, hz⟩ := Option.map_eq_some_iff.1 h
  simp only [Prod.mk.injEq] at hz
  exact ⟨i, hi, hz⟩
theorem wpList_append_pairs {w : World} {ops : Array Oper} {rest : List Oper} {o : Oper} {a : Act} {Q : Exit → Act → World → Prop} (hgd : o.guard = none) (s x : Operand)
    (ho : o.op = .call { callee := .builtin .append, args := #[s, x], argTypes := #[32, 32] }) (base : Nat) (v : Value) (l : List PB) (hs : a.eval s = v) (hown : Ow w base v l)
    (S : Nat → Prop) (src : Value) (m : List PB) (hx : a.eval x = src) (hsrc : Pr w S src m) (hb : l.length + m.length ≤ 2097154) (hbase : base ≤ w.heap.size)
    (h : ∀ v' w', Ow w' base v' (l ++ m) → w.grownBy w' v.ownBlock → wpList Try.prog ops Q rest (a.put o.dst v') w') : wpList Try.prog ops Q (o :: rest) a w := by
  obtain ⟨i, hi, hz, hsz, hby⟩ := info_of infoPairI
  refine wpList_append_row hgd s x 32 ho base 35 i _ 2 32 Try.underlying32 hi hz hsz hby rfl (by decide) v l.length (pcs l) hs hown S src m.length (pcs m) hx hsrc (pcs_length m) (pcs_one m) (by unfold maxLen; omega) (by omega) hbase ?_
  intro v' w' h1 h2
  refine h v' w' ?_ h2
  unfold Ow
  rw [List.length_append, pcs_append]
  exact h1
theorem only_of_belowB {B : Nat} {w w' : World} (h : Below B w w') : Only (fun b => B ≤ b) w w' := ⟨h.os, h.tape, h.output, h.size, fun b _ hn => h.block b (by omega)⟩
theorem grown_belowB {w w' : World} {base : Nat} {v : Value} {l : List PB} (h : Ow w base v l) (hg : w.grownBy w' v.ownBlock) (hB : base ≤ w.heap.size) : Below base w w' := (Below.refl _ _).grown hg hB fun k hk => (World.ownsRow.lt h k hk).1
theorem allL_take (ks : List T) (k : Nat) (h : k < ks.length) : allL (ks.take (k + 1)) = allL (ks.take k) ++ (tAt ks k).all := by
  induction ks generalizing k with
  | nil => simp at h
  | cons x ks ih =>
    cases k with
    | zero => simp [allL, tAt]
    | succ k =>
      have := ih k (by simpa using h)
      simp only [List.take_succ_cons, allL, this, List.append_assoc]
      rfl
theorem allL_take_le (ks : List T) (k : Nat) : (allL (ks.take k)).length ≤ (allL ks).length := by
  induction ks generalizing k with
  | nil => simp [allL]
  | cons x ks ih =>
    cases k with
    | zero => simp [allL]
    | succ k =>
      have := ih k
      simp only [List.take_succ_cons, allL, List.length_append]
      omega
set_option maxHeartbeats 4000000 in
theorem all_any (t : T) : ∀ (S : Nat → Prop) (b : Nat) (w : World) (base : Nat) (v : Value) (l : List PB), Limb w S b t → (∀ x, S x → x < base) → base ≤ w.heap.size → Ow w base v l → l.length + t.all.length ≤ 1048576 →
    Calls Try.prog 46 #[.pointer (some ⟨b, 0, none⟩), v] w fun e w' => ∃ v', e = .returned v' ∧ Ow w' base v' (l ++ t.all) ∧ Below base w w' := by
  induction t using T.ind
  rename_i ps ks ih
  intro S b w base v l hL hS hbase hO hlen
  have H0 := hid hL
  have HO := hid hO
  have HS := hid hS
  have HIH := hid ih
  have HLE := hid hlen
  obtain ⟨ap, cp, ak, ck, A, c0, c1, hp, hk, hkid, _, _⟩ := hL.see
  have HP := hid hp
  have HK := hid hk
  obtain ⟨av, nv, cv, hv, HNV⟩ := hO.shape'
  have HLP : Hid (l.length + ps.length + (allL ks).length ≤ 1048576) := by
    show _ ≤ _
    have := hlen
    simp [T.all] at this
    omega
  simp only [T.ps, T.ks] at *
  clear hL hO hS ih hlen hp hk hkid
  subst hv
  go_enter Try.func46, Try.ntmps46
  go_wp2_with (at_builtin; refine wpList_append_pairs rfl _ _ rfl base _ l rfl HO.out S _ ps rfl HP.out ?b1 ?b2 ?_)
  case b1 => have := HLP.out; omega
  case b2 => exact hbase
  intro v1 w1 hO1 hg1
  have HB1 := hid (grown_belowB HO.out hg1 hbase)
  have HO1 := hid hO1
  have HL1 := hid (H0.out.to (only_of_belowB HB1.out) (fun x hx h => by have := HS.out x hx; omega))
  obtain ⟨a1, n1, cc1, hv1, HN1⟩ := hO1.shape'
  clear hO1 hg1
  subst hv1
  clear c0 c1 HP HK
  obtain ⟨ap', cp', ak', ck', A', c0, c1, hp, hk, hkid, m1, m2⟩ := HL1.out.see
  have HK := hid hk
  have HKID := hid hkid
  simp only [T.ps, T.ks] at c0 c1 m2
  have hm2 : ks.length ≤ 9223372036854775807 := m2
  clear hp hk hkid m1 m2
  generalize hn : ks.length = n at *
  have HN := hid hn
  clear hn
  go_wp2_with fail
  go_loopw [1, 18] (fun x i wr => ∃ (k : Nat) (v' : Value), k ≤ n ∧ i = .int .i64 k ∧ x = v' ∧ Hid (Ow wr base v' (l ++ ps ++ allL (ks.take k))) ∧ Hid (Below base w1 wr) ∧ Hid (Below base w wr)) (fun _ i _ => n - (intOf i).toNat)
  case atStart => exact ⟨0, _, Nat.zero_le _, rfl, rfl, by show Ow _ _ _ _; simpa [allL] using HO1.out, Below.refl _ _, HB1.out⟩
  case round =>
    obtain ⟨k, v', hk, rfl, hv', HO2, HB12, HB2⟩ := hrel
    obtain ⟨a2, n2, cc2, hv2, HN2⟩ := HO2.out.shape'
    subst hv2
    subst hv'
    by_cases hlt : k < n
    · have hlt' : (k : Int) < (n : Int) := by omega
      have HL2 := hid (H0.out.to (only_of_belowB HB2.out) (fun x hx h => by have := HS.out x hx; omega))
      have hks : k < ks.length := by rw [HN.out]; exact hlt
      obtain ⟨x, off, rfl, hSx, hxw, hc⟩ := Rw.at (HK.out.to (only_of_belowB HB12.out) (fun x hx _ h => by have := HS.out x hx; omega)) (by simp only [T.ks]; omega)
      have d0 := hc k _ (ptrs_at A' _ k (by simp only [T.ks]; omega))
      obtain ⟨S1, hS1, hk0⟩ := HKID.out k (by simp only [T.ks]; omega)
      have HK0 := hid (hk0.to (only_of_belowB HB12.out) (fun x hx h => by have := HS.out x (hS1 x hx); omega))
      have HS1 : Hid (∀ x, S1 x → x < base) := fun x hx => HS.out x (hS1 x hx)
      have HTK : Hid (allL (ks.take (k + 1)) = allL (ks.take k) ++ (tAt ks k).all) := allL_take ks k hks
      have HLEN : Hid ((l ++ ps ++ allL (ks.take k)).length + (tAt ks k).all.length ≤ 1048576) := by
        show _ ≤ _
        have h1 := allL_take_le ks (k + 1)
        have h2 := HLP.out
        rw [HTK.out] at h1
        simp only [List.length_append] at h1 ⊢
        omega
      have HMEM : Hid (tAt ks k ∈ ks) := by
        show _ ∈ _
        simp only [tAt, List.getElem?_eq_getElem hks, Option.getD_some]
        exact List.getElem_mem hks
      simp only [T.ks, ptr] at d0 HK0
      clear hc hk0 hS1 hxw hSx
      go_wp2_with fail
      refine (HIH.out (tAt ks k) HMEM.out S1 (A' k) wr base (.slice a2 n2 cc2) (l ++ ps ++ allL (ks.take k)) HK0.out HS1.out (Nat.le_trans hbase HB2.out.size) HO2.out HLEN.out).mono ?_
      rintro e w3 ⟨v3, rfl, hO3, hb3⟩
      have HO3 : Hid (Ow w3 base v3 (l ++ ps ++ allL (ks.take (k + 1)))) := by
        show Ow _ _ _ _
        rw [HTK.out, ← List.append_assoc]
        exact hO3
      have HB3 := hid (HB2.out.trans hb3)
      have HB4 := hid (HB12.out.trans hb3)
      obtain ⟨a3, n3, cc3, hv3, HN3⟩ := hO3.shape'
      subst hv3
      clear hO3 hb3
      go_wp2
      go_roundw
      case rel => exact ⟨k + 1, _, by omega, by go_num, rfl, HO3.out, HB4.out, HB3.out⟩
      case measure => simp [intOf]; omega
    · have hk' : k = n := by omega
      have HO3 : Hid (Ow wr base (.slice a2 n2 cc2) (l ++ (T.mk ps ks).all)) := by
        show Ow _ _ _ _
        have e : l ++ (T.mk ps ks).all = l ++ ps ++ allL (ks.take k) := by rw [hk', ← HN.out, List.take_length]; simp [T.all]
        rw [e]
        exact HO2.out
      clear hk'
      go_wp2
      go_ret
      exact ⟨_, rfl, HO3.out, HB2.out⟩
end Go.Proofs.Ytkflneeifllpgaa
/-
  slices.Clone of pairs; readLeaf.
-/
namespace Go.Proofs.Ytkflneeifllpgaa
open Go.RowKit

theorem ow_new (w : World) (B : Nat) (hB : B ≤ w.heap.size) : Ow (w.alloc (.cells #[] 35)) B (.slice (some ⟨w.heap.size, 0, none⟩) 0 0) [] :=
  ⟨rfl, .inr ⟨w.heap.size, 0, #[], rfl, hB, heap_alloc_new w _, Nat.le_refl _, by decide, rfl, rfl⟩⟩
theorem own_mono {w : World} {base base' : Nat} {e : TypeId} {size : Nat} {v : Value} {n : Nat} {xs : List Value} (h : w.ownsRow base e size v n xs) (hb : base' ≤ base) : w.ownsRow base' e size v n xs := by
  refine ⟨h.1, ?_⟩
  rcases h.2 with h2 | ⟨g, cap, cur, h3, h4, h5⟩
  · exact .inl h2
  · exact .inr ⟨g, cap, cur, h3, Nat.le_trans hb h4, h5⟩
set_option maxRecDepth 100000 in
set_option maxHeartbeats 2000000 in
theorem cloneP_any (S : Nat → Prop) (v : Value) (l : List PB) (w : World) (h : Pr w S v l) (hl : l.length ≤ 1048576) :
    Calls Try.prog 141 #[v] w fun e w' => ∃ v', e = .returned v' ∧ Ow w' w.heap.size v' l ∧ Below w.heap.size w w' := by
  have H0 := hid h
  obtain ⟨a, c, hv, hn, hc⟩ := h.shape
  subst hv
  cases a with
  | none =>
    have hl0 : l.length = 0 := by
      rcases Nat.eq_zero_or_pos l.length with e | e
      · exact e
      · obtain ⟨b, off, e1, _⟩ := h.at e
        cases e1
    obtain rfl := List.eq_nil_of_length_eq_zero hl0
    clear h hl0
    have he : ∀ w : World, (binOp .eql 32 (.slice none 0 c) (.slice none 0 0)).run Try.prog w = .ok (.bool true) w := fun _ => rfl
    go_enter Try.func141, Try.ntmps141
    go_wp2
    go_ret
    exact ⟨_, rfl, ow_nil _ _, Below.refl _ _⟩
  | some x =>
    clear h
    generalize hnn : l.length = n at *
    have HN := hid hnn
    clear hnn
    have he : ∀ w : World, (binOp .eql 32 (.slice (some x) n c) (.slice none 0 0)).run Try.prog w = .ok (.bool false) w := fun _ => rfl
    have HO := hid (ow_new w w.heap.size (Nat.le_refl _))
    have HB := hid (below_new (o := .cells #[] 35) (w := w) (Below.refl _ _))
    go_enter Try.func141, Try.ntmps141
    go_wp2_with (at_builtin; refine wpList_append_pairs rfl _ _ rfl w.heap.size _ [] rfl HO.out S _ l rfl (H0.out.below HB.out) ?b1 ?b2 ?_)
    case b1 => have := HN.out; simp; omega
    case b2 => simp
    intro v1 w1 hO1 hg1
    have HB1 := hid (HB.out.trans (grown_belowB HO.out hg1 (by simp)))
    have HO1 : Hid (Ow w1 w.heap.size v1 l) := hO1
    obtain ⟨a1, n1, cc1, hv1, HN1⟩ := hO1.shape'
    clear hO1 hg1
    subst hv1
    go_wp2
    go_ret
    exact ⟨_, rfl, HO1.out, HB1.out⟩
/-- A leaf of one's own. -/
theorem limb_leaf {w : World} {b : Nat} {pv : Value} {ps : List PB} {lo : Nat} (hB : Bk w b 112 [pv, .slice none 0 0]) (hb : lo ≤ b) (hP : Ow w lo pv ps) (hne : pv.ownBlock ≠ some b) (S : Nat → Prop) (hS : ∀ x, lo ≤ x → x < w.heap.size → S x) : Limb w S b (.mk ps []) := by
  refine .mk S b pv _ ps [] (fun _ => 0) (fun _ _ => False) (hS b hb hB.lt) hB (own_mono hP (Nat.zero_le _)) (World.ownsRow_nil w 0 _ _) (fun x hx => ⟨?_, ?_⟩) (fun x hx => by cases hx) (fun i hi => by simp at hi) (fun i j hi => by simp at hi) (fun i hi => by simp at hi)
  · have := World.ownsRow.lt hP x hx
    exact hS x this.1 this.2
  · rintro rfl
    exact hne hx
/-- What comes of reading: a new limb that is the tree, or nil. -/
def LimbOr (o : Option T) (w : World) (e : Ending) (w' : World) : Prop := match o with
  | none => e = .returned (.pointer none)
  | some t => ∃ b, e = .returned (.pointer (some ⟨b, 0, none⟩)) ∧ Limb w' (fun y => w.heap.size ≤ y ∧ y < w'.heap.size) b t
def leafT (x : NB) (root : Bool) : Option T := if leafOk x root = true then some (.mk x.ps []) else none
set_option maxHeartbeats 4000000 in
theorem readLeaf_any (S : Nat → Prop) (ap ax ai : Option Addr) (np cp nx cx ni ci : Nat) (x : NB) (root : Bool) (w : World) (hP : Pr w S (.slice ap np cp) x.ps) (hS : Sr w S (.slice ax nx cx) x.keys) :
    Calls Try.prog 116 #[.agg #[.slice ap np cp, .slice ax nx cx, .slice ai ni ci], .bool root] w fun e w' =>
      LimbOr (leafT x root) w e w' ∧ Below w.heap.size w w' := by
  have HP := hid hP
  have HNP := hid (Rw.len hP).1
  have HNX := hid (Rw.len hS).1
  have h1 := (Rw.len hP).2.1
  have h2 := (Rw.len hP).2.2
  have h3 := (Rw.len hS).2.1
  have h4 := (Rw.len hS).2.2
  clear hP hS
  have HB0 := hid (below_new (o := .cells #[.slice ap np cp, .slice ax nx cx, .slice ai ni ci] 106) (w := w) (Below.refl _ _))
  have KP := hid (Bk.new w 106 [.slice ap np cp, .slice ax nx cx, .slice ai ni ci])
  have LF : ∀ (np nx : Nat) (r : Bool), np = x.ps.length → nx = x.keys.length → leafOk x r = !(decide (np = 0) || decide (4 < np) || (decide (np < 2) && !r) || !decide (nx = 0)) := by
    rintro _ _ r rfl rfl; rfl
  have LF := hid (LF np nx root HNP.out HNX.out)
  by_cases a1 : np = 0
  · have HF : Hid (leafOk x root = false) := by show _ = _; rw [LF.out]; simp [a1]
    clear HP HNP LF
    subst a1
    go_enter Try.func116, Try.ntmps116
    go_wp2
    go_ret
    exact ⟨by rw [leafT, if_neg (by rw [HF.out]; decide)]; rfl, HB0.out⟩
  · have e0 : ((np : Int) == 0) = false := by simp; omega
    by_cases a2 : 4 < np
    · have e1 : (4 : Int) < (np : Int) := by omega
      have e2 : ¬ (np : Int) < 2 := by omega
      have HF : Hid (leafOk x root = false) := by show _ = _; rw [LF.out]; simp [a2]
      clear LF
      go_enter Try.func116, Try.ntmps116
      go_wp2
      go_ret
      exact ⟨by rw [leafT, if_neg (by rw [HF.out]; decide)]; rfl, HB0.out⟩
    · have e1 : ¬ (4 : Int) < (np : Int) := by omega
      by_cases a3 : np < 2
      · have e2 : (np : Int) < 2 := by omega
        cases root
        · have HF : Hid (leafOk x false = false) := by show _ = _; rw [LF.out]; simp [a3]
          clear LF
          go_enter Try.func116, Try.ntmps116
          go_wp2
          go_ret
          exact ⟨by rw [leafT, if_neg (by rw [HF.out]; decide)]; rfl, HB0.out⟩
        · by_cases a4 : nx = 0
          · have HF : Hid (leafOk x true = true) := by show _ = _; rw [LF.out]; simp [a1, a2, a4]
            have e4 : ((nx : Int) != 0) = false := by simp; omega
            clear LF a4
            have c0 := KP.out.cell (j := 0) rfl
            go_enter Try.func116, Try.ntmps116
            go_wp2_with fail
            refine (cloneP_any S (.slice ap np cp) x.ps _ (HP.out.below HB0.out) (by rw [← HNP.out]; omega)).mono ?_
            rintro e w1 ⟨v1, rfl, hO1, hb1⟩
            obtain ⟨a1, n1, cc1, hv1, HN1⟩ := hO1.shape'
            subst hv1
            have HO1 := hid hO1
            have HB1 := hid (HB0.out.trans (hb1.mono HB0.out.size))
            have HSZ : Hid (w.heap.size < w1.heap.size) := by have := hb1.size; simp at this; exact this
            clear hO1 hb1 c0
            go_wp2
            go_ret
            refine ⟨?_, HB1.out.alloc HB1.out.size _⟩
            rw [leafT, if_pos HF.out]
            refine ⟨_, rfl, ?_⟩
            refine limb_leaf (lo := w.heap.size) (Bk.new w1 112 [.slice a1 n1 cc1, .slice none 0 0]) (Nat.le_of_lt HSZ.out) (own_mono (HO1.out.kept (below_new (Below.refl _ _))) (by simp)) ?_ _ (fun y h1 h2 => ⟨h1, h2⟩)
            intro e
            have := (World.ownsRow.lt HO1.out _ e).2
            omega
          · have HF : Hid (leafOk x true = false) := by show _ = _; rw [LF.out]; simp [a4]
            have e4 : ((nx : Int) != 0) = true := by simp; omega
            clear LF a4
            go_enter Try.func116, Try.ntmps116
            go_wp2
            go_ret
            exact ⟨by rw [leafT, if_neg (by rw [HF.out]; decide)]; rfl, HB0.out⟩
      · have e2 : ¬ (np : Int) < 2 := by omega
        by_cases a4 : nx = 0
        · have HF : Hid (leafOk x root = true) := by show _ = _; rw [LF.out]; simp [a1, a2, a3, a4]
          have e4 : ((nx : Int) != 0) = false := by simp; omega
          clear LF a4
          have c0 := KP.out.cell (j := 0) rfl
          go_enter Try.func116, Try.ntmps116
          go_wp2_with fail
          refine (cloneP_any S (.slice ap np cp) x.ps _ (HP.out.below HB0.out) (by rw [← HNP.out]; omega)).mono ?_
          rintro e w1 ⟨v1, rfl, hO1, hb1⟩
          obtain ⟨a1, n1, cc1, hv1, HN1⟩ := hO1.shape'
          subst hv1
          have HO1 := hid hO1
          have HB1 := hid (HB0.out.trans (hb1.mono HB0.out.size))
          have HSZ : Hid (w.heap.size < w1.heap.size) := by have := hb1.size; simp at this; exact this
          clear hO1 hb1 c0
          go_wp2
          go_ret
          refine ⟨?_, HB1.out.alloc HB1.out.size _⟩
          rw [leafT, if_pos HF.out]
          refine ⟨_, rfl, ?_⟩
          refine limb_leaf (lo := w.heap.size) (Bk.new w1 112 [.slice a1 n1 cc1, .slice none 0 0]) (Nat.le_of_lt HSZ.out) (own_mono (HO1.out.kept (below_new (Below.refl _ _))) (by simp)) ?_ _ (fun y h1 h2 => ⟨h1, h2⟩)
          intro e
          have := (World.ownsRow.lt HO1.out _ e).2
          omega
        · have HF : Hid (leafOk x root = false) := by show _ = _; rw [LF.out]; simp [a4]
          have e4 : ((nx : Int) != 0) = true := by simp; omega
          clear LF a4
          go_enter Try.func116, Try.ntmps116
          go_wp2
          go_ret
          exact ⟨by rw [leafT, if_neg (by rw [HF.out]; decide)]; rfl, HB0.out⟩
end Go.Proofs.Ytkflneeifllpgaa
/-
  Rows of pointers to limbs that are appended to; what is known of a tree that was read.
-/
namespace Go.Proofs.Ytkflneeifllpgaa
open Go.RowKit

/-- append(dst, src...), and where the new row lies. -/
theorem run_append_row_at {P : Program} {w : World} (base : Nat) (t ty e : TypeId) (i : TypeInfo) (z : Value) (size bytes : Nat) (ht : P.underlying t = some (.slice e)) (hi : P.info? e = some i) (hz : i.zero = some z)
    (hsize : i.size = size) (hby : i.bytes = bytes) (hzs : z.cells.size = size) (hsz : 0 < size) (v : Value) (n : Nat) (xs : List Value) (hown : w.ownsRow base e size v n xs)
    (S : Nat → Prop) (src : Value) (m : Nat) (news : List Value) (hsrc : Rw w S src m news) (hl : news.length = m * size) (h1 : ∀ u ∈ news, u.oneCell' = true)
    (h63 : n + m ≤ maxLen) (hbytes : (n + m) * bytes ≤ 140737488355328) (hbase : base ≤ w.heap.size) :
    ∃ v' w', (Builtin.append_ #[t, t] ty #[v, src]).run P w = .ok v' w' ∧ w'.ownsRow base e size v' (n + m) (xs ++ news) ∧ w.grownBy w' v.ownBlock ∧ (v'.ownBlock = v.ownBlock ∨ v'.ownBlock = some w.heap.size) := by
  obtain ⟨a, c, rfl, h2, h3, h4, hn, h5⟩ := hsrc
  by_cases hm : 0 < m
  · obtain ⟨b, off, rfl, hb, hS, hc⟩ := h5 hm
    obtain ⟨v', w', hr, ho, hg, _, ha⟩ := run_append_own_at w base t ty e i z size bytes ht hi hz hsize hby hzs hsz v n xs hown ⟨b, off, none⟩ m c news hl (fun j u hu => by rw [Addr.add_lit]; exact hc j u hu) h1 h63 hbytes hbase
    exact ⟨v', w', hr, ho, hg, ha⟩
  · obtain rfl : m = 0 := by omega
    obtain rfl := h4 rfl
    cases a with
    | some ad =>
      obtain ⟨v', w', hr, ho, hg, _, ha⟩ := run_append_own_at w base t ty e i z size bytes ht hi hz hsize hby hzs hsz v n xs hown ad 0 c [] hl (fun j u hu => by simp at hu) h1 h63 hbytes hbase
      exact ⟨v', w', hr, ho, hg, ha⟩
    | none =>
      obtain rfl := hn rfl
      have hrun := run_append_owned_none (P := P) (w := w) base t ty e i size ht hi v n xs hown
      exact ⟨v, w, hrun, by simpa using hown, ⟨rfl, rfl, rfl, Nat.le_refl _, fun _ _ _ => rfl⟩, .inl rfl⟩
theorem wpList_append_row_at {P : Program} {w : World} {ops : Array Oper} {rest : List Oper} {o : Oper} {a : Act} {Q : Exit → Act → World → Prop} (hgd : o.guard = none) (s x : Operand) (t : TypeId)
    (ho : o.op = .call { callee := .builtin .append, args := #[s, x], argTypes := #[t, t] })
    (base : Nat) (e : TypeId) (i : TypeInfo) (z : Value) (size bytes : Nat) (ht : P.underlying t = some (.slice e)) (hi : P.info? e = some i) (hz : i.zero = some z)
    (hsize : i.size = size) (hby : i.bytes = bytes) (hzs : z.cells.size = size) (hsz : 0 < size) (v : Value) (n : Nat) (xs : List Value) (hs : a.eval s = v) (hown : w.ownsRow base e size v n xs)
    (S : Nat → Prop) (src : Value) (m : Nat) (news : List Value) (hx : a.eval x = src) (hsrc : Rw w S src m news) (hl : news.length = m * size) (h1 : ∀ u ∈ news, u.oneCell' = true)
    (h63 : n + m ≤ maxLen) (hbytes : (n + m) * bytes ≤ 140737488355328) (hbase : base ≤ w.heap.size)
    (h : ∀ v' w', w'.ownsRow base e size v' (n + m) (xs ++ news) → w.grownBy w' v.ownBlock → (v'.ownBlock = v.ownBlock ∨ v'.ownBlock = some w.heap.size) → wpList P ops Q rest (a.put o.dst v') w') : wpList P ops Q (o :: rest) a w := by
  refine wpList_plain hgd fun K hK => ?_
  obtain ⟨v', w', hr, h2, h3, h4⟩ := run_append_row_at (P := P) (w := w) base t o.type e i z size bytes ht hi hz hsize hby hzs hsz v n xs hown S src m news hsrc hl h1 h63 hbytes hbase
  unfold Oper.wp execOp
  simp only [ho, resolve, invoke, builtin, Sem.run_bind, Sem.run_pure, Result.andThen_ok, List.map_toArray, List.map_cons, List.map_nil, hs, hx, hr]
  exact hK _ _ (h v' w' h2 h3 h4)
theorem infoPtrL : (Try.prog.info? 66).map (fun i => (i.zero, i.size, i.bytes)) = some (some (.pointer none), 1, 8) := by kernel_rfl
/-- The slice value v owns, from block base on, a row of pointers to the blocks A 0 to A (n - 1). -/
def Ok (w : World) (base : Nat) (v : Value) (n : Nat) (A : Nat → Nat) : Prop := w.ownsRow base 66 1 v n (ptrs A n)
theorem Ok.to {w w' : World} {R : Nat → Prop} {base n : Nat} {v : Value} {A : Nat → Nat} (h : Ok w base v n A) (ho : Only R w w') (hR : ∀ k, v.ownBlock = some k → ¬ R k) : Ok w' base v n A := own_kept h ho hR
theorem Ok.kept {w w' : World} {base n : Nat} {v : Value} {A : Nat → Nat} (h : Ok w base v n A) (hb : Below w.heap.size w w') : Ok w' base v n A := h.to (only_of_below hb (fun _ => False)) (fun _ _ h => h)
theorem Ok.shape {w : World} {base n : Nat} {v : Value} {A : Nat → Nat} (h : Ok w base v n A) : ∃ a c, v = .slice a n c := own_shape h
theorem ptrs_snoc (A : Nat → Nat) (n b : Nat) : ptrs A n ++ [ptr b] = ptrs (fun i => if i = n then b else A i) (n + 1) := by
  simp only [ptrs, List.range_succ, List.map_append, List.map_cons, List.map_nil, if_true]
  congr 1
  apply List.map_congr_left
  intro i hi
  rw [if_neg (by have := List.mem_range.1 hi; omega)]
theorem wpList_append_ptr {w : World} {ops : Array Oper} {rest : List Oper} {o : Oper} {a : Act} {Q : Exit → Act → World → Prop} (hgd : o.guard = none) (s x : Operand)
    (ho : o.op = .call { callee := .builtin .append, args := #[s, x], argTypes := #[110, 110] }) (base : Nat) (v : Value) (n : Nat) (A : Nat → Nat) (hs : a.eval s = v) (hown : Ok w base v n A)
    (g b : Nat) (hx : a.eval x = .slice (some ⟨g, 0, none⟩) 1 1) (hc : w.cell? ⟨g, 0, none⟩ = some (.pointer (some ⟨b, 0, none⟩))) (hb : n ≤ 1048576) (hbase : base ≤ w.heap.size)
    (h : ∀ v' w', Ok w' base v' (n + 1) (fun i => if i = n then b else A i) → w.grownBy w' v.ownBlock → (v'.ownBlock = v.ownBlock ∨ v'.ownBlock = some w.heap.size) → wpList Try.prog ops Q rest (a.put o.dst v') w') : wpList Try.prog ops Q (o :: rest) a w := by
  obtain ⟨i, hi, hz, hsz, hby⟩ := info_of infoPtrL
  refine wpList_append_row_at hgd s x 110 ho base 66 i _ 1 8 Try.underlying110 hi hz hsz hby rfl (by decide) v n (ptrs A n) hs hown (fun _ => True) _ 1 [ptr b] hx ?_ rfl (by intro u hu; simp at hu; subst hu; rfl) (by unfold maxLen; omega) (by omega) hbase ?_
  · refine ⟨_, 1, rfl, Nat.le_refl _, by omega, fun h => by omega, fun h => (by cases h), fun _ => ⟨g, 0, rfl, block_lt hc, trivial, fun j u hu => ?_⟩⟩
    cases j with
    | zero => simp at hu; subst hu; simpa [ptr] using hc
    | succ j => simp at hu
  · intro v' w' h1 h2 h3
    refine h v' w' ?_ h2 h3
    unfold Ok
    rw [← ptrs_snoc]
    exact h1
theorem tAt_snoc (ts : List T) (t : T) (i : Nat) (h : i < (ts ++ [t]).length) : tAt (ts ++ [t]) i = if i = ts.length then t else tAt ts i := by
  by_cases e : i = ts.length
  · subst e; simp [tAt]
  · simp at h
    rw [if_neg e]
    simp [tAt, List.getElem?_append_left (show i < ts.length by omega)]
theorem full_ne : ∀ (t : T) (r : Bool), t.full r = true → t.ne
  | .mk ps [], r, h => by
    have := full_lf h
    show ps ≠ []
    rintro rfl
    simp at this
  | .mk ps (k :: ks), r, h => by
    have := full_br h (by simp)
    exact full_ne k false (this.2.2.2 k (by simp))
/-- What the methods ask of a tree. -/
structure Rdy (t : T) : Prop where
  ne : t.ne
  bare : t.bare = false
  few : t.ps.length + t.ks.length ≤ 1048576
  lv : t.lv ≤ 1048576
theorem full_few {t : T} {r : Bool} (h : t.full r = true) : t.ps.length + t.ks.length ≤ 8 ∧ t.bare = false := by
  obtain ⟨ps, ks⟩ := t
  by_cases hk : ks = []
  · subst hk
    have := full_lf h
    simp [T.ps, T.ks, T.bare]
    refine ⟨by omega, ?_⟩
    rintro rfl
    simp at this
  · have := full_br h hk
    simp only [T.ps, T.ks, T.bare, this.2.2.1, List.length_nil, decide_eq_false_iff_not]
    omega
theorem rdy_of {h : Nat} {t : T} {r : Bool} (e : Ev h t) (hu : t.full r = true) (hs : t.size ≤ 1048576) : Rdy t := by
  have h1 := full_few hu
  have h2 := ev_le_size e hu
  have h3 := ev_lv h t e
  exact ⟨full_ne t r hu, h1.2, by omega, by omega⟩
theorem pre_len {ns l : List NB} {a : Nat} (h : Pre ns a l) (hl : 0 < l.length) : a + l.length ≤ ns.length := by
  have := h (l.length - 1) (by omega)
  rw [List.getElem?_eq_getElem (by omega : l.length - 1 < l.length)] at this
  have := (List.getElem?_eq_some_iff.1 this).1
  omega
theorem rdI_rdy {ns : List NB} {f : Nat} {pl : Int} {nx n1 : Nat} {t : T} (h : rdI ns f pl nx = some (t, n1)) (hl : ns.length ≤ 1048576) : Rdy t ∧ n1 ≤ ns.length ∧ nx < n1 := by
  obtain ⟨_, h2, h3, ⟨e, h4⟩, h5, rfl⟩ := rdI_sound ns f pl nx t n1 h
  have h6 := pre_len h5 (by rw [lay_length]; exact T.size_pos t)
  rw [lay_length] at h6
  have := T.size_pos t
  exact ⟨rdy_of h4 h3 (by omega), by omega, by omega⟩
/-- What comes of a reading. -/
def ReadPost (o : Option (T × Nat)) (w : World) (wb : Nat) (nv : Value) (e : Ending) (w' : World) : Prop := match o with
  | none => e = .returned (.pointer none)
  | some (t, n1) => ∃ b, e = .returned (.pointer (some ⟨b, 0, none⟩)) ∧ Limb w' (fun y => w.heap.size ≤ y ∧ y < w'.heap.size) b t ∧ Bk w' wb 114 [nv, .int .i64 n1]
def ReadC (ns : List NB) (f : Nat) : Prop := ∀ (S : Nat → Prop) (wb : Nat) (an : Option Addr) (nn cn : Nat) (pl : Int) (nx : Nat) (w : World), Bk w wb 114 [.slice an nn cn, .int .i64 nx] → Nr w S (.slice an nn cn) ns → ¬ S wb → ns.length < 400 → nx ≤ ns.length → ns.length ≤ nx + f →
  Calls Try.prog 74 #[.pointer (some ⟨wb, 0, none⟩), .int .i64 pl] w fun e w' => ReadPost (rdI ns f pl nx) w wb (.slice an nn cn) e w' ∧ Only (fun b => b = wb) w w'
def brT (ns : List NB) (f : Nat) (x : NB) (nx : Nat) : Option (T × Nat) := if brOk x = true then (match rdIL (rdI ns f) x.keys [] x.kids nx with
  | none => none
  | some (ts, n) => some (.mk [] ts, n)) else none
end Go.Proofs.Ytkflneeifllpgaa
/-
  copy of elements of more than one cell into a row that is known whole. Nothing here speaks of the program.
-/
namespace Go.Proofs.Ytkflneeifllpgaa
open Go.RowKit
theorem run_copy_rowK {P : Program} (w : World) (dT sT ty elem : TypeId) (g o dLen dCap : Nat) (a : Addr) (sLen sCap size : Nat) (cur : List Value) (t : TypeId) (cs : List Value)
    (hu : P.underlying dT = some (.slice elem)) (hs : (P.info? elem).map (·.size) = some size)
    (hg : Bk w g t cur) (hn : cs.length = Nat.min sLen dLen * size)
    (hsrc : ∀ j v, cs[j]? = some v → w.cell? (a.add j) = some v) (hfit : o + cs.length ≤ cur.length) (h1 : ∀ v ∈ cs, v.oneCell' = true) :
    (Builtin.copy_ #[dT, sT] ty #[.slice (some ⟨g, o, none⟩) dLen dCap, .slice (some a) sLen sCap]).run P w =
      .ok (goInt (Nat.min sLen dLen)) (w.setRow g (cur.take o ++ cs ++ cur.drop (o + cs.length)).toArray) := by
  have hl := run_loadCells_list (P := P) w a cs hsrc
  have hst := run_storeCells_at P g o t cs 0 cur.toArray w hg (by simpa using hfit) h1
  cases hq : P.info? elem with
  | none => simp [hq] at hs
  | some i =>
    have hi : i.size = size := by simpa [hq] using hs
    simp only [Nat.add_zero] at hst
    simp [Builtin.copy_, run_underlying hu, Builtin.lenOf, Builtin.firstCells, sizeOf, typeInfo, hq, hi, ← hn, hl, hst]
theorem Bk.setRow {w : World} {g : Nat} {T : TypeId} {xs : List Value} (h : Bk w g T xs) (ys : List Value) : Bk (w.setRow g ys.toArray) g T ys := setRow_heap w g _ _ T _ h
theorem only_setRow {R : Nat → Prop} {w : World} {g : Nat} (h : R g) (cs : Array Value) : Only R w (w.setRow g cs) := by
  refine ⟨rfl, rfl, rfl, by simp [World.setRow], fun b _ hn => ?_⟩
  have : b ≠ g := fun e => hn (e ▸ h)
  simp [World.setRow, Array.getElem?_modify, Ne.symm this]
theorem wpList_copy_run {P : Program} (w : World) {ops : Array Oper} {rest : List Oper} {o : Oper} {a : Act} {Q : Exit → Act → World → Prop} (hgd : o.guard = none) (d s : Operand) (t t' : TypeId)
    (ho : o.op = .call { callee := .builtin .copy, args := #[d, s], argTypes := #[t, t'] }) (v u : Value) (hd : a.eval d = v) (hs : a.eval s = u) {v' : Value} {w' : World}
    (hr : (Builtin.copy_ #[t, t'] o.type #[v, u]).run P w = .ok v' w') (h : wpList P ops Q rest (a.put o.dst v') w') : wpList P ops Q (o :: rest) a w := by
  refine wpList_plain hgd fun K hK => ?_
  unfold Oper.wp execOp
  simp only [ho, resolve, invoke, builtin, Sem.run_bind, Sem.run_pure, Result.andThen_ok, List.map_toArray, List.map_cons, List.map_nil, hd, hs, hr]
  exact hK _ _ h
theorem step_copy_run {P : Program} {ops : Array Oper} {o : Oper} {a : Act} {w : World} {K : Act → World → Prop} {Q : Exit → Act → World → Prop} {E : Prop}
    (hg : o.guard = none) (d x : Operand) (dT sT : TypeId) (hop : o.op = Op.call { callee := Callee.builtin Builtin.copy, args := #[d, x], argTypes := #[dT, sT] })
    (v u : Value) (hd : a.eval d = v) (hx : a.eval x = u) {v' : Value} {w' : World} (hr : (Builtin.copy_ #[dT, sT] o.type #[v, u]).run P w = .ok v' w') (hK : K (a.put o.dst v') w') :
    if Region.wanted o (yielded ops a.tmps) = true then Oper.wp P o a w K Q else E := by
  have hw : Region.wanted o (yielded ops a.tmps) = true := by simp [Region.wanted, hg]
  rw [if_pos hw]
  unfold Oper.wp
  simp [execOp, hop, resolve, invoke, builtin, hd, hx, hr, Result.andThen]
  exact hK
theorem drop_at {A Z : List Value} {m : Nat} (h : A.length = m) (k : Nat) : (A ++ Z).drop (m + k) = Z.drop k := by rw [← h, List.drop_length_add_append]
theorem take_at {A Z : List Value} {m : Nat} (h : A.length = m) : (A ++ Z).take m = A := by rw [← h, List.take_left']; rfl
theorem bk_take {w : World} {g : Nat} {T : TypeId} {cl : List Value} (h : Bk w g T cl) {m j : Nat} {u : Value} (hu : (cl.take m)[j]? = some u) : w.cell? ⟨g, j, none⟩ = some u := by
  refine h.cell ?_
  rw [List.getElem?_take] at hu
  split at hu
  · exact hu
  · cases hu
/-- What a row holds behind an insertion in place. -/
theorem ins_list (cur ys : List Value) (i n s : Nat) (hn : (n + 1) * s ≤ cur.length) (hi : i ≤ n) (hy : ys.length = s) :
    let c1 := cur.take ((i + 1) * s) ++ (cur.take (n * s)).drop (i * s) ++ cur.drop ((i + 1) * s + ((cur.take (n * s)).drop (i * s)).length)
    (c1.take (i * s) ++ ys ++ c1.drop (i * s + ys.length)).take ((n + 1) * s) = (cur.take (n * s)).take (i * s) ++ ys ++ (cur.take (n * s)).drop (i * s) := by
  have e1 : (i + 1) * s = i * s + s := by rw [Nat.add_mul, Nat.one_mul]
  have e2 : (n + 1) * s = n * s + s := by rw [Nat.add_mul, Nat.one_mul]
  have e3 : i * s ≤ n * s := Nat.mul_le_mul_right s hi
  have hl : ((cur.take (n * s)).drop (i * s)).length = n * s - i * s := by rw [List.length_drop, List.length_take]; omega
  intro c1
  have hA : (cur.take ((i + 1) * s)).length = i * s + s := by rw [List.length_take]; omega
  have hc1t : c1.take (i * s) = cur.take (i * s) := by
    show (cur.take ((i + 1) * s) ++ _ ++ _).take (i * s) = _
    rw [List.append_assoc, List.take_append_of_le_length (by omega), List.take_take, Nat.min_eq_left (by omega)]
  have hc1d : c1.drop (i * s + ys.length) = (cur.take (n * s)).drop (i * s) ++ cur.drop ((i + 1) * s + ((cur.take (n * s)).drop (i * s)).length) := by
    show (cur.take ((i + 1) * s) ++ _ ++ _).drop (i * s + ys.length) = _
    rw [List.append_assoc, List.drop_append_of_le_length (by omega), List.drop_eq_nil_of_le (by omega), List.nil_append]
  rw [hc1t, hc1d, List.take_take, Nat.min_eq_left e3]
  rw [← List.append_assoc]
  rw [List.take_append_of_le_length (by simp only [List.length_append, List.length_take, hl]; omega)]
  rw [List.take_of_length_le (by simp only [List.length_append, List.length_take, hl]; omega)]
end Go.Proofs.Ytkflneeifllpgaa
/-
  A sub of the specification: a flag and two slices, its pairs and its kids.
-/
namespace Go.Proofs.Ytkflneeifllpgaa
open Go.RowKit

def mkV (L : Nat → Bool) (P K : Nat → Value) (n : Nat) : List V3 := (List.range n).map fun i => (.bool (L i), P i, K i)
theorem mkV_length (L : Nat → Bool) (P K : Nat → Value) (n : Nat) : (mkV L P K n).length = n := by simp [mkV]
theorem mkV_at (L : Nat → Bool) (P K : Nat → Value) (n i : Nat) (h : i < n) : vAt (mkV L P K n) i = (.bool (L i), P i, K i) := by simp [mkV, vAt, h]
/-- The three values are in w the sub t; what is read lies in blocks of S. -/
inductive Sub (w : World) (S : Nat → Prop) : Bool → Value → Value → T → Prop
  | mk (lf : Bool) (pv kv : Value) (ps : List PB) (ks : List T) (L : Nat → Bool) (P K : Nat → Value) (hlf : lf = decide (ks.length = 0)) (hP : Pr w S pv ps)
      (hK : Rw w S kv ks.length (ncs (mkV L P K ks.length))) (hk : ∀ i, i < ks.length → Sub w S (L i) (P i) (K i) (tAt ks i)) : Sub w S lf pv kv (.mk ps ks)
theorem Sub.to {w w' : World} {S R : Nat → Prop} (ho : Only R w w') (hR : ∀ x, S x → x < w.heap.size → ¬ R x) {lf : Bool} {pv kv : Value} {t : T} (h : Sub w S lf pv kv t) : Sub w' S lf pv kv t := by
  induction h with
  | mk lf pv kv ps ks L P K hlf hP hK hk ih => exact .mk lf pv kv ps ks L P K hlf (hP.to ho hR) (hK.to ho hR) ih
theorem Sub.mono {w : World} {S R : Nat → Prop} (hR : ∀ x, S x → x < w.heap.size → R x) {lf : Bool} {pv kv : Value} {t : T} (h : Sub w S lf pv kv t) : Sub w R lf pv kv t := by
  induction h with
  | mk lf pv kv ps ks L P K hlf hP hK hk ih => exact .mk lf pv kv ps ks L P K hlf (Rw.mono hP hR) (hK.mono hR) ih
theorem Sub.kept {w w' : World} {S : Nat → Prop} {lf : Bool} {pv kv : Value} {t : T} (h : Sub w S lf pv kv t) (hb : Below w.heap.size w w') : Sub w' S lf pv kv t := h.to (only_of_below hb (fun _ => False)) (fun _ _ _ h => h)
theorem Sub.shape {w : World} {S : Nat → Prop} {lf : Bool} {pv kv : Value} {t : T} (h : Sub w S lf pv kv t) : ∃ ap np cp ak nk ck, pv = .slice ap np cp ∧ kv = .slice ak nk ck ∧ Hid (np = t.ps.length) ∧ Hid (nk = t.ks.length) ∧ np ≤ 9223372036854775807 ∧ nk ≤ 9223372036854775807 ∧ lf = decide (nk = 0) ∧ Pr w S (.slice ap np cp) t.ps := by
  cases h with
  | mk lf pv kv ps ks L P K hlf hP hK hk =>
    obtain ⟨ap, cp, rfl, h1, h2⟩ := hP.shape
    obtain ⟨ak, ck, rfl, h3, h4⟩ := hK.shape
    exact ⟨ap, _, cp, ak, _, ck, rfl, rfl, rfl, rfl, by omega, by omega, hlf, hP⟩
theorem Sub.kids {w : World} {S : Nat → Prop} {lf : Bool} {pv : Value} {ak : Option Addr} {nk ck : Nat} {t : T} (h : Sub w S lf pv (.slice ak nk ck) t) (hp : 0 < nk) : ∃ g off, ak = some ⟨g, off, none⟩ ∧ S g ∧ g < w.heap.size ∧ ∀ i, i < nk → ∃ l ap np cp ak' nk' ck',
    w.cell? ⟨g, off + i * 3, none⟩ = some (.bool l) ∧ w.cell? ⟨g, off + i * 3 + 1, none⟩ = some (.slice ap np cp) ∧ w.cell? ⟨g, off + i * 3 + 2, none⟩ = some (.slice ak' nk' ck') ∧ Sub w S l (.slice ap np cp) (.slice ak' nk' ck') (tAt t.ks i) := by
  cases h with
  | mk lf pv kv ps ks L P K hlf hP hK hk =>
    have hn := (Rw.len hK).1
    obtain ⟨g, off, h1, h2, h3, h4⟩ := hK.at hp
    refine ⟨g, off, h1, h2, h3, fun i hi => ?_⟩
    have hik : i < ks.length := by omega
    obtain ⟨c0, c1, c2⟩ := ncs_at (mkV L P K ks.length) i (by rw [mkV_length]; exact hik)
    rw [mkV_at _ _ _ _ _ hik] at c0 c1 c2
    have d0 := h4 _ _ c0
    have d1 := h4 _ _ c1
    have d2 := h4 _ _ c2
    have hs := hk i hik
    obtain ⟨ap, np, cp, ak', nk', ck', e1, e2, _⟩ := hs.shape
    simp only at d1 d2
    rw [e1] at d1 hs
    rw [e2] at d2 hs
    exact ⟨L i, ap, np, cp, ak', nk', ck', d0, d1, d2, hs⟩
theorem infoSub : (Try.prog.info? 74).map (fun i => (i.zero, i.size, i.bytes)) = some (some (.agg #[.bool false, .slice none 0 0, .slice none 0 0]), 3, 56) := by kernel_rfl
set_option maxHeartbeats 2000000 in
theorem specLeast_any (t : T) : ∀ (S : Nat → Prop) (lf : Bool) (ap ak : Option Addr) (np cp nk ck : Nat) (w : World), Sub w S lf (.slice ap np cp) (.slice ak nk ck) t →
    Calls Try.prog 122 #[.agg #[.bool lf, .slice ap np cp, .slice ak nk ck]] w fun e w' => e = .returned (.string t.least) ∧ Below w.heap.size w w' := by
  induction t using T.ind
  rename_i ps ks ih
  intro S lf ap ak np cp nk ck w h
  obtain ⟨ap', np', cp', ak', nk', ck', e1, e2, HNP, HNK, b1, b2, hlf, hP⟩ := h.shape
  cases e1
  cases e2
  have H0 := hid h
  have HP := hid hP
  have HIH := hid ih
  clear h ih hP
  have HB0 := hid (below_new (o := .cells #[.bool lf, .slice ap np cp, .slice ak nk ck] 74) (w := w) (Below.refl _ _))
  by_cases hk : nk = 0
  · have hlf' : lf = true := by rw [hlf, hk]; rfl
    have hks : ks = [] := List.eq_nil_of_length_eq_zero (by have := HNK.out; simp only [T.ks] at this; omega)
    clear H0 hlf
    subst hlf' hks hk
    by_cases hp : np = 0
    · have HE : Hid ((T.mk ps []).least = ⟨#[]⟩) := by
        have : ps = [] := List.eq_nil_of_length_eq_zero (by have := HNP.out; simp only [T.ps] at this; omega)
        subst this; rfl
      clear HP
      subst hp
      go_enter Try.func122, Try.ntmps122
      go_wp2
      go_ret
      exact ⟨by rw [HE.out]; rfl, HB0.out⟩
    · obtain ⟨b, off, hap, _, hbw, hcell⟩ := HP.out.at (by omega)
      subst hap
      have hc := (hcell 0 (by omega)).1
      have HE : Hid ((T.mk ps []).least = (pAtB ps 0).1) := by
        show (ps.head?.map (·.1)).getD ⟨#[]⟩ = _
        cases ps <;> rfl
      simp only [T.ps, Nat.zero_mul, Nat.add_zero] at hc
      generalize (pAtB ps 0).1 = k0 at *
      have hp' : (0 : Int) < (np : Int) := by omega
      clear hcell
      go_enter Try.func122, Try.ntmps122
      go_wp2
      go_ret
      exact ⟨by rw [HE.out]; rfl, HB0.out⟩
  · have hlf' : lf = false := by rw [hlf]; simp [hk]
    subst hlf'
    have hk' : (0 : Int) < (nk : Int) := by omega
    obtain ⟨g, off, hak, _, hgw, hkid⟩ := (H0.out.kept HB0.out).kids (by omega)
    subst hak
    obtain ⟨l1, ap1, np1, cp1, ak1, nk1, ck1, c0, c1, c2, hs⟩ := hkid 0 (by omega)
    simp only [Nat.zero_mul, Nat.add_zero, T.ks] at c0 c1 c2 hs
    have HS := hid hs
    have hne : ks ≠ [] := by rintro rfl; have := HNK.out; simp [T.ks] at this; omega
    have HM : Hid (tAt ks 0 ∈ ks ∧ (T.mk ps ks).least = (tAt ks 0).least) := by
      cases ks with
      | nil => exact absurd rfl hne
      | cons k ks => exact ⟨by simp [tAt], rfl⟩
    clear hkid hs hne hlf hk
    go_enter Try.func122, Try.ntmps122
    go_wp2_with fail
    refine (HIH.out (tAt ks 0) HM.out.1 S l1 ap1 ak1 np1 cp1 nk1 ck1 _ HS.out).mono ?_
    rintro e w1 ⟨rfl, hb1⟩
    have HB1 := hid (HB0.out.trans (hb1.mono HB0.out.size))
    clear hb1
    go_wp2
    go_ret
    exact ⟨by rw [HM.out.2]; rfl, HB1.out⟩
end Go.Proofs.Ytkflneeifllpgaa
/-
  l03Deep, l03Full, l03Pairs of the specification.
-/
namespace Go.Proofs.Ytkflneeifllpgaa
open Go.RowKit
mutual
def T.ht : T → Nat | .mk _ ks => 1 + htL ks
def htL : List T → Nat | [] => 0 | k :: ks => max k.ht (htL ks)
end
theorem htL_mem (ks : List T) : ∀ k ∈ ks, k.ht ≤ htL ks := by
  induction ks with
  | nil => intro k h; cases h
  | cons x ks ih =>
    intro k h
    simp only [htL]
    rcases List.mem_cons.1 h with rfl | h
    · omega
    · have := ih k h; omega
theorem ev_ht : ∀ (h : Nat) (t : T), Ev h t → h ≤ t.ht
  | 0, _, e => e.elim
  | h + 1, .mk ps ks, e => by
    rcases e with ⟨_, rfl⟩ | ⟨e1, e2⟩
    · simp [T.ht]
    · obtain ⟨k, hk⟩ := List.exists_mem_of_ne_nil ks e1
      have h1 := ev_ht h k (e2 k hk)
      have h2 := htL_mem ks k hk
      simp only [T.ht]
      omega
theorem dp_bound (t : T) : -1 ≤ t.dp ∧ t.dp ≤ t.ht := by
  have hlo : -1 ≤ t.dp := by
    obtain ⟨ps, ks⟩ := t
    by_cases hk : ks = []
    · subst hk; simp [T.dp]
    · have e : (T.mk ps ks).dp = dpL true 0 ks := by simp [T.dp, hk]
      rw [e]
      rcases dpL_neg_or ks true 0 with h | ⟨h, _⟩
      · omega
      · obtain ⟨k, hk'⟩ := List.exists_mem_of_ne_nil ks hk
        have := h k hk'
        omega
  refine ⟨hlo, ?_⟩
  by_cases h0 : 0 ≤ t.dp
  · have := ev_ht _ t (dp_ev t h0)
    omega
  · omega
theorem tAt_mem {ks : List T} {k : Nat} (h : k < ks.length) : tAt ks k ∈ ks := by
  simp only [tAt, List.getElem?_eq_getElem h, Option.getD_some]
  exact List.getElem_mem h
theorem drop_tAt {ks : List T} {k : Nat} (h : k < ks.length) : ks.drop k = tAt ks k :: ks.drop (k + 1) := by
  rw [List.drop_eq_getElem_cons h]
  simp [tAt, h]
set_option maxHeartbeats 4000000 in
theorem specDeep_any (t : T) : ∀ (S : Nat → Prop) (lf : Bool) (ap ak : Option Addr) (np cp nk ck : Nat) (w : World), Sub w S lf (.slice ap np cp) (.slice ak nk ck) t → t.ht ≤ 1048576 →
    Calls Try.prog 80 #[.agg #[.bool lf, .slice ap np cp, .slice ak nk ck]] w fun e w' => e = .returned (.int .i64 t.dp) ∧ Below w.heap.size w w' := by
  induction t using T.ind
  rename_i ps ks ih
  intro S lf ap ak np cp nk ck w h hht
  obtain ⟨ap', np', cp', ak', nk', ck', e1, e2, HNP, HNK, b1, b2, hlf, hP⟩ := h.shape
  cases e1
  cases e2
  have H0 := hid h
  have HIH := hid ih
  have HHT := hid hht
  clear h ih hP hht
  have HB0 := hid (below_new (o := .cells #[.bool lf, .slice ap np cp, .slice ak nk ck] 74) (w := w) (Below.refl _ _))
  have KP := hid (Bk.new w 74 [.bool lf, .slice ap np cp, .slice ak nk ck])
  simp only [T.ks] at HNK
  by_cases hk : nk = 0
  · have hlf' : lf = true := by rw [hlf, hk]; rfl
    have hks : ks = [] := List.eq_nil_of_length_eq_zero (by have := HNK.out; omega)
    have HE : Hid ((T.mk ps ks).dp = 1) := by show _ = _; subst hks; simp [T.dp]
    clear H0 hlf hks
    subst hlf' hk
    go_enter Try.func80, Try.ntmps80
    go_wp2
    go_ret
    exact ⟨by rw [HE.out]; rfl, HB0.out⟩
  · have hlf' : lf = false := by rw [hlf]; simp [hk]
    subst hlf'
    have HE : Hid ((T.mk ps ks).dp = dpL true 0 ks) := by
      show _ = _
      have : ks ≠ [] := by rintro rfl; have := HNK.out; simp at this; omega
      simp [T.dp, this]
    clear hlf
    go_enter Try.func80, Try.ntmps80
    go_wp2_with fail
    go_loopw [3, 11] (fun d i wr => ∃ (k : Nat) (z : Int), k ≤ nk ∧ i = .int .i64 k ∧ d = .int .i64 z ∧ Hid (dpL (decide (k = 0)) z (ks.drop k) = dpL true 0 ks) ∧ Hid (Bk wr w.heap.size 74 [.bool false, .slice ap np cp, .slice ak nk ck]) ∧ Hid (Below w.heap.size w wr)) (fun _ i _ => nk - (intOf i).toNat)
    case atStart => exact ⟨0, 0, Nat.zero_le _, rfl, rfl, rfl, KP.out, HB0.out⟩
    case round =>
      obtain ⟨k, z, hkn, rfl, rfl, HD, HK, HB⟩ := hrel
      by_cases hlt : k < nk
      · have hlt' : (k : Int) < (nk : Int) := by omega
        have hks : k < ks.length := by rw [← HNK.out]; exact hlt
        obtain ⟨g, off, hak, _, hgw, hkid⟩ := (H0.out.kept HB.out).kids (by omega)
        subst hak
        obtain ⟨l1, ap1, np1, cp1, ak1, nk1, ck1, c0, c1, c2, hs⟩ := hkid k hlt
        simp only [T.ks] at hs
        have HS := hid hs
        have p2 := HK.out.cell (j := 2) rfl
        clear hkid hs hgw
        have HHK : Hid ((tAt ks k).ht ≤ 1048576) := by
          show _ ≤ _
          have h1 := htL_mem ks _ (tAt_mem hks)
          have h2 := HHT.out
          simp only [T.ht] at h2
          omega
        have HDD : Hid (dpL (decide (k = 0)) z (ks.drop k) = if (tAt ks k).dp < 0 ∨ (decide (k = 0) = false ∧ (tAt ks k).dp + 1 ≠ z) then -1 else dpL false ((tAt ks k).dp + 1) (ks.drop (k + 1))) := by
          show _ = _
          rw [drop_tAt hks, dpL]
        go_wp2_with fail
        refine (HIH.out (tAt ks k) (tAt_mem hks) S l1 ap1 ak1 np1 cp1 nk1 ck1 wr HS.out HHK.out).mono ?_
        rintro e w1 ⟨rfl, hb1⟩
        have HB1 := hid (HB.out.trans (hb1.mono HB.out.size))
        have HK1 := hid (HK.out.below hb1)
        have hdb := dp_bound (tAt ks k)
        have hdb2 : (tAt ks k).dp ≤ 1048576 := by have := HHK.out; omega
        generalize (tAt ks k).dp = y at *
        clear hb1 HK HB c0 c1 c2 p2
        by_cases hy : y < 0
        · have HR : Hid ((T.mk ps ks).dp = -1) := by show _ = _; rw [HE.out, ← HD.out, HDD.out, if_pos (.inl hy)]
          clear hdb
          go_wp2
          go_ret
          exact ⟨by rw [HR.out]; rfl, HB1.out⟩
        · clear hdb
          cases k with
          | zero =>
            have HD2 : Hid (dpL (decide (0 + 1 = 0)) (y + 1) (ks.drop (0 + 1)) = dpL true 0 ks) := by
              show _ = _
              rw [← HD.out, HDD.out, if_neg]
              · rfl
              · rintro (h | ⟨h, _⟩)
                · exact hy h
                · simp at h
            go_wp2
            go_roundw
            case rel => exact ⟨0 + 1, y + 1, by omega, by go_num, by go_num, HD2.out, HK1.out, HB1.out⟩
            case measure => simp [intOf]; omega
          | succ k' =>
            have hk1 : (0 : Int) < (k' : Int) + 1 := by omega
            by_cases hyz : y + 1 = z
            · have HD2 : Hid (dpL (decide (k' + 1 + 1 = 0)) (y + 1) (ks.drop (k' + 1 + 1)) = dpL true 0 ks) := by
                show _ = _
                rw [← HD.out, HDD.out, if_neg]
                · rfl
                · rintro (h | ⟨_, h⟩)
                  · exact hy h
                  · exact h hyz
              have hne : (y + 1 != z) = false := by simp [hyz]
              clear hyz
              go_wp2
              go_roundw
              case rel => exact ⟨k' + 1 + 1, y + 1, by omega, by go_num, by go_num, HD2.out, HK1.out, HB1.out⟩
              case measure => simp [intOf]; omega
            · have HR : Hid ((T.mk ps ks).dp = -1) := by show _ = _; rw [HE.out, ← HD.out, HDD.out, if_pos (.inr ⟨by simp, hyz⟩)]
              have hne : (y + 1 != z) = true := by simp [hyz]
              clear hyz
              go_wp2
              go_ret
              exact ⟨by rw [HR.out]; rfl, HB1.out⟩
      · have hk' : k = nk := by omega
        have HR : Hid ((T.mk ps ks).dp = z) := by
          show _ = _
          rw [HE.out, ← HD.out, hk', HNK.out, List.drop_length]
          rfl
        clear hk' HD
        go_wp2
        go_ret
        exact ⟨by rw [HR.out]; rfl, HB.out⟩
set_option maxHeartbeats 4000000 in
theorem specFull_any (t : T) : ∀ (S : Nat → Prop) (root lf : Bool) (ap ak : Option Addr) (np cp nk ck : Nat) (w : World), Sub w S lf (.slice ap np cp) (.slice ak nk ck) t →
    Calls Try.prog 79 #[.agg #[.bool lf, .slice ap np cp, .slice ak nk ck], .bool root] w fun e w' => e = .returned (.bool (t.full root)) ∧ Below w.heap.size w w' := by
  induction t using T.ind
  rename_i ps ks ih
  intro S root lf ap ak np cp nk ck w h
  obtain ⟨ap', np', cp', ak', nk', ck', e1, e2, HNP, HNK, b1, b2, hlf, hP⟩ := h.shape
  cases e1
  cases e2
  have H0 := hid h
  have HIH := hid ih
  clear h ih hP
  have HB0 := hid (below_new (o := .cells #[.bool lf, .slice ap np cp, .slice ak nk ck] 74) (w := w) (Below.refl _ _))
  have KP := hid (Bk.new w 74 [.bool lf, .slice ap np cp, .slice ak nk ck])
  simp only [T.ks, T.ps] at HNK HNP
  by_cases hk : nk = 0
  · have hlf' : lf = true := by rw [hlf, hk]; rfl
    have hks : ks = [] := List.eq_nil_of_length_eq_zero (by have := HNK.out; omega)
    have HE : Hid ((T.mk ps ks).full root = (decide (np ≤ 4) && (decide (2 ≤ np) || root && decide (np = 1)))) := by show _ = _; rw [HNP.out]; subst hks; simp [T.full]
    clear H0 hlf hks
    subst hlf' hk
    by_cases a1 : np ≤ 4
    · have e1 : (np : Int) ≤ 4 := by omega
      by_cases a2 : 2 ≤ np
      · have e2 : (2 : Int) ≤ (np : Int) := by omega
        have HR : Hid ((T.mk ps ks).full root = true) := by show _ = _; rw [HE.out]; simp [a1, a2]
        go_enter Try.func79, Try.ntmps79
        go_wp2
        go_ret
        exact ⟨by rw [HR.out]; rfl, HB0.out⟩
      · have e2 : ¬ (2 : Int) ≤ (np : Int) := by omega
        cases root
        · have HR : Hid ((T.mk ps ks).full false = false) := by show _ = _; rw [HE.out]; simp [a2]
          go_enter Try.func79, Try.ntmps79
          go_wp2
          go_ret
          exact ⟨by rw [HR.out]; rfl, HB0.out⟩
        · by_cases a3 : np = 1
          · have e3 : ((np : Int) == 1) = true := by simp; omega
            have HR : Hid ((T.mk ps ks).full true = true) := by show _ = _; rw [HE.out]; simp [a3]
            clear a3
            go_enter Try.func79, Try.ntmps79
            go_wp2
            go_ret
            exact ⟨by rw [HR.out]; rfl, HB0.out⟩
          · have e3 : ((np : Int) == 1) = false := by simp; omega
            have HR : Hid ((T.mk ps ks).full true = false) := by show _ = _; rw [HE.out]; simp [a2, a3]
            clear a3
            go_enter Try.func79, Try.ntmps79
            go_wp2
            go_ret
            exact ⟨by rw [HR.out]; rfl, HB0.out⟩
    · have e1 : ¬ (np : Int) ≤ 4 := by omega
      have HR : Hid ((T.mk ps ks).full root = false) := by show _ = _; rw [HE.out]; simp [a1]
      go_enter Try.func79, Try.ntmps79
      go_wp2
      go_ret
      exact ⟨by rw [HR.out]; rfl, HB0.out⟩
  · have hlf' : lf = false := by rw [hlf]; simp [hk]
    subst hlf'
    have HE : Hid ((T.mk ps ks).full root = (decide (2 ≤ nk) && decide (nk ≤ 4) && decide (np = 0) && fullL ks)) := by
      show _ = _
      have : ks ≠ [] := by rintro rfl; have := HNK.out; simp at this; omega
      rw [HNP.out, HNK.out]
      simp [T.full, this]
    clear hlf
    by_cases a1 : nk < 2
    · have e1 : (nk : Int) < 2 := by omega
      have HR : Hid ((T.mk ps ks).full root = false) := by show _ = _; rw [HE.out]; simp; omega
      go_enter Try.func79, Try.ntmps79
      go_wp2
      go_ret
      exact ⟨by rw [HR.out]; rfl, HB0.out⟩
    · have e1 : ¬ (nk : Int) < 2 := by omega
      by_cases a2 : 4 < nk
      · have e2 : (4 : Int) < (nk : Int) := by omega
        have HR : Hid ((T.mk ps ks).full root = false) := by show _ = _; rw [HE.out]; simp; omega
        go_enter Try.func79, Try.ntmps79
        go_wp2
        go_ret
        exact ⟨by rw [HR.out]; rfl, HB0.out⟩
      · have e2 : ¬ (4 : Int) < (nk : Int) := by omega
        by_cases a3 : 0 < np
        · have e3 : (0 : Int) < (np : Int) := by omega
          have HR : Hid ((T.mk ps ks).full root = false) := by show _ = _; rw [HE.out]; simp; omega
          go_enter Try.func79, Try.ntmps79
          go_wp2
          go_ret
          exact ⟨by rw [HR.out]; rfl, HB0.out⟩
        · have e3 : ¬ (0 : Int) < (np : Int) := by omega
          have HE2 : Hid ((T.mk ps ks).full root = fullL ks) := by show _ = _; rw [HE.out]; simp [show np = 0 by omega, show 2 ≤ nk by omega, show nk ≤ 4 by omega]
          go_enter Try.func79, Try.ntmps79
          go_wp2_with fail
          go_loopw [46] (fun i wr => ∃ (k : Nat), k ≤ nk ∧ i = .int .i64 k ∧ Hid (fullL (ks.drop k) = fullL ks) ∧ Hid (Bk wr w.heap.size 74 [.bool false, .slice ap np cp, .slice ak nk ck]) ∧ Hid (Below w.heap.size w wr)) (fun i _ => nk - (intOf i).toNat)
          case atStart => exact ⟨0, Nat.zero_le _, rfl, rfl, KP.out, HB0.out⟩
          case round =>
            obtain ⟨k, hkn, rfl, HD, HK, HB⟩ := hrel
            by_cases hlt : k < nk
            · have hlt' : (k : Int) < (nk : Int) := by omega
              have hks : k < ks.length := by rw [← HNK.out]; exact hlt
              obtain ⟨g, off, hak, _, hgw, hkid⟩ := (H0.out.kept HB.out).kids (by omega)
              subst hak
              obtain ⟨l1, ap1, np1, cp1, ak1, nk1, ck1, c0, c1, c2, hs⟩ := hkid k hlt
              simp only [T.ks] at hs
              have HS := hid hs
              have p2 := HK.out.cell (j := 2) rfl
              clear hkid hs hgw
              have HDD : Hid (fullL (ks.drop k) = ((tAt ks k).full false && fullL (ks.drop (k + 1)))) := by
                show _ = _
                rw [drop_tAt hks, fullL]
              go_wp2_with fail
              refine (HIH.out (tAt ks k) (tAt_mem hks) S false l1 ap1 ak1 np1 cp1 nk1 ck1 wr HS.out).mono ?_
              rintro e w1 ⟨rfl, hb1⟩
              have HB1 := hid (HB.out.trans (hb1.mono HB.out.size))
              have HK1 := hid (HK.out.below hb1)
              clear hb1 HK HB c0 c1 c2 p2
              cases hy : (tAt ks k).full false
              · have HR : Hid ((T.mk ps ks).full root = false) := by show _ = _; rw [HE2.out, ← HD.out, HDD.out, hy]; rfl
                clear hy
                go_wp2
                go_ret
                exact ⟨by rw [HR.out]; rfl, HB1.out⟩
              · have HD2 : Hid (fullL (ks.drop (k + 1)) = fullL ks) := by show _ = _; rw [← HD.out, HDD.out, hy]; rfl
                clear hy
                go_wp2
                go_roundw
                case rel => exact ⟨k + 1, by omega, by go_num, HD2.out, HK1.out, HB1.out⟩
                case measure => simp [intOf]; omega
            · have hk' : k = nk := by omega
              have HR : Hid ((T.mk ps ks).full root = true) := by
                show _ = _
                rw [HE2.out, ← HD.out, hk', HNK.out, List.drop_length]
                rfl
              clear hk' HD
              go_wp2
              go_ret
              exact ⟨by rw [HR.out]; rfl, HB.out⟩
set_option maxHeartbeats 4000000 in
theorem specPairs_any (t : T) : ∀ (S : Nat → Prop) (lf : Bool) (ap ak : Option Addr) (np cp nk ck : Nat) (w : World), Sub w S lf (.slice ap np cp) (.slice ak nk ck) t → t.all.length ≤ 1048576 →
    Calls Try.prog 43 #[.agg #[.bool lf, .slice ap np cp, .slice ak nk ck]] w fun e w' => ∃ v, e = .returned v ∧ Ow w' w.heap.size v t.all ∧ Below w.heap.size w w' := by
  induction t using T.ind
  rename_i ps ks ih
  intro S lf ap ak np cp nk ck w h hal
  obtain ⟨ap', np', cp', ak', nk', ck', e1, e2, HNP, HNK, b1, b2, hlf, hP⟩ := h.shape
  cases e1
  cases e2
  have H0 := hid h
  have HP := hid hP
  have HIH := hid ih
  have HAL : Hid (ps.length + (allL ks).length ≤ 1048576) := by show _ ≤ _; simpa [T.all] using hal
  clear h ih hP hal hlf
  have HB0 : Hid (Below w.heap.size w ((w.alloc (.cells #[.bool lf, .slice ap np cp, .slice ak nk ck] 74)).alloc (.cells #[] 35))) := below_new (below_new (Below.refl _ _))
  have KP := hid ((Bk.new w 74 [.bool lf, .slice ap np cp, .slice ak nk ck]).alloc (.cells #[] 35))
  have HO : Hid (Ow ((w.alloc (.cells #[.bool lf, .slice ap np cp, .slice ak nk ck] 74)).alloc (.cells #[] 35)) (w.heap.size + 1) (.slice (some ⟨w.heap.size + 1, 0, none⟩) 0 0) []) := by
    have := ow_new (w.alloc (.cells #[.bool lf, .slice ap np cp, .slice ak nk ck] 74)) (w.heap.size + 1) (by simp)
    show Ow _ _ _ _
    simpa using this
  simp only [T.ks, T.ps] at HNK HNP HP
  go_enter Try.func43, Try.ntmps43
  go_wp2_with (at_builtin; refine wpList_append_pairs rfl _ _ rfl (w.heap.size + 1) _ [] rfl HO.out S _ ps rfl (HP.out.below HB0.out) ?q1 ?q2 ?_)
  case q1 => have := HAL.out; simp; omega
  case q2 => simp
  intro v1 w1 hO1 hg1
  have HB1 : Hid (Below (w.heap.size + 1) ((w.alloc (.cells #[.bool lf, .slice ap np cp, .slice ak nk ck] 74)).alloc (.cells #[] 35)) w1) := grown_belowB HO.out hg1 (by simp)
  have HO1 := hid hO1
  have HBW := hid (HB0.out.trans (HB1.out.mono (by omega)))
  have KP1 : Hid (Bk w1 w.heap.size 74 [.bool lf, .slice ap np cp, .slice ak nk ck]) := KP.out.to (only_of_belowB HB1.out) (by omega)
  obtain ⟨a1, n1, cc1, hv1, HN1⟩ := hO1.shape'
  subst hv1
  have p2 := KP1.out.cell (j := 2) rfl
  clear hO1 hg1 HB1 HB0 KP HO
  go_wp2_with fail
  go_loopw [3, 12] (fun x i wr => ∃ (k : Nat) (v' : Value), k ≤ nk ∧ i = .int .i64 k ∧ x = v' ∧ Hid (Ow wr (w.heap.size + 1) v' (ps ++ allL (ks.take k))) ∧ Hid (Bk wr w.heap.size 74 [.bool lf, .slice ap np cp, .slice ak nk ck]) ∧ Hid (Below w.heap.size w wr)) (fun _ i _ => nk - (intOf i).toNat)
  case atStart => exact ⟨0, _, Nat.zero_le _, rfl, rfl, by show Ow _ _ _ _; simpa [allL] using HO1.out, KP1.out, HBW.out⟩
  case round =>
    obtain ⟨k, v', hkn, rfl, hv', HO2, HK, HB⟩ := hrel
    obtain ⟨a2, n2, cc2, hv2, HN2⟩ := HO2.out.shape'
    subst hv2
    subst hv'
    clear p2
    by_cases hlt : k < nk
    · have hlt' : (k : Int) < (nk : Int) := by omega
      have hks : k < ks.length := by rw [← HNK.out]; exact hlt
      obtain ⟨g, off, hak, _, hgw, hkid⟩ := (H0.out.kept HB.out).kids (by omega)
      subst hak
      obtain ⟨l1, ap1, np1, cp1, ak1, nk1, ck1, c0, c1, c2, hs⟩ := hkid k hlt
      simp only [T.ks] at hs
      have HS := hid hs
      have p2 := HK.out.cell (j := 2) rfl
      clear hkid hs hgw
      have HTK : Hid (allL (ks.take (k + 1)) = allL (ks.take k) ++ (tAt ks k).all) := allL_take ks k hks
      have HLN : Hid ((ps ++ allL (ks.take k)).length + (tAt ks k).all.length ≤ 1048576) := by
        show _ ≤ _
        have h1 := allL_take_le ks (k + 1)
        have h2 := HAL.out
        rw [HTK.out] at h1
        simp only [List.length_append] at h1 ⊢
        omega
      go_wp2_with fail
      refine (HIH.out (tAt ks k) (tAt_mem hks) S l1 ap1 ak1 np1 cp1 nk1 ck1 wr HS.out (by have := HLN.out; omega)).mono ?_
      rintro e w2 ⟨v3, rfl, hO3, hb2⟩
      obtain ⟨a3, n3, cc3, hv3, HN3⟩ := hO3.shape'
      subst hv3
      have HO3 := hid hO3
      have HO4 := hid (HO2.out.kept hb2)
      have HK2 := hid (HK.out.below hb2)
      have HB2 := hid (HB.out.trans (hb2.mono HB.out.size))
      have HSZ : Hid (w.heap.size + 1 ≤ w2.heap.size) := HK2.out.lt
      clear hO3 hb2 HO2 HK HB c0 c1 c2 p2
      go_wp2_with (at_builtin; refine wpList_append_pairs rfl _ _ rfl (w.heap.size + 1) _ (ps ++ allL (ks.take k)) rfl HO4.out (fun _ => True) _ (tAt ks k).all rfl (HO3.out.pr (fun _ _ _ _ => trivial)) ?q1 ?q2 ?_)
      case q1 => have := HLN.out; omega
      case q2 => exact HSZ.out
      intro v5 w5 hO5 hg5
      have HB5 := grown_belowB HO4.out hg5 HSZ.out
      have HO5 : Hid (Ow w5 (w.heap.size + 1) v5 (ps ++ allL (ks.take (k + 1)))) := by
        show Ow _ _ _ _
        rw [HTK.out]
        simpa using hO5
      have HK5 : Hid (Bk w5 w.heap.size 74 [.bool lf, .slice ap np cp, .slice (some ⟨g, off, none⟩) nk ck]) := HK2.out.to (only_of_belowB HB5) (by omega)
      have HBB := hid (HB2.out.trans (HB5.mono (by omega)))
      obtain ⟨a5, n5, cc5, hv5, HN5⟩ := hO5.shape'
      subst hv5
      clear hO5 hg5 HB5 HO3 HO4 HK2 HB2
      go_wp2
      go_roundw
      case rel => exact ⟨k + 1, _, by omega, by go_num, rfl, HO5.out, HK5.out, HBB.out⟩
      case measure => simp [intOf]; omega
    · have hk' : k = nk := by omega
      have HF : Hid (Ow wr w.heap.size (.slice a2 n2 cc2) (T.mk ps ks).all) := by
        show Ow _ _ _ _
        have e : (T.mk ps ks).all = ps ++ allL (ks.take k) := by rw [hk', HNK.out, List.take_length]; simp [T.all]
        rw [e]
        exact own_mono HO2.out (by omega)
      clear hk'
      go_wp2
      go_ret
      exact ⟨_, rfl, HF.out, HB.out⟩
end Go.Proofs.Ytkflneeifllpgaa
/-
  l03Read of the specification: what is kept while it reads.
-/
namespace Go.Proofs.Ytkflneeifllpgaa
open Go.RowKit
theorem load_sub {w : World} {g : Nat} {x y z : Value} (c0 : w.cell? ⟨g, 0, none⟩ = some x) (c1 : w.cell? ⟨g, 1, none⟩ = some y) (c2 : w.cell? ⟨g, 2, none⟩ = some z) :
    (loadVar 74 ⟨g, 0, none⟩).run Try.prog w = .ok (.agg #[x, y, z]) w := by go_simp
theorem results_sub3 {fn : Func} {p u v : Tmp} (h : fn.results = #[.cell p 74, .tmp u, .tmp v]) (tmps : Array Value) (w : World) (g : Nat) {x y z b d : Value} (hp : tmps.getD p undef = .pointer (some ⟨g, 0, none⟩)) (hb : tmps.getD u undef = b) (hd : tmps.getD v undef = d)
    (c0 : w.cell? ⟨g, 0, none⟩ = some x) (c1 : w.cell? ⟨g, 1, none⟩ = some y) (c2 : w.cell? ⟨g, 2, none⟩ = some z) : (results fn tmps).run Try.prog w = .ok (.tuple #[.agg #[x, y, z], b, d]) w := by
  have hp' : tmps[p]?.getD undef = .pointer (some ⟨g, 0, none⟩) := by simpa using hp
  have hb' : tmps[u]?.getD undef = b := by simpa using hb
  have hd' : tmps[v]?.getD undef = d := by simpa using hd
  simp [results, h, hp', hb', hd', asAddr, load_sub c0 c1 c2]
/-- What comes of the specification's reading. -/
def SubPost (o : Option (T × Nat)) (w : World) (e : Ending) (w' : World) : Prop := match o with
  | none => e = .returned (.tuple #[.agg #[.bool false, .slice none 0 0, .slice none 0 0], .int .i64 0, .bool false])
  | some (t, n) => ∃ lf ap np cp ak nk ck, e = .returned (.tuple #[.agg #[.bool lf, .slice ap np cp, .slice ak nk ck], .int .i64 (n : Nat), .bool true]) ∧ Sub w' (fun y => w.heap.size ≤ y ∧ y < w'.heap.size) lf (.slice ap np cp) (.slice ak nk ck) t
theorem mkV_snoc (L : Nat → Bool) (P K : Nat → Value) (n : Nat) (l : Bool) (p k : Value) : mkV L P K n ++ [(.bool l, p, k)] = mkV (fun i => if i = n then l else L i) (fun i => if i = n then p else P i) (fun i => if i = n then k else K i) (n + 1) := by
  simp only [mkV, List.range_succ, List.map_append, List.map_cons, List.map_nil, if_true]
  congr 1
  apply List.map_congr_left
  intro i hi
  have : i ≠ n := by have := List.mem_range.1 hi; omega
  simp [this]
structure SpI (w wr : World) (sb bs : Nat) (lf : Bool) (nv pv : Value) (ps : List PB) (ts : List T) (kv : Value) (L : Nat → Bool) (P K : Nat → Value) : Prop where
  lo : w.heap.size + 3 ≤ sb ∧ sb < bs
  hi : bs ≤ wr.heap.size
  tre : Bk wr w.heap.size 25 [nv]
  res : Bk wr (w.heap.size + 1) 74 [.bool false, .slice none 0 0, .slice none 0 0]
  sub : Bk wr sb 74 [.bool lf, pv, kv]
  par : Pr wr (fun y => w.heap.size + 3 ≤ y ∧ y < bs ∧ y ≠ sb) pv ps
  row : wr.ownsRow bs 74 3 kv ts.length (ncs (mkV L P K ts.length))
  kid : ∀ i, i < ts.length → Sub wr (fun y => bs ≤ y ∧ y < wr.heap.size ∧ kv.ownBlock ≠ some y) (L i) (P i) (K i) (tAt ts i)
  bel : Below w.heap.size w wr
theorem SpI.keep {w wr w1 : World} {sb bs : Nat} {lf : Bool} {nv pv : Value} {ps : List PB} {ts : List T} {kv : Value} {L : Nat → Bool} {P K : Nat → Value} (h : SpI w wr sb bs lf nv pv ps ts kv L P K) (hb : Below wr.heap.size wr w1) : SpI w w1 sb bs lf nv pv ps ts kv L P K :=
  ⟨h.lo, Nat.le_trans h.hi hb.size, h.tre.below hb, h.res.below hb, h.sub.below hb, h.par.below hb, own_kept h.row (only_of_below hb (fun _ => False)) (fun _ _ h => h), fun i hi => ((h.kid i hi).kept hb).mono (fun _ hx _ => ⟨hx.1, Nat.lt_of_lt_of_le hx.2.1 hb.size, hx.2.2⟩), h.bel.trans (hb.mono h.bel.size)⟩
theorem SpI.push {w u w2 : World} {sb bs : Nat} {lf : Bool} {nv pv : Value} {ps : List PB} {ts : List T} {kv v' : Value} {L : Nat → Bool} {P K : Nat → Value} (h : SpI w u sb bs lf nv pv ps ts kv L P K)
    {l : Bool} {p k : Value} {t : T} (hl : Sub u (fun y => bs ≤ y ∧ y < u.heap.size ∧ kv.ownBlock ≠ some y) l p k t)
    (ho : w2.ownsRow bs 74 3 v' (ts.length + 1) (ncs (mkV L P K ts.length) ++ [.bool l, p, k])) (hg : u.grownBy w2 kv.ownBlock) (ha : v'.ownBlock = kv.ownBlock ∨ v'.ownBlock = some u.heap.size) :
    SpI w (w2.setCell ⟨sb, 2, none⟩ v') sb bs lf nv pv ps (ts ++ [t]) v' (fun i => if i = ts.length then l else L i) (fun i => if i = ts.length then p else P i) (fun i => if i = ts.length then k else K i) := by
  have hlo := h.lo
  have hkv := fun x e => (World.ownsRow.lt h.row x e).1
  have hsz : u.heap.size ≤ w2.heap.size := hg.size
  have hsb := h.sub.lt
  have hav : ∀ x, v'.ownBlock = some x → bs ≤ x := fun x e => (World.ownsRow.lt ho x e).1
  have o1 : Only (fun b => some b = kv.ownBlock) u w2 := only_of_grown hg (fun k e => e.symm)
  have o2 : Only (fun b => b = sb) w2 (w2.setCell ⟨sb, 2, none⟩ v') := only_set (R := fun b => b = sb) rfl _
  have o3 : Only (fun b => some b = kv.ownBlock ∨ b = sb) u (w2.setCell ⟨sb, 2, none⟩ v') := (o1.mono (fun _ _ e => .inl e)).then o2 (fun _ _ e => .inr e)
  have hz : (w2.setCell ⟨sb, 2, none⟩ v').heap.size = w2.heap.size := by simp [World.setCell]
  have hR : ∀ y, y < bs → y ≠ sb → ¬ (some y = kv.ownBlock ∨ y = sb) := by
    rintro y hy hne (e | e)
    · have := hkv y e.symm; omega
    · exact hne e
  have fin : ∀ {l : Bool} {p k : Value} {t : T}, Sub u (fun y => bs ≤ y ∧ y < u.heap.size ∧ kv.ownBlock ≠ some y) l p k t → Sub (w2.setCell ⟨sb, 2, none⟩ v') (fun y => bs ≤ y ∧ y < (w2.setCell ⟨sb, 2, none⟩ v').heap.size ∧ v'.ownBlock ≠ some y) l p k t := by
    intro l p k t hs
    refine (hs.to o3 (fun x hx _ => ?_)).mono (fun x hx _ => ⟨hx.1, by rw [hz]; omega, ?_⟩)
    · rintro (e | e)
      · exact hx.2.2 e.symm
      · have := hx.1; omega
    · rcases ha with ha | ha
      · rw [ha]; exact hx.2.2
      · rw [ha]; intro e; cases e; omega
  have hhi := h.hi
  refine ⟨h.lo, by rw [hz]; omega, h.tre.to o3 (hR _ (by omega) (by omega)), h.res.to o3 (hR _ (by omega) (by omega)), ?_, h.par.to o3 (fun y hy _ => hR y hy.2.1 hy.2.2), ?_, ?_, ?_⟩
  · have k1 := h.sub.to o1 (fun e => by have := hkv sb e.symm; omega)
    exact k1.set 2 v'
  · rw [List.length_append]
    have := own_kept ho o2 (fun x e => by have := hav x e; omega)
    rw [show [Value.bool l, p, k] = ncs [(.bool l, p, k)] from rfl, ← ncs_append, mkV_snoc] at this
    exact this
  · intro i hi
    rw [tAt_snoc _ _ _ hi]
    by_cases e : i = ts.length
    · subst e
      simp only [if_true]
      exact fin hl
    · simp only [e, if_false]
      simp at hi
      exact fin (h.kid i (by omega))
  · exact (h.bel.trans (o3.below (by have := h.bel.size; omega) (fun y hy => hR y (by omega) (by omega))))
theorem SpI.done {w wr : World} {sb bs : Nat} {lf : Bool} {nv pv : Value} {ps : List PB} {ts : List T} {kv : Value} {L : Nat → Bool} {P K : Nat → Value} (h : SpI w wr sb bs lf nv pv ps ts kv L P K) (hlf : lf = decide (ts.length = 0)) :
    Sub wr (fun y => (w.heap.size ≤ y ∧ y < wr.heap.size) ∧ y ≠ w.heap.size + 1) lf pv kv (.mk ps ts) := by
  have hlo := h.lo
  have hsb := h.sub.lt
  refine .mk lf pv kv ps ts L P K hlf (Rw.mono h.par (fun y hy hy2 => ⟨⟨by omega, hy2⟩, by omega⟩)) (rw_own h.row (fun y _ h1 h2 => ⟨⟨by omega, h2⟩, by omega⟩)) (fun i hi => (h.kid i hi).mono (fun y hy _ => ⟨⟨by omega, hy.2.1⟩, by omega⟩))
theorem ow_at {W : World} {g base : Nat} (hg : W.heap[g]? = some (.cells #[] 35 (0, 0))) (hb : base ≤ g) : Ow W base (.slice (some ⟨g, 0, none⟩) 0 0) [] :=
  ⟨rfl, .inr ⟨g, 0, #[], rfl, hb, hg, Nat.le_refl _, by decide, rfl, rfl⟩⟩
theorem kc2g {u v v' : World} {a0 a1 : Addr} {x0 x1 : Value} {row : Option Nat} (hg : v.grownBy v' row) (hr : ∀ k, row = some k → u.heap.size ≤ k) (h : v.cell? a0 = some x0 ∧ v.cell? a1 = some x1 ∧ KC u v [(a0, x0), (a1, x1)]) : v'.cell? a0 = some x0 ∧ v'.cell? a1 = some x1 ∧ KC u v' [(a0, x0), (a1, x1)] :=
  kc2 ⟨h.2.2.cells, h.2.2.bel.grown hg h.2.2.bel.size hr⟩
theorem kc2w {u v : World} {o o' : Obj} {a0 a1 : Addr} {x0 x1 : Value} (hs : u.heap.size ≤ v.heap.size) (h : (v.alloc o).cell? a0 = some x0 ∧ (v.alloc o).cell? a1 = some x1 ∧ KC u (v.alloc o) [(a0, x0), (a1, x1)]) : (v.alloc o').cell? a0 = some x0 ∧ (v.alloc o').cell? a1 = some x1 ∧ KC u (v.alloc o') [(a0, x0), (a1, x1)] := by
  obtain ⟨_, _, h1, h2⟩ := h
  refine kc2 ⟨h1, h2.os, h2.tape, h2.output, by simp; omega, fun k hk => ?_⟩
  rw [Below.heap_alloc _ _ _ (by omega), ← h2.block k hk, Below.heap_alloc _ _ _ (by omega)]
theorem kc2s {u v : World} {g i j k : Nat} {x y z : Value} {a0 a1 : Addr} {x0 x1 : Value} (hs : u.heap.size ≤ g) (h : v.cell? a0 = some x0 ∧ v.cell? a1 = some x1 ∧ KC u v [(a0, x0), (a1, x1)]) :
    (((v.setCell ⟨g, i, none⟩ x).setCell ⟨g, j, none⟩ y).setCell ⟨g, k, none⟩ z).cell? a0 = some x0 ∧ (((v.setCell ⟨g, i, none⟩ x).setCell ⟨g, j, none⟩ y).setCell ⟨g, k, none⟩ z).cell? a1 = some x1 ∧ KC u (((v.setCell ⟨g, i, none⟩ x).setCell ⟨g, j, none⟩ y).setCell ⟨g, k, none⟩ z) [(a0, x0), (a1, x1)] :=
  kc2 ⟨h.2.2.cells, ((h.2.2.bel.setCell hs _).setCell hs _).setCell hs _⟩
/-- append onto a new row without elements, as one step of a region that draws. -/
theorem step_clone {w : World} {ops : Array Oper} {o : Oper} {a : Act} {K : Act → World → Prop} {Q : Exit → Act → World → Prop} {E : Prop} (hgd : o.guard = none) (s x : Operand)
    (ho : o.op = .call { callee := .builtin .append, args := #[s, x], argTypes := #[32, 32] }) (base g : Nat) (hs : a.eval s = .slice (some ⟨g, 0, none⟩) 0 0) (hown : w.heap[g]? = some (.cells #[] 35 (0, 0))) (hbg : base ≤ g)
    (S : Nat → Prop) (src : Value) (m : List PB) (hx : a.eval x = src) (hsrc : Pr w S src m) (hb : m.length ≤ 2097154)
    (h : ∀ a' n' c' w', Ow w' base (.slice a' n' c') m → w.grownBy w' (some g) → ((Value.slice a' n' c').ownBlock = some g ∨ (Value.slice a' n' c').ownBlock = some w.heap.size) → (∀ b o, b < w.heap.size → b ≠ g → w'.cell? ⟨b, o, none⟩ = w.cell? ⟨b, o, none⟩) → (∀ b o, b < w.heap.size → b ≠ g → w'.frozen? ⟨b, o, none⟩ = w.frozen? ⟨b, o, none⟩) → K (a.put o.dst (.slice a' n' c')) w') :
    if Region.wanted o (yielded ops a.tmps) = true then Oper.wp Try.prog o a w K Q else E := by
  have hw : Region.wanted o (yielded ops a.tmps) = true := by simp [Region.wanted, hgd]
  rw [if_pos hw]
  have hO := ow_at hown hbg
  have hlt : g < w.heap.size := (Array.getElem?_eq_some_iff.1 hown).1
  obtain ⟨i, hi, hz, hsz, hby⟩ := info_of infoPairI
  obtain ⟨v', w', hr, h2, h3, h5⟩ := run_append_row_at (P := Try.prog) (w := w) base 32 o.type 35 i _ 2 32 Try.underlying32 hi hz hsz hby rfl (by decide) _ 0 [] hO S src m.length (pcs m) hsrc (pcs_length m) (pcs_one m) (by unfold maxLen; omega) (by omega) (by omega)
  have h4 : Ow w' base v' m := by
    unfold Ow
    simpa using h2
  obtain ⟨a', n', c', rfl, _⟩ := h4.shape'
  unfold Oper.wp execOp
  simp only [ho, resolve, invoke, builtin, Sem.run_bind, Sem.run_pure, Result.andThen_ok, List.map_toArray, List.map_cons, List.map_nil, hs, hx, hr]
  exact h a' n' c' w' h4 h3 h5 (fun b o hb hne => World.cell?_of_block (w := w) (h3.block b hb (fun e => hne (by cases e; rfl)))) (fun b o hb hne => World.frozen?_of_block (w := w) (h3.block b hb (fun e => hne (by cases e; rfl))))
/-- The new sub, laid ahead of its pairs' row. -/
theorem meet_set {U W w2 : World} {g sb : Nat} {lf : Bool} {a2 : Option Addr} {n2 c2 : Nat} {ps : List PB} (hb : Below U.heap.size U W) (hW : U.heap.size ≤ W.heap.size) (hO : Ow w2 U.heap.size (.slice a2 n2 c2) ps) (hg : W.grownBy w2 (some g)) (hat : (Value.slice a2 n2 c2).ownBlock = some g ∨ (Value.slice a2 n2 c2).ownBlock = some W.heap.size)
    (hs : W.heap[sb]? = some (.cells #[.bool false, .slice none 0 0, .slice none 0 0] 74 (0, 0))) (hne : sb ≠ g) (h1 : U.heap.size ≤ sb) (h2 : U.heap.size ≤ g) :
    Below U.heap.size U (((w2.setCell ⟨sb, 0, none⟩ (.bool lf)).setCell ⟨sb, 1, none⟩ (.slice a2 n2 c2)).setCell ⟨sb, 2, none⟩ (.slice none 0 0)) ∧ U.heap.size ≤ sb ∧ sb < w2.heap.size ∧ w2.heap.size ≤ (((w2.setCell ⟨sb, 0, none⟩ (.bool lf)).setCell ⟨sb, 1, none⟩ (.slice a2 n2 c2)).setCell ⟨sb, 2, none⟩ (.slice none 0 0)).heap.size ∧
      Bk (((w2.setCell ⟨sb, 0, none⟩ (.bool lf)).setCell ⟨sb, 1, none⟩ (.slice a2 n2 c2)).setCell ⟨sb, 2, none⟩ (.slice none 0 0)) sb 74 [.bool lf, .slice a2 n2 c2, .slice none 0 0] ∧
      Pr (((w2.setCell ⟨sb, 0, none⟩ (.bool lf)).setCell ⟨sb, 1, none⟩ (.slice a2 n2 c2)).setCell ⟨sb, 2, none⟩ (.slice none 0 0)) (fun y => U.heap.size ≤ y ∧ y < w2.heap.size ∧ y ≠ sb) (.slice a2 n2 c2) ps := by
  have hlt : sb < W.heap.size := (Array.getElem?_eq_some_iff.1 hs).1
  have hB : Bk w2 sb 74 [.bool false, .slice none 0 0, .slice none 0 0] := (hg.block sb hlt (fun e => hne (by cases e; rfl))).trans hs
  have hbel : Below U.heap.size U w2 := hb.grown hg hW (fun k e => by cases e; exact h2)
  have hpn : ∀ k, (Value.slice a2 n2 c2).ownBlock = some k → k ≠ sb := by
    rintro k hk rfl
    rcases hat with h | h
    · rw [hk] at h; cases h; exact hne rfl
    · rw [hk] at h; cases h; omega
  have o : Only (fun y => y = sb) w2 (((w2.setCell ⟨sb, 0, none⟩ (.bool lf)).setCell ⟨sb, 1, none⟩ (.slice a2 n2 c2)).setCell ⟨sb, 2, none⟩ (.slice none 0 0)) := ((only_set (R := fun y => y = sb) rfl _).trans (only_set (R := fun y => y = sb) rfl _)).trans (only_set (R := fun y => y = sb) rfl _)
  refine ⟨((hbel.setCell h1 _).setCell h1 _).setCell h1 _, h1, hB.lt, by simp [World.setCell], ((hB.set _ _).set _ _).set _ _, ?_⟩
  exact Rw.to (hO.pr (fun k hk h3 h4 => ⟨h3, h4, hpn k hk⟩)) o (fun y hy _ e => hy.2.2 e)
/-- The new sub, laid behind its pairs' row. -/
theorem meet_new {U W w2 : World} {g : Nat} {lf : Bool} {a2 : Option Addr} {n2 c2 : Nat} {ps : List PB} (hb : Below U.heap.size U W) (hW : U.heap.size ≤ W.heap.size) (hO : Ow w2 U.heap.size (.slice a2 n2 c2) ps) (hg : W.grownBy w2 (some g)) (h2 : U.heap.size ≤ g) :
    Below U.heap.size U (w2.alloc (.cells #[.bool lf, .slice a2 n2 c2, .slice none 0 0] 74)) ∧ U.heap.size ≤ w2.heap.size ∧ w2.heap.size < w2.heap.size + 1 ∧ w2.heap.size + 1 ≤ (w2.alloc (.cells #[.bool lf, .slice a2 n2 c2, .slice none 0 0] 74)).heap.size ∧
      Bk (w2.alloc (.cells #[.bool lf, .slice a2 n2 c2, .slice none 0 0] 74)) w2.heap.size 74 [.bool lf, .slice a2 n2 c2, .slice none 0 0] ∧
      Pr (w2.alloc (.cells #[.bool lf, .slice a2 n2 c2, .slice none 0 0] 74)) (fun y => U.heap.size ≤ y ∧ y < w2.heap.size + 1 ∧ y ≠ w2.heap.size) (.slice a2 n2 c2) ps := by
  have hbel : Below U.heap.size U w2 := hb.grown hg hW (fun k e => by cases e; exact h2)
  refine ⟨hbel.alloc hbel.size _, hbel.size, by omega, by simp, Bk.new w2 74 [.bool lf, .slice a2 n2 c2, .slice none 0 0], ?_⟩
  exact Rw.below (hO.pr (fun k _ h3 h4 => ⟨h3, by omega, by omega⟩)) (below_new (Below.refl _ _))
/-- append as one step of a region that draws. -/
theorem step_append_pairs {w : World} {ops : Array Oper} {o : Oper} {a : Act} {K : Act → World → Prop} {Q : Exit → Act → World → Prop} {E : Prop} (hgd : o.guard = none) (s x : Operand)
    (ho : o.op = .call { callee := .builtin .append, args := #[s, x], argTypes := #[32, 32] }) (base : Nat) (v : Value) (l : List PB) (hs : a.eval s = v) (hown : Ow w base v l)
    (S : Nat → Prop) (src : Value) (m : List PB) (hx : a.eval x = src) (hsrc : Pr w S src m) (hb : l.length + m.length ≤ 2097154) (hbase : base ≤ w.heap.size)
    (h : ∀ v' w', Ow w' base v' (l ++ m) → w.grownBy w' v.ownBlock → K (a.put o.dst v') w') :
    if Region.wanted o (yielded ops a.tmps) = true then Oper.wp Try.prog o a w K Q else E := by
  have hw : Region.wanted o (yielded ops a.tmps) = true := by simp [Region.wanted, hgd]
  rw [if_pos hw]
  obtain ⟨i, hi, hz, hsz, hby⟩ := info_of infoPairI
  obtain ⟨v', w', hr, h2, h3⟩ := run_append_row (P := Try.prog) (w := w) base 32 o.type 35 i _ 2 32 Try.underlying32 hi hz hsz hby rfl (by decide) v l.length (pcs l) hown S src m.length (pcs m) hsrc (pcs_length m) (pcs_one m) (by unfold maxLen; omega) (by omega) hbase
  unfold Oper.wp execOp
  simp only [ho, resolve, invoke, builtin, Sem.run_bind, Sem.run_pure, Result.andThen_ok, List.map_toArray, List.map_cons, List.map_nil, hs, hx, hr]
  refine h v' w' ?_ h3
  unfold Ow
  rw [List.length_append, pcs_append]
  exact h2
theorem wpList_append_sub {w : World} {ops : Array Oper} {rest : List Oper} {o : Oper} {a : Act} {Q : Exit → Act → World → Prop} (hgd : o.guard = none) (s x : Operand)
    (ho : o.op = .call { callee := .builtin .append, args := #[s, x], argTypes := #[72, 72] }) (base : Nat) (v : Value) (n : Nat) (V : List V3) (hs : a.eval s = v) (hown : w.ownsRow base 74 3 v n (ncs V))
    (g : Nat) (l : Bool) (ap : Option Addr) (np cp : Nat) (ak : Option Addr) (nk ck : Nat) (hx : a.eval x = .slice (some ⟨g, 0, none⟩) 1 1) (hB : Bk w g 74 [.bool l, .slice ap np cp, .slice ak nk ck]) (hb : n ≤ 1048576) (hbase : base ≤ w.heap.size)
    (h : ∀ v' w', w'.ownsRow base 74 3 v' (n + 1) (ncs V ++ [.bool l, .slice ap np cp, .slice ak nk ck]) → w.grownBy w' v.ownBlock → (v'.ownBlock = v.ownBlock ∨ v'.ownBlock = some w.heap.size) → wpList Try.prog ops Q rest (a.put o.dst v') w') : wpList Try.prog ops Q (o :: rest) a w := by
  obtain ⟨i, hi, hz, hsz, hby⟩ := info_of infoSub
  refine wpList_append_row_at hgd s x 72 ho base 74 i _ 3 56 Try.underlying72 hi hz hsz hby rfl (by decide) v n (ncs V) hs hown (fun _ => True) _ 1 [.bool l, .slice ap np cp, .slice ak nk ck] hx (hB.rw (Nat.le_refl _) (by omega) (fun h => by omega) _ trivial) rfl
    (by intro u hu; simp at hu; rcases hu with rfl | rfl | rfl <;> rfl) (by unfold maxLen; omega) (by omega) hbase h
theorem rdSL_cons (rd : Int → Option (T × Nat)) (k : Int) (kids : List Int) (nx : Nat) : rdSL rd (k :: kids) nx = if k ≠ (nx : Int) then none else match rd k with
    | none => none
    | some (t, n1) => match rdSL rd kids n1 with
      | none => none
      | some (ts, n2) => some (t :: ts, n2) := rfl
/-- What is told at the end, ts having been read. -/
def rdJ (rd : Int → Option (T × Nat)) (ts : List T) (kids : List Int) (nx : Nat) : Option (List T × Nat) := match rdSL rd kids nx with
  | none => none
  | some (ts', n) => some (ts ++ ts', n)
theorem rdJ_nil (rd : Int → Option (T × Nat)) (kids : List Int) (nx : Nat) : rdJ rd [] kids nx = rdSL rd kids nx := by
  rw [rdJ]
  cases rdSL rd kids nx with
  | none => rfl
  | some x => obtain ⟨ts, n⟩ := x; rfl
theorem rdJ_no (rd : Int → Option (T × Nat)) (ts : List T) (k : Int) (kids : List Int) (nx : Nat) (h : k ≠ (nx : Int) ∨ rd k = none) : rdJ rd ts (k :: kids) nx = none := by
  rw [rdJ, rdSL_cons]
  by_cases e : k = (nx : Int)
  · rw [if_neg (fun h => h e)]
    rcases h with h | h
    · exact absurd e h
    · rw [h]
  · rw [if_pos e]
theorem rdJ_step (rd : Int → Option (T × Nat)) (ts : List T) (k : Int) (kids : List Int) (nx n1 : Nat) (t : T) (e : k = (nx : Int)) (h : rd k = some (t, n1)) : rdJ rd ts (k :: kids) nx = rdJ rd (ts ++ [t]) kids n1 := by
  rw [rdJ, rdSL_cons, if_neg (fun h => h e), h, rdJ]
  simp only
  cases rdSL rd kids n1 with
  | none => rfl
  | some x => obtain ⟨ts', n⟩ := x; simp
theorem rdJ_end (rd : Int → Option (T × Nat)) (ts : List T) (nx : Nat) : rdJ rd ts [] nx = some (ts, nx) := by simp [rdJ, rdSL]
end Go.Proofs.Ytkflneeifllpgaa
/-
  A list of nodes that is being laid: a row of one's own, each node's slices apart from it.
-/
namespace Go.Proofs.Ytkflneeifllpgaa
open Go.RowKit
/-- A node's rows are its own. -/
def OwN (w : World) (p : V3) (x : NB) : Prop := w.ownsRow 0 35 2 p.1 x.ps.length (pcs x.ps) ∧ w.ownsRow 0 9 1 p.2.1 x.keys.length (x.keys.map Value.string) ∧ w.ownsRow 0 3 1 p.2.2 x.kids.length (x.kids.map (Value.int .i64))
def bl (p : V3) (y : Nat) : Prop := p.1.ownBlock = some y ∨ p.2.1.ownBlock = some y ∨ p.2.2.ownBlock = some y
def ap3 (p : V3) : Prop := ∀ y, (p.1.ownBlock = some y → p.2.1.ownBlock ≠ some y ∧ p.2.2.ownBlock ≠ some y) ∧ (p.2.1.ownBlock = some y → p.2.2.ownBlock ≠ some y)
theorem OwN.to {w w' : World} {R : Nat → Prop} {p : V3} {x : NB} (h : OwN w p x) (ho : Only R w w') (hR : ∀ y, bl p y → ¬ R y) : OwN w' p x :=
  ⟨own_kept h.1 ho (fun y e => hR y (.inl e)), own_kept h.2.1 ho (fun y e => hR y (.inr (.inl e))), own_kept h.2.2 ho (fun y e => hR y (.inr (.inr e)))⟩
theorem OwN.lt {w : World} {p : V3} {x : NB} (h : OwN w p x) {y : Nat} (hy : bl p y) : y < w.heap.size := by
  rcases hy with e | e | e
  · exact (World.ownsRow.lt h.1 y e).2
  · exact (World.ownsRow.lt h.2.1 y e).2
  · exact (World.ownsRow.lt h.2.2 y e).2
theorem own_lower {w : World} {base : Nat} {e : TypeId} {size n : Nat} {v : Value} {xs : List Value} (h : w.ownsRow base e size v n xs) : w.ownsRow 0 e size v n xs := by
  refine ⟨h.1, h.2.imp id ?_⟩
  rintro ⟨g, cap, cur, h1, h2, h3⟩
  exact ⟨g, cap, cur, h1, Nat.zero_le _, h3⟩
theorem own_ge {w : World} {base : Nat} {e : TypeId} {size n : Nat} {v : Value} {xs : List Value} (h : w.ownsRow base e size v n xs) (k : Nat) (hk : v.ownBlock = some k) : base ≤ k := by
  rcases h.2 with ⟨rfl, _⟩ | ⟨g, cap, cur, rfl, hb, _⟩
  · cases hk
  · cases hk; exact hb
/-- A node whose rows are its own, in blocks of F, apart from each other. -/
def N1K (w : World) (F : Nat → Prop) (p : V3) (x : NB) : Prop := N1 w F p x ∧ OwN w p x ∧ ap3 p ∧ ∀ y, bl p y → F y
theorem N1K.to {w w' : World} {S R : Nat → Prop} {p : V3} {x : NB} (h : N1K w S p x) (ho : Only R w w') (hd : ∀ b, S b → b < w.heap.size → ¬ R b) : N1K w' S p x :=
  ⟨h.1.to ho hd, h.2.1.to ho (fun y hy => hd y (h.2.2.2 y hy) (h.2.1.lt hy)), h.2.2⟩
theorem N1K.mono {w : World} {S R : Nat → Prop} {p : V3} {x : NB} (h : N1K w S p x) (hd : ∀ b, S b → b < w.heap.size → R b) : N1K w R p x :=
  ⟨h.1.mono hd, h.2.1, h.2.2.1, fun y hy => hd y (h.2.2.2 y hy) (h.2.1.lt hy)⟩
theorem OwN.n1 {w : World} {S : Nat → Prop} {p : V3} {x : NB} (h : OwN w p x) (hS : ∀ y, bl p y → S y) : N1 w S p x :=
  ⟨rw_own h.1 (fun k e _ _ => hS k (.inl e)), rw_own h.2.1 (fun k e _ _ => hS k (.inr (.inl e))), rw_own h.2.2 (fun k e _ _ => hS k (.inr (.inr e)))⟩
theorem n1K_nil (w : World) (F : Nat → Prop) : N1K w F (.slice none 0 0, .slice none 0 0, .slice none 0 0) ⟨[], [], []⟩ :=
  ⟨⟨rw_nil _ _, rw_nil _ _, rw_nil _ _⟩, ⟨World.ownsRow_nil _ _ _ _, World.ownsRow_nil _ _ _ _, World.ownsRow_nil _ _ _ _⟩, fun y => ⟨fun e => by (cases e), fun e => by (cases e)⟩, fun y hy => by rcases hy with e | e | e <;> cases e⟩
def apartV (V : List V3) (n : Nat) : Prop := ∀ i j, i < n → j < n → i ≠ j → ∀ y, bl (vAt V i) y → ¬ bl (vAt V j) y
/-- The nodes ns lie in a row of their own, their rows too, all apart. -/
def NrK (w : World) (S : Nat → Prop) (v : Value) (ns : List NB) : Prop := ∃ V : List V3, V.length = ns.length ∧ (w.ownsRow 0 106 3 v ns.length (ncs V) ∧ ∀ y, v.ownBlock = some y → S y) ∧ (∀ i, i < ns.length → N1K w S (vAt V i) (nAt ns i)) ∧ apartV V ns.length ∧ ∀ i, i < ns.length → ∀ y, bl (vAt V i) y → v.ownBlock ≠ some y
theorem NrK.to {w w' : World} {S R : Nat → Prop} {v : Value} {ns : List NB} (h : NrK w S v ns) (ho : Only R w w') (hd : ∀ b, S b → b < w.heap.size → ¬ R b) : NrK w' S v ns := by
  obtain ⟨V, h1, h2, h3, h4⟩ := h
  exact ⟨V, h1, ⟨own_kept h2.1 ho (fun k hk => hd k (h2.2 k hk) (World.ownsRow.lt h2.1 k hk).2), h2.2⟩, fun i hi => (h3 i hi).to ho hd, h4⟩
theorem NrK.mono {w : World} {S R : Nat → Prop} {v : Value} {ns : List NB} (h : NrK w S v ns) (hd : ∀ b, S b → b < w.heap.size → R b) : NrK w R v ns := by
  obtain ⟨V, h1, h2, h3, h4⟩ := h
  exact ⟨V, h1, ⟨h2.1, fun y hy => hd y (h2.2 y hy) (World.ownsRow.lt h2.1 y hy).2⟩, fun i hi => (h3 i hi).mono hd, h4⟩
theorem NrK.below {w w' : World} {S : Nat → Prop} {v : Value} {ns : List NB} (h : NrK w S v ns) (hb : Below w.heap.size w w') : NrK w' S v ns := h.to (only_of_below hb (fun _ => False)) (fun _ _ _ h => h)
theorem NrK.nr {w : World} {S : Nat → Prop} {v : Value} {ns : List NB} (h : NrK w S v ns) : Nr w S v ns := by
  obtain ⟨V, h1, h2, h3, h4⟩ := h
  exact ⟨V, h1, rw_own h2.1 (fun y hy _ _ => h2.2 y hy), fun i hi => (h3 i hi).1⟩
theorem nrK_nil (w : World) (S : Nat → Prop) : NrK w S (.slice none 0 0) [] := ⟨[], rfl, ⟨World.ownsRow_nil _ _ _ _, fun y hy => by cases hy⟩, fun i hi => by simp at hi, fun i j hi => absurd hi (Nat.not_lt_zero _), fun i hi => by simp at hi⟩
/-- The slice value v owns a row of the nodes ns; what the nodes lead to lies in blocks of F. -/
def NO (w : World) (F : Nat → Prop) (v : Value) (ns : List NB) : Prop :=
  ∃ V : List V3, V.length = ns.length ∧ w.ownsRow 0 106 3 v ns.length (ncs V) ∧ (∀ i, i < ns.length → N1K w F (vAt V i) (nAt ns i)) ∧ (∀ y, F y → y < w.heap.size ∧ v.ownBlock ≠ some y) ∧ apartV V ns.length
theorem NO.to {w w' : World} {R F : Nat → Prop} {v : Value} {ns : List NB} (h : NO w F v ns) (ho : Only R w w') (hv : ∀ y, v.ownBlock = some y → ¬ R y) (hF : ∀ y, F y → ¬ R y) : NO w' F v ns := by
  obtain ⟨V, h1, h2, h3, h4, h5⟩ := h
  exact ⟨V, h1, own_kept h2 ho hv, fun i hi => (h3 i hi).to ho (fun y hy _ => hF y hy), fun y hy => ⟨Nat.lt_of_lt_of_le (h4 y hy).1 ho.size, (h4 y hy).2⟩, h5⟩
theorem NO.kept {w w' : World} {F : Nat → Prop} {v : Value} {ns : List NB} (h : NO w F v ns) (hb : Below w.heap.size w w') : NO w' F v ns := h.to (only_of_below hb (fun _ => False)) (fun _ _ h => h) (fun _ _ h => h)
theorem NO.mono {w : World} {F G : Nat → Prop} {v : Value} {ns : List NB} (h : NO w F v ns) (hF : ∀ y, F y → G y) (hG : ∀ y, G y → y < w.heap.size ∧ v.ownBlock ≠ some y) : NO w G v ns := by
  obtain ⟨V, h1, h2, h3, h4, h5⟩ := h
  exact ⟨V, h1, h2, fun i hi => (h3 i hi).mono (fun y hy _ => hF y hy), hG, h5⟩
theorem NO.shape {w : World} {F : Nat → Prop} {v : Value} {ns : List NB} (h : NO w F v ns) : ∃ a n c, v = .slice a n c ∧ Hid (n = ns.length) := by
  obtain ⟨V, h1, h2, h3, h4⟩ := h
  obtain ⟨a, c, rfl⟩ := own_shape h2
  exact ⟨a, _, c, rfl, rfl⟩
theorem NO.nr {w : World} {F S : Nat → Prop} {v : Value} {ns : List NB} (h : NO w F v ns) (hS : ∀ y, y < w.heap.size → S y) : Nr w S v ns := by
  obtain ⟨V, h1, h2, h3, h4⟩ := h
  exact ⟨V, h1, rw_own h2 (fun y _ _ hy => hS y hy), fun i hi => (h3 i hi).1.mono (fun y _ hy => hS y hy)⟩
theorem no_nil (w : World) : NO w (fun _ => False) (.slice none 0 0) [] := ⟨[], rfl, World.ownsRow_nil _ _ _ _, fun i hi => by simp at hi, fun _ h => h.elim, fun i j hi => absurd hi (Nat.not_lt_zero _)⟩
theorem NO.lt {w : World} {F : Nat → Prop} {v : Value} {ns : List NB} (h : NO w F v ns) : ∀ y, v.ownBlock = some y → y < w.heap.size := by
  obtain ⟨V, h1, h2, h3, h4⟩ := h
  exact fun y hy => (World.ownsRow.lt h2 y hy).2
theorem nAt_append_left {ns ms : List NB} {i : Nat} (h : i < ns.length) : nAt (ns ++ ms) i = nAt ns i := by simp [nAt, List.getElem?_append_left h]
theorem nAt_append_at (ns : List NB) (x : NB) (ms : List NB) : nAt (ns ++ x :: ms) ns.length = x := by simp [nAt]
theorem vAt_append_left {V W : List V3} {i : Nat} (h : i < V.length) : vAt (V ++ W) i = vAt V i := by simp [vAt, List.getElem?_append_left h]
theorem vAt_append_at (V : List V3) (x : V3) : vAt (V ++ [x]) V.length = x := by simp [vAt]
/-- append(nodes, Node{}). -/
theorem NO.push {u w2 : World} {F : Nat → Prop} {v v' : Value} {ns : List NB} (h : NO u F v ns) (x : NB) (p : V3) (hx : N1K u (fun _ => False) p x) (ho : ∀ V : List V3, V.length = ns.length → u.ownsRow 0 106 3 v ns.length (ncs V) → w2.ownsRow 0 106 3 v' (ns.length + 1) (ncs V ++ [p.1, p.2.1, p.2.2])) (hg : u.grownBy w2 v.ownBlock) (ha : v'.ownBlock = v.ownBlock ∨ v'.ownBlock = some u.heap.size) :
    NO w2 F v' (ns ++ [x]) := by
  obtain ⟨V, h1, h2, h3, h4, h5⟩ := h
  have o : Only (fun y => v.ownBlock = some y) u w2 := only_of_grown hg (fun k e => e)
  refine ⟨V ++ [p], by simp [h1], ?_, fun i hi => ?_, fun y hy => ⟨Nat.lt_of_lt_of_le (h4 y hy).1 hg.size, ?_⟩, fun i j hi hj hij y hy hz => ?_⟩
  · rw [ncs_append, List.length_append]
    exact ho V h1 h2
  · simp at hi
    by_cases e : i < ns.length
    · rw [vAt_append_left (by omega), nAt_append_left e]
      exact (h3 i e).to o (fun y hy _ hv => (h4 y hy).2 hv)
    · obtain rfl : i = ns.length := by omega
      rw [nAt_append_at, ← h1, vAt_append_at]
      exact (hx.to o (fun y hy => hy.elim)).mono (fun y hy => hy.elim)
  · rcases ha with ha | ha
    · rw [ha]; exact (h4 y hy).2
    · rw [ha]; intro e; have := (h4 y hy).1; cases e; omega
  · have hat : ∀ i, i < (ns ++ [x]).length → (i < ns.length ∧ vAt (V ++ [p]) i = vAt V i) ∨ vAt (V ++ [p]) i = p := by
      intro i hi
      simp at hi
      by_cases e : i < ns.length
      · exact .inl ⟨e, vAt_append_left (by omega)⟩
      · obtain rfl : i = ns.length := by omega
        exact .inr (by rw [← h1, vAt_append_at])
    rcases hat i hi with ⟨e, e1⟩ | e1
    · rcases hat j hj with ⟨d, d1⟩ | d1
      · rw [e1] at hy; rw [d1] at hz; exact h5 i j e d hij y hy hz
      · rw [d1] at hz; exact hx.2.2.2 y hz
    · rw [e1] at hy; exact hx.2.2.2 y hy
/-- One node's values are stored anew. -/
theorem NO.put {w : World} {F G : Nat → Prop} {v : Value} {ms l : List NB} {x z : NB} {g n c : Nat} (hv : v = .slice (some ⟨g, 0, none⟩) n c) (h' : NO w G v (ms ++ z :: l)) (hGF : ∀ y, G y → F y) (hFF : ∀ y, F y → y < w.heap.size ∧ v.ownBlock ≠ some y) (p : V3) (hx : N1K w F p x) (hn : ∀ y, bl p y → ¬ G y) :
    NO (((w.setCell ⟨g, ms.length * 3, none⟩ p.1).setCell ⟨g, ms.length * 3 + 1, none⟩ p.2.1).setCell ⟨g, ms.length * 3 + 2, none⟩ p.2.2) F v (ms ++ x :: l) := by
  subst hv
  obtain ⟨V, h1, h2, h3', _, h5⟩ := h'
  have h3 := fun i hi => (h3' i hi).mono (R := F) (fun y hy _ => hGF y hy)
  have h4 := hFF
  have hgb : (Value.slice (some ⟨g, 0, none⟩) n c).ownBlock = some g := rfl
  have o : Only (fun y => y = g) w (((w.setCell ⟨g, ms.length * 3, none⟩ p.1).setCell ⟨g, ms.length * 3 + 1, none⟩ p.2.1).setCell ⟨g, ms.length * 3 + 2, none⟩ p.2.2) := ((only_set (R := fun y => y = g) rfl _).trans (only_set (R := fun y => y = g) rfl _)).trans (only_set (R := fun y => y = g) rfl _)
  have hF : ∀ y, F y → ¬ y = g := fun y hy e => (h4 y hy).2 (by rw [hgb, e])
  have hl : ms.length < (ms ++ z :: l).length := by simp
  have hl2 : (ms ++ x :: l).length = (ms ++ z :: l).length := by simp
  refine ⟨V.set ms.length p, by rw [List.length_set, h1, hl2], ?_, fun i hi => ?_, fun y hy => ⟨Nat.lt_of_lt_of_le (h4 y hy).1 o.size, (h4 y hy).2⟩, fun i j hi hj hij y hy hz => ?_⟩
  · rw [ncs_set _ _ _ (by omega), hl2]
    obtain ⟨k1, k2⟩ := h2
    rcases k2 with ⟨k2, _⟩ | ⟨g', cap, cur, e, k3, k4, k5, k6, k7, k8⟩
    · cases k2
    · cases e
      refine ⟨by simpa using k1, .inr ⟨g, c, ((cur.setIfInBounds (ms.length * 3) p.1).setIfInBounds (ms.length * 3 + 1) p.2.1).setIfInBounds (ms.length * 3 + 2) p.2.2, rfl, k3, ?_, k5, k6, by simpa using k7, ?_⟩⟩
      · simp [World.setCell, Array.getElem?_modify, k4]
      · rw [← k8]
        simp only [Array.toList_setIfInBounds, List.take_set]
  · by_cases e : i = ms.length
    · subst e
      rw [vAt_set _ _ _ (by omega), nAt_append_at]
      exact hx.to o (fun y hy _ => hF y hy)
    · rw [vAt_other _ _ _ _ e]
      have : nAt (ms ++ x :: l) i = nAt (ms ++ z :: l) i := by
        by_cases hi2 : i < ms.length
        · rw [nAt_append_left hi2, nAt_append_left hi2]
        · obtain ⟨j, rfl⟩ : ∃ j, i = ms.length + 1 + j := ⟨i - ms.length - 1, by omega⟩
          simp only [nAt]
          rw [List.getElem?_append_right (by omega), List.getElem?_append_right (by omega), show ms.length + 1 + j - ms.length = j + 1 by omega]
          rfl
      rw [this]
      exact (h3 i (by omega)).to o (fun y hy _ => hF y hy)
  · rw [hl2] at hi hj
    by_cases e : i = ms.length
    · subst e
      rw [vAt_set _ _ _ (by omega)] at hy
      rw [vAt_other _ _ _ _ (Ne.symm hij)] at hz
      exact hn y hy ((h3' j hj).2.2.2 y hz)
    · rw [vAt_other _ _ _ _ e] at hy
      by_cases d : j = ms.length
      · subst d
        rw [vAt_set _ _ _ (by omega)] at hz
        exact hn y hz ((h3' i hi).2.2.2 y hy)
      · rw [vAt_other _ _ _ _ d] at hz
        exact h5 i j hi hj hij y hy hz
/-- How far l03Lay has come with a branch. -/
structure LyI (w wr : World) (F : Nat → Prop) (v vv q0 q1 q2 : Value) (nb : Nat) (kx ki : Value) (Fk : Nat → Prop) (L : List NB) (keys : List ByteArray) (kids : List Int) : Prop where
  fw : ∀ y, F y → y < w.heap.size
  vw : ∀ y, v.ownBlock = some y → y < w.heap.size
  lo : w.heap.size < nb
  nodes : NO wr Fk vv L
  par : Bk wr w.heap.size 74 [q0, q1, q2]
  nod : Bk wr nb 106 [.slice none 0 0, kx, ki]
  rx : wr.ownsRow 0 9 1 kx keys.length (keys.map Value.string)
  ri : wr.ownsRow 0 3 1 ki kids.length (kids.map (Value.int .i64))
  fk : ∀ y, Fk y → (F y ∨ w.heap.size < y) ∧ y ≠ nb ∧ kx.ownBlock ≠ some y ∧ ki.ownBlock ≠ some y
  ff : ∀ y, F y → Fk y
  vb : ∀ y, vv.ownBlock = some y → (v.ownBlock = some y ∨ w.heap.size < y) ∧ y ≠ nb ∧ kx.ownBlock ≠ some y ∧ ki.ownBlock ≠ some y
  xb : ∀ y, kx.ownBlock = some y → w.heap.size < y ∧ y ≠ nb ∧ ki.ownBlock ≠ some y
  ib : ∀ y, ki.ownBlock = some y → w.heap.size < y ∧ y ≠ nb
  only : Only (fun y => v.ownBlock = some y) w wr
theorem LyI.keep {w wr w1 : World} {F : Nat → Prop} {v vv q0 q1 q2 : Value} {nb : Nat} {kx ki : Value} {Fk : Nat → Prop} {L : List NB} {keys : List ByteArray} {kids : List Int} (h : LyI w wr F v vv q0 q1 q2 nb kx ki Fk L keys kids) (hb : Below wr.heap.size wr w1) :
    LyI w w1 F v vv q0 q1 q2 nb kx ki Fk L keys kids :=
  { h with nodes := h.nodes.kept hb, par := h.par.below hb, nod := h.nod.below hb, rx := own_kept h.rx (only_of_below hb (fun _ => False)) (fun _ _ h => h), ri := own_kept h.ri (only_of_below hb (fun _ => False)) (fun _ _ h => h), only := h.only.trans (only_of_below hb _) }
/-- One more kid's number. -/
theorem LyI.addKid {w u w2 : World} {F : Nat → Prop} {v vv q0 q1 q2 : Value} {nb : Nat} {kx ki ki' : Value} {Fk : Nat → Prop} {L : List NB} {keys : List ByteArray} {kids : List Int} (h : LyI w u F v vv q0 q1 q2 nb kx ki Fk L keys kids) (z : Int)
    (ho : w2.ownsRow 0 3 1 ki' (kids.length + 1) (kids.map (Value.int .i64) ++ [.int .i64 z])) (hg : u.grownBy w2 ki.ownBlock) (ha : ki'.ownBlock = ki.ownBlock ∨ ki'.ownBlock = some u.heap.size) :
    LyI w (w2.setCell ⟨nb, 2, none⟩ ki') F v vv q0 q1 q2 nb kx ki' Fk L keys (kids ++ [z]) := by
  have hlo := h.lo
  have hnb := h.nod.lt
  have hu := h.only.size
  have o1 : Only (fun y => ki.ownBlock = some y) u w2 := only_of_grown hg (fun k e => e)
  have o2 : Only (fun y => y = nb) w2 (w2.setCell ⟨nb, 2, none⟩ ki') := only_set (R := fun y => y = nb) rfl _
  have o3 : Only (fun y => ki.ownBlock = some y ∨ y = nb) u (w2.setCell ⟨nb, 2, none⟩ ki') := (o1.mono (fun _ _ e => .inl e)).then o2 (fun _ _ e => .inr e)
  have new : ∀ y, y < u.heap.size → ki.ownBlock ≠ some y → ki'.ownBlock ≠ some y := by
    intro y hy hne e
    rcases ha with ha | ha
    · exact hne (ha ▸ e)
    · rw [ha] at e; cases e; omega
  have hki : ∀ y, ki'.ownBlock = some y → w.heap.size < y ∧ y ≠ nb := by
    intro y e
    rcases ha with ha | ha
    · exact h.ib y (ha ▸ e)
    · rw [ha] at e; cases e; omega
  refine ⟨h.fw, h.vw, h.lo, h.nodes.to o3 ?_ ?_, h.par.to o3 ?_, ?_, ?_, ?_, ?_, h.ff, ?_, ?_, hki, ?_⟩
  · rintro y hy (e | e)
    · exact (h.vb y hy).2.2.2 e
    · exact (h.vb y hy).2.1 e
  · rintro y hy (e | e)
    · exact (h.fk y hy).2.2.2 e
    · exact (h.fk y hy).2.1 e
  · rintro (e | e)
    · have := h.ib _ e; omega
    · omega
  · have k1 := h.nod.to o1 (fun e => (h.ib nb e).2 rfl)
    exact k1.set 2 ki'
  · exact own_kept h.rx o3 (by
      rintro y hy (e | e)
      · exact (h.xb y hy).2.2 e
      · exact (h.xb y hy).2.1 e)
  · have := own_kept ho o2 (fun y hy e => (hki y hy).2 e)
    simpa using this
  · intro y hy
    obtain ⟨a1, a2, a3, a4⟩ := h.fk y hy
    obtain ⟨V, _, _, _, n4, _⟩ := h.nodes
    exact ⟨a1, a2, a3, new y (n4 y hy).1 a4⟩
  · intro y hy
    obtain ⟨a1, a2, a3, a4⟩ := h.vb y hy
    exact ⟨a1, a2, a3, new y (h.nodes.lt y hy) a4⟩
  · intro y hy
    obtain ⟨a1, a2, a3⟩ := h.xb y hy
    exact ⟨a1, a2, new y (World.ownsRow.lt h.rx y hy).2 a3⟩
  · refine h.only.then o3 (fun y hy e => ?_)
    rcases e with e | e
    · have := h.ib y e; omega
    · omega
/-- One more kid's least key. -/
theorem LyI.addKey {w u w2 : World} {F : Nat → Prop} {v vv q0 q1 q2 : Value} {nb : Nat} {kx ki kx' : Value} {Fk : Nat → Prop} {L : List NB} {keys : List ByteArray} {kids : List Int} (h : LyI w u F v vv q0 q1 q2 nb kx ki Fk L keys kids) (z : ByteArray)
    (ho : w2.ownsRow 0 9 1 kx' (keys.length + 1) (keys.map Value.string ++ [.string z])) (hg : u.grownBy w2 kx.ownBlock) (ha : kx'.ownBlock = kx.ownBlock ∨ kx'.ownBlock = some u.heap.size) :
    LyI w (w2.setCell ⟨nb, 1, none⟩ kx') F v vv q0 q1 q2 nb kx' ki Fk L (keys ++ [z]) kids := by
  have hlo := h.lo
  have hnb := h.nod.lt
  have hu := h.only.size
  have o1 : Only (fun y => kx.ownBlock = some y) u w2 := only_of_grown hg (fun k e => e)
  have o2 : Only (fun y => y = nb) w2 (w2.setCell ⟨nb, 1, none⟩ kx') := only_set (R := fun y => y = nb) rfl _
  have o3 : Only (fun y => kx.ownBlock = some y ∨ y = nb) u (w2.setCell ⟨nb, 1, none⟩ kx') := (o1.mono (fun _ _ e => .inl e)).then o2 (fun _ _ e => .inr e)
  have new : ∀ y, y < u.heap.size → kx.ownBlock ≠ some y → kx'.ownBlock ≠ some y := by
    intro y hy hne e
    rcases ha with ha | ha
    · exact hne (ha ▸ e)
    · rw [ha] at e; cases e; omega
  have hkx : ∀ y, kx'.ownBlock = some y → w.heap.size < y ∧ y ≠ nb ∧ ki.ownBlock ≠ some y := by
    intro y e
    rcases ha with ha | ha
    · exact h.xb y (ha ▸ e)
    · rw [ha] at e; cases e
      exact ⟨by omega, by omega, fun e => by have := (World.ownsRow.lt h.ri _ e).2; omega⟩
  refine ⟨h.fw, h.vw, h.lo, h.nodes.to o3 ?_ ?_, h.par.to o3 ?_, ?_, ?_, ?_, ?_, h.ff, ?_, hkx, h.ib, ?_⟩
  · rintro y hy (e | e)
    · exact (h.vb y hy).2.2.1 e
    · exact (h.vb y hy).2.1 e
  · rintro y hy (e | e)
    · exact (h.fk y hy).2.2.1 e
    · exact (h.fk y hy).2.1 e
  · rintro (e | e)
    · have := h.xb _ e; omega
    · omega
  · have k1 := h.nod.to o1 (fun e => (h.xb nb e).2.1 rfl)
    exact k1.set 1 kx'
  · have := own_kept ho o2 (fun y hy e => (hkx y hy).2.1 e)
    simpa using this
  · exact own_kept h.ri o3 (by
      rintro y hy (e | e)
      · exact (h.xb y e).2.2 hy
      · exact (h.ib y hy).2 e)
  · intro y hy
    obtain ⟨a1, a2, a3, a4⟩ := h.fk y hy
    obtain ⟨V, _, _, _, n4, _⟩ := h.nodes
    exact ⟨a1, a2, new y (n4 y hy).1 a3, a4⟩
  · intro y hy
    obtain ⟨a1, a2, a3, a4⟩ := h.vb y hy
    exact ⟨a1, a2, new y (h.nodes.lt y hy) a3, a4⟩
  · refine h.only.then o3 (fun y hy e => ?_)
    rcases e with e | e
    · have := h.xb y e; omega
    · omega
/-- A kid's nodes have been laid. -/
theorem LyI.sub {w wr w1 : World} {F : Nat → Prop} {v vv v1 q0 q1 q2 : Value} {nb : Nat} {kx ki : Value} {Fk : Nat → Prop} {L M : List NB} {keys : List ByteArray} {kids : List Int} (h : LyI w wr F v vv q0 q1 q2 nb kx ki Fk L keys kids)
    (hn : NO w1 (fun y => Fk y ∨ (wr.heap.size ≤ y ∧ y < w1.heap.size ∧ v1.ownBlock ≠ some y)) v1 M) (ho : Only (fun y => vv.ownBlock = some y) wr w1) (hv : ∀ y, v1.ownBlock = some y → vv.ownBlock = some y ∨ wr.heap.size ≤ y) :
    LyI w w1 F v v1 q0 q1 q2 nb kx ki (fun y => Fk y ∨ (wr.heap.size ≤ y ∧ y < w1.heap.size ∧ v1.ownBlock ≠ some y)) M keys kids := by
  have hlo := h.lo
  have hnb := h.nod.lt
  have hp := h.par.lt
  have lx := fun y e => (World.ownsRow.lt h.rx y e).2
  have li := fun y e => (World.ownsRow.lt h.ri y e).2
  have nx : ∀ y, wr.heap.size ≤ y → y ≠ nb ∧ kx.ownBlock ≠ some y ∧ ki.ownBlock ≠ some y := by
    intro y hy
    refine ⟨by omega, fun e => ?_, fun e => ?_⟩
    · have := lx y e; omega
    · have := li y e; omega
  refine ⟨h.fw, h.vw, h.lo, hn, h.par.to ho (fun e => ?_), h.nod.to ho (fun e => (h.vb nb e).2.1 rfl), own_kept h.rx ho (fun y hy e => (h.vb y e).2.2.1 hy), own_kept h.ri ho (fun y hy e => (h.vb y e).2.2.2 hy), ?_, fun y hy => .inl (h.ff y hy), ?_, h.xb, h.ib, ?_⟩
  · rcases (h.vb _ e).1 with e | e
    · have := h.vw _ e; omega
    · omega
  · rintro y (hy | ⟨hy, _, _⟩)
    · exact h.fk y hy
    · exact ⟨.inr (by omega), nx y hy⟩
  · intro y hy
    rcases hv y hy with e | e
    · exact h.vb y e
    · exact ⟨.inr (by omega), nx y e⟩
  · refine h.only.then ho (fun y hy e => ?_)
    rcases (h.vb y e).1 with e | e
    · exact e
    · omega
end Go.Proofs.Ytkflneeifllpgaa
/-
  l03Lay of the specification: laws of append for it, and plain facts of lists.
-/
namespace Go.Proofs.Ytkflneeifllpgaa
open Go.RowKit
theorem wpList_append_zero {w : World} {ops : Array Oper} {rest : List Oper} {o : Oper} {a : Act} {Q : Exit → Act → World → Prop} (hgd : o.guard = none) (s x : Operand)
    (ho : o.op = .call { callee := .builtin .append, args := #[s, x], argTypes := #[23, 23] }) (F : Nat → Prop) (v : Value) (ns : List NB) (hs : a.eval s = v) (hown : NO w F v ns)
    (g : Nat) (hx : a.eval x = .slice (some ⟨g, 0, none⟩) 1 1) (hB : Bk w g 106 [.slice none 0 0, .slice none 0 0, .slice none 0 0]) (hb : ns.length ≤ 1048576)
    (h : ∀ g' n' c' w', NO w' F (.slice (some ⟨g', 0, none⟩) n' c') (ns ++ [⟨[], [], []⟩]) → Hid (n' = ns.length + 1) → w.grownBy w' v.ownBlock → ((Value.slice (some ⟨g', 0, none⟩) n' c').ownBlock = v.ownBlock ∨ (Value.slice (some ⟨g', 0, none⟩) n' c').ownBlock = some w.heap.size) → wpList Try.prog ops Q rest (a.put o.dst (.slice (some ⟨g', 0, none⟩) n' c')) w') : wpList Try.prog ops Q (o :: rest) a w := by
  obtain ⟨i, hi, hz, hsz, hby⟩ := info_of infoNodeI
  have hown' := hown
  obtain ⟨V, h1, h2, h3, h4⟩ := hown'
  refine wpList_append_row_at hgd s x 23 ho 0 106 i _ 3 72 Try.underlying23 hi hz hsz hby rfl (by decide) v ns.length (ncs V) hs h2 (fun _ => True) _ 1 [.slice none 0 0, .slice none 0 0, .slice none 0 0] hx (hB.rw (Nat.le_refl _) (by omega) (fun h => by omega) _ trivial) rfl
    (by intro u hu; simp at hu; subst hu; rfl) (by unfold maxLen; omega) (by omega) (Nat.zero_le _) ?_
  intro v' w' k1 k2 k3
  rcases k1.2 with ⟨_, e⟩ | ⟨g', cap, cur, e, _⟩
  · omega
  · subst e
    refine h g' _ cap w' ?_ rfl k2 k3
    have hN0 : NO w F v ns := hown
    refine hN0.push ⟨[], [], []⟩ (.slice none 0 0, .slice none 0 0, .slice none 0 0) (n1K_nil _ _) (fun V' e1 e2 => ?_) k2 k3
    have hV : ncs V' = ncs V := by
      rcases e2.2 with ⟨rfl, e3⟩ | ⟨g1, c1, cur1, rfl, _, e5, _, _, _, e6⟩
      · rw [List.eq_nil_of_length_eq_zero (by omega : V'.length = 0), List.eq_nil_of_length_eq_zero (by omega : V.length = 0)]
      · rcases h2.2 with ⟨e7, _⟩ | ⟨g2, c2, cur2, e7, _, e8, _, _, _, e9⟩
        · cases e7
        · cases e7
          rw [e5] at e8
          cases e8
          rw [← e6, ← e9]
    rw [hV]
    exact k1
theorem kc0_5 {u : World} {a0 a1 a2 a3 a4 : Addr} {x0 x1 x2 x3 x4 : Value} (h0 : u.cell? a0 = some x0) (h1 : u.cell? a1 = some x1) (h2 : u.cell? a2 = some x2) (h3 : u.cell? a3 = some x3) (h4 : u.cell? a4 = some x4) : KC u u [(a0, x0), (a1, x1), (a2, x2), (a3, x3), (a4, x4)] :=
  ⟨fun p hp => by simp at hp; rcases hp with rfl | rfl | rfl | rfl | rfl <;> assumption, Below.refl _ _⟩
theorem NO.rowAt {w : World} {F : Nat → Prop} {a : Option Addr} {n c : Nat} {ns : List NB} (h : NO w F (.slice a n c) ns) (hp : 0 < ns.length) : ∃ g, a = some ⟨g, 0, none⟩ ∧ Hid (n = ns.length) := by
  obtain ⟨V, h1, h2, h3, h4⟩ := h
  rcases h2.2 with ⟨e, e2⟩ | ⟨g, cap, cur, e, _⟩
  · omega
  · cases e
    exact ⟨g, rfl, rfl⟩
theorem places_length (ks : List T) : ∀ a, (places a ks).length = ks.length := by
  induction ks with
  | nil => intro a; rfl
  | cons k ks ih => intro a; simp [places, ih]
theorem infoStr' : (Try.prog.info? 9).map (fun i => (i.zero, i.size, i.bytes)) = some (some (.string ⟨#[]⟩), 1, 16) := by kernel_rfl
theorem infoInt' : (Try.prog.info? 3).map (fun i => (i.zero, i.size, i.bytes)) = some (some (.int .i64 0), 1, 8) := by kernel_rfl
theorem wpList_append_int1 {w : World} {ops : Array Oper} {rest : List Oper} {o : Oper} {a : Act} {Q : Exit → Act → World → Prop} (hgd : o.guard = none) (s x : Operand)
    (ho : o.op = .call { callee := .builtin .append, args := #[s, x], argTypes := #[88, 88] }) (v : Value) (n : Nat) (xs : List Value) (hs : a.eval s = v) (hown : w.ownsRow 0 3 1 v n xs)
    (g : Nat) (z : Int) (hx : a.eval x = .slice (some ⟨g, 0, none⟩) 1 1) (hB : Bk w g 3 [.int .i64 z]) (hb : n ≤ 1048576)
    (h : ∀ a' n' c' w', w'.ownsRow 0 3 1 (.slice a' n' c') (n + 1) (xs ++ [.int .i64 z]) → w.grownBy w' v.ownBlock → ((Value.slice a' n' c').ownBlock = v.ownBlock ∨ (Value.slice a' n' c').ownBlock = some w.heap.size) → wpList Try.prog ops Q rest (a.put o.dst (.slice a' n' c')) w') : wpList Try.prog ops Q (o :: rest) a w := by
  obtain ⟨i, hi, hz, hsz, hby⟩ := info_of infoInt'
  refine wpList_append_row_at hgd s x 88 ho 0 3 i _ 1 8 Try.underlying88 hi hz hsz hby rfl (by decide) v n xs hs hown (fun _ => True) _ 1 [.int .i64 z] hx (hB.rw (Nat.le_refl _) (by omega) (fun h => by omega) _ trivial) rfl
    (by intro u hu; simp at hu; subst hu; rfl) (by unfold maxLen; omega) (by omega) (Nat.zero_le _) ?_
  intro v' w' k1 k2 k3
  obtain ⟨a', c', rfl⟩ := own_shape k1
  exact h a' _ c' w' k1 k2 k3
/-- append of one string as a step of a region that draws. -/
theorem step_append_str1 {w : World} {ops : Array Oper} {o : Oper} {a : Act} {K : Act → World → Prop} {Q : Exit → Act → World → Prop} {E : Prop} (hgd : o.guard = none) (s x : Operand)
    (ho : o.op = .call { callee := .builtin .append, args := #[s, x], argTypes := #[104, 104] }) (v : Value) (n : Nat) (xs : List Value) (hs : a.eval s = v) (hown : w.ownsRow 0 9 1 v n xs)
    (g : Nat) (z : ByteArray) (hx : a.eval x = .slice (some ⟨g, 0, none⟩) 1 1) (hB : w.cell? ⟨g, 0, none⟩ = some (.string z)) (hb : n ≤ 1048576) (b0 o0 : Nat) (x0 : Value) (hc0 : w.cell? ⟨b0, o0, none⟩ = some x0) (hf0 : w.frozen? ⟨b0, o0, none⟩ = false) (hne : v.ownBlock ≠ some b0)
    (h : ∀ a' n' c' w', w'.ownsRow 0 9 1 (.slice a' n' c') (n + 1) (xs ++ [.string z]) → w.grownBy w' v.ownBlock → ((Value.slice a' n' c').ownBlock = v.ownBlock ∨ (Value.slice a' n' c').ownBlock = some w.heap.size) → w'.cell? ⟨b0, o0, none⟩ = some x0 → w'.frozen? ⟨b0, o0, none⟩ = false → K (a.put o.dst (.slice a' n' c')) w') :
    if Region.wanted o (yielded ops a.tmps) = true then Oper.wp Try.prog o a w K Q else E := by
  have hw : Region.wanted o (yielded ops a.tmps) = true := by simp [Region.wanted, hgd]
  rw [if_pos hw]
  obtain ⟨i, hi, hz, hsz, hby⟩ := info_of infoStr'
  have hsrc : Rw w (fun _ => True) (.slice (some ⟨g, 0, none⟩) 1 1) 1 [.string z] := by
    refine ⟨_, 1, rfl, Nat.le_refl _, by omega, fun h => by omega, fun h => (by cases h), fun _ => ⟨g, 0, rfl, block_lt hB, trivial, fun j u hu => ?_⟩⟩
    cases j with
    | zero => simp at hu; subst hu; simpa using hB
    | succ j => simp at hu
  obtain ⟨v', w', hr, h2, h3, h5⟩ := run_append_row_at (P := Try.prog) (w := w) 0 104 o.type 9 i _ 1 16 Try.underlying104 hi hz hsz hby rfl (by decide) v n xs hown (fun _ => True) _ 1 [.string z] hsrc rfl (by intro u hu; simp at hu; subst hu; rfl) (by unfold maxLen; omega) (by omega) (Nat.zero_le _)
  obtain ⟨a', c', rfl⟩ := own_shape h2
  have hbl := h3.block b0 (block_lt hc0) (fun e => hne e.symm)
  unfold Oper.wp execOp
  simp only [ho, resolve, invoke, builtin, Sem.run_bind, Sem.run_pure, Result.andThen_ok, List.map_toArray, List.map_cons, List.map_nil, hs, hx, hr]
  exact h a' _ c' w' h2 h3 h5 ((World.cell?_of_block (w := w) (a := ⟨b0, o0, none⟩) hbl).trans hc0) ((World.frozen?_of_block (w := w) (a := ⟨b0, o0, none⟩) hbl).trans hf0)
/-- Cells that are kept, R alone of the blocks having turned. -/
structure KO (R : Nat → Prop) (u v : World) (cs : List (Addr × Value)) : Prop where
  cells : ∀ p ∈ cs, u.cell? p.1 = some p.2 ∧ ¬ R p.1.block
  only : Only R u v
theorem KO.at {R : Nat → Prop} {u v : World} {cs : List (Addr × Value)} (h : KO R u v cs) {a : Addr} {x : Value} (hp : (a, x) ∈ cs) : v.cell? a = some x := by
  obtain ⟨hc, hr⟩ := h.cells (a, x) hp
  exact (World.cell?_of_block (w := u) (h.only.block a.block (block_lt hc) hr)).trans hc
theorem ko4 {R : Nat → Prop} {u v : World} {a0 a1 a2 a3 : Addr} {x0 x1 x2 x3 : Value} (h : KO R u v [(a0, x0), (a1, x1), (a2, x2), (a3, x3)]) : v.cell? a0 = some x0 ∧ v.cell? a1 = some x1 ∧ v.cell? a2 = some x2 ∧ v.cell? a3 = some x3 ∧ KO R u v [(a0, x0), (a1, x1), (a2, x2), (a3, x3)] := ⟨h.at (by simp), h.at (by simp), h.at (by simp), h.at (by simp), h⟩
theorem ko4o {R : Nat → Prop} {u v v' : World} {a0 a1 a2 a3 : Addr} {x0 x1 x2 x3 : Value} (k : Only R v v') (h : v.cell? a0 = some x0 ∧ v.cell? a1 = some x1 ∧ v.cell? a2 = some x2 ∧ v.cell? a3 = some x3 ∧ KO R u v [(a0, x0), (a1, x1), (a2, x2), (a3, x3)]) : v'.cell? a0 = some x0 ∧ v'.cell? a1 = some x1 ∧ v'.cell? a2 = some x2 ∧ v'.cell? a3 = some x3 ∧ KO R u v' [(a0, x0), (a1, x1), (a2, x2), (a3, x3)] :=
  ko4 ⟨h.2.2.2.2.cells, h.2.2.2.2.only.trans k⟩
theorem szL_take (ks : List T) (k : Nat) (h : k < ks.length) : szL (ks.take (k + 1)) = szL (ks.take k) + (tAt ks k).size := by
  induction ks generalizing k with
  | nil => simp at h
  | cons x ks ih =>
    cases k with
    | zero => simp [szL, tAt]
    | succ k =>
      have := ih k (by simpa using h)
      simp only [List.take_succ_cons, szL, this, Nat.add_assoc]
      rfl
theorem layL_take (ks : List T) (k a : Nat) (h : k < ks.length) : layL a (ks.take (k + 1)) = layL a (ks.take k) ++ lay (a + szL (ks.take k)) (tAt ks k) := by
  induction ks generalizing k a with
  | nil => simp at h
  | cons x ks ih =>
    cases k with
    | zero => simp [layL, tAt, szL]
    | succ k =>
      have := ih k (a + x.size) (by simpa using h)
      simp only [List.take_succ_cons, layL, this, List.append_assoc, szL, Nat.add_assoc]
      rfl
theorem places_take (ks : List T) (k a : Nat) (h : k < ks.length) : places a (ks.take (k + 1)) = places a (ks.take k) ++ [((a + szL (ks.take k) : Nat) : Int)] := by
  induction ks generalizing k a with
  | nil => simp at h
  | cons x ks ih =>
    cases k with
    | zero => simp [places, szL]
    | succ k =>
      have := ih k (a + x.size) (by simpa using h)
      simp only [List.take_succ_cons, places, this, List.cons_append, szL, Nat.add_assoc]
theorem keys_take (ks : List T) (k : Nat) (h : k + 1 < ks.length) : (ks.take (k + 1 + 1)).tail.map T.least = (ks.take (k + 1)).tail.map T.least ++ [(tAt ks (k + 1)).least] := by
  cases ks with
  | nil => simp at h
  | cons x ks =>
    simp only [List.take_succ_cons, List.tail_cons]
    have hk : k < ks.length := by simpa using h
    have e : ks.take (k + 1) = ks.take k ++ [tAt (x :: ks) (k + 1)] := by
      rw [List.take_succ_eq_append_getElem hk]
      simp [tAt, hk]
    rw [e, List.map_append]
    rfl
theorem szL_take_le (ks : List T) (k : Nat) : szL (ks.take k) ≤ szL ks := by
  induction ks generalizing k with
  | nil => simp [szL]
  | cons x ks ih =>
    cases k with
    | zero => simp [szL]
    | succ k =>
      have := ih k
      simp only [List.take_succ_cons, szL]
      omega
theorem ncs_set0 (V : List V3) (x : Value) : ∀ j, j < V.length → ncs (V.set j (x, (vAt V j).2)) = (ncs V).set (j * 3) x := by
  induction V with
  | nil => intro j h; exact absurd h (Nat.not_lt_zero _)
  | cons q V ih =>
    intro j h
    cases j with
    | zero => rfl
    | succ j =>
      have := ih j (by simpa using h)
      rw [show (j + 1) * 3 = j * 3 + 3 by omega]
      show q.1 :: q.2.1 :: q.2.2 :: ncs (V.set j (x, (vAt V j).2)) = _
      rw [this]
      rfl
/-- What a store of one cell of a node does. -/
theorem NO.put0 {w : World} {F G : Nat → Prop} {ms l : List NB} {z : NB} {g n c : Nat} {pv : Value} {ps : List PB} (h' : NO w G (.slice (some ⟨g, 0, none⟩) n c) (ms ++ z :: l)) (hGF : ∀ y, G y → F y) (h4 : ∀ y, F y → y < w.heap.size ∧ (Value.slice (some ⟨g, 0, none⟩) n c).ownBlock ≠ some y) (hp : w.ownsRow 0 35 2 pv ps.length (pcs ps)) (hpf : ∀ y, pv.ownBlock = some y → F y ∧ ¬ G y) :
    NO (w.setCell ⟨g, ms.length * 3, none⟩ pv) F (.slice (some ⟨g, 0, none⟩) n c) (ms ++ ⟨ps, z.keys, z.kids⟩ :: l) := by
  obtain ⟨V, h1, h2, h3', _, h5⟩ := h'
  have h3 := fun i hi => (h3' i hi).mono (R := F) (fun y hy _ => hGF y hy)
  have hgb : (Value.slice (some ⟨g, 0, none⟩) n c).ownBlock = some g := rfl
  have o : Only (fun y => y = g) w (w.setCell ⟨g, ms.length * 3, none⟩ pv) := only_set (R := fun y => y = g) rfl _
  have hF : ∀ y, F y → ¬ y = g := fun y hy e => (h4 y hy).2 (by rw [hgb, e])
  have hl : ms.length < (ms ++ z :: l).length := by simp
  have hl2 : (ms ++ (⟨ps, z.keys, z.kids⟩ : NB) :: l).length = (ms ++ z :: l).length := by simp
  have hn := h3 ms.length hl
  rw [nAt_append_at] at hn
  refine ⟨V.set ms.length (pv, (vAt V ms.length).2), by rw [List.length_set, h1, hl2], ?_, fun i hi => ?_, fun y hy => ⟨Nat.lt_of_lt_of_le (h4 y hy).1 o.size, (h4 y hy).2⟩, fun i j hi hj hij y hy hz => ?_⟩
  · rw [ncs_set0 _ _ _ (by omega), hl2]
    obtain ⟨k1, k2⟩ := h2
    rcases k2 with ⟨k2, _⟩ | ⟨g', cap, cur, e, k3, k4, k5, k6, k7, k8⟩
    · cases k2
    · cases e
      refine ⟨by simpa using k1, .inr ⟨g, c, cur.setIfInBounds (ms.length * 3) pv, rfl, k3, ?_, k5, k6, by simpa using k7, ?_⟩⟩
      · simp [World.setCell, Array.getElem?_modify, k4]
      · rw [← k8]
        simp only [Array.toList_setIfInBounds, List.take_set]
  · by_cases e : i = ms.length
    · subst e
      rw [vAt_set _ _ _ (by omega), nAt_append_at]
      have hN' := hn.to o (fun y hy _ => hF y hy)
      have hG' : ∀ y, bl (vAt V ms.length) y → G y := (h3' ms.length hl).2.2.2
      have hown : OwN (w.setCell ⟨g, ms.length * 3, none⟩ pv) (pv, (vAt V ms.length).2) ⟨ps, z.keys, z.kids⟩ := ⟨own_kept hp o (fun y hy e => hF y (hpf y hy).1 e), hN'.2.1.2⟩
      have hbl : ∀ y, bl (pv, (vAt V ms.length).2) y → F y := by
        rintro y (e | e)
        · exact (hpf y e).1
        · exact hGF y (hG' y (.inr e))
      refine ⟨hown.n1 hbl, hown, fun y => ⟨fun e => ⟨fun d => (hpf y e).2 (hG' y (.inr (.inl d))), fun d => (hpf y e).2 (hG' y (.inr (.inr d)))⟩, (hN'.2.2.1 y).2⟩, hbl⟩
    · rw [vAt_other _ _ _ _ e]
      have : nAt (ms ++ (⟨ps, z.keys, z.kids⟩ : NB) :: l) i = nAt (ms ++ z :: l) i := by
        by_cases hi2 : i < ms.length
        · rw [nAt_append_left hi2, nAt_append_left hi2]
        · obtain ⟨j, rfl⟩ : ∃ j, i = ms.length + 1 + j := ⟨i - ms.length - 1, by omega⟩
          simp only [nAt]
          rw [List.getElem?_append_right (by omega), List.getElem?_append_right (by omega), show ms.length + 1 + j - ms.length = j + 1 by omega]
          rfl
      rw [this]
      exact (h3 i (by omega)).to o (fun y hy _ => hF y hy)
  · rw [hl2] at hi hj
    have hot : ∀ k, k < (ms ++ z :: l).length → k ≠ ms.length → ∀ y, bl (pv, (vAt V ms.length).2) y → ¬ bl (vAt V k) y := by
      rintro k hk hne y (e | e) d
      · exact (hpf y e).2 ((h3' k hk).2.2.2 y d)
      · exact h5 ms.length k hl hk (Ne.symm hne) y (.inr e) d
    by_cases e : i = ms.length
    · subst e
      rw [vAt_set _ _ _ (by omega)] at hy
      rw [vAt_other _ _ _ _ (Ne.symm hij)] at hz
      exact hot j hj (Ne.symm hij) y hy hz
    · rw [vAt_other _ _ _ _ e] at hy
      by_cases d : j = ms.length
      · subst d
        rw [vAt_set _ _ _ (by omega)] at hz
        exact hot i hi e y hz hy
      · rw [vAt_other _ _ _ _ d] at hz
        exact h5 i j hi hj hij y hy hz
theorem NO.cells {w : World} {F : Nat → Prop} {g n c : Nat} {ns : List NB} (h : NO w F (.slice (some ⟨g, 0, none⟩) n c) ns) (i : Nat) (hi : i < ns.length) : (∃ x0 x1 x2, w.cell? ⟨g, i * 3, none⟩ = some x0 ∧ w.cell? ⟨g, i * 3 + 1, none⟩ = some x1 ∧ w.cell? ⟨g, i * 3 + 2, none⟩ = some x2) ∧ ∀ o, w.frozen? ⟨g, o, none⟩ = false := by
  obtain ⟨V, h1, h2, h3, h4, _⟩ := h
  have hc := World.ownsRow.cells h2 (g := g) rfl
  obtain ⟨c0, c1, c2⟩ := ncs_at V i (by omega)
  have d0 := hc _ _ c0
  have d1 := hc _ _ c1
  have d2 := hc _ _ c2
  rw [Addr.add_lit, Nat.zero_add] at d0 d1 d2
  refine ⟨⟨_, _, _, d0, d1, d2⟩, fun o => ?_⟩
  rcases h2.2 with ⟨e, _⟩ | ⟨g', cap, cur, e, _, k4, _⟩
  · cases e
  · cases e
    simp [World.frozen?, k4]
end Go.Proofs.Ytkflneeifllpgaa
/-
  slices.Insert of one element into a row of its own (pairs).
-/
namespace Go.Proofs.Ytkflneeifllpgaa
open Go.RowKit
/-- What comes of an insertion: a row of its own with the element; of what was there only the old row may have turned. -/
def InsPost (E : TypeId) (size base : Nat) (xs : List Value) (n : Nat) (v : Value) (w : World) (e : Ending) (w' : World) : Prop :=
  ∃ a c, e = .returned (.slice a n c) ∧ w'.ownsRow base E size (.slice a n c) n xs ∧ w.grownBy w' v.ownBlock ∧ ((Value.slice a n c).ownBlock = v.ownBlock ∨ ∃ k, (Value.slice a n c).ownBlock = some k ∧ w.heap.size ≤ k)
theorem grown_only {w w' : World} {o : Option Nat} (h : Only (fun y => o = some y) w w') : w.grownBy w' o := ⟨h.os, h.tape, h.output, h.size, fun k hk hne => h.block k hk (fun e => hne e.symm)⟩
set_option maxHeartbeats 4000000 in
set_option maxRecDepth 100000 in
theorem insertP_any (v : Value) (n i vb base : Nat) (xs ys : List Value) (w : World) (hO : w.ownsRow base 35 2 v n xs) (hbase : base ≤ w.heap.size) (hi : i ≤ n) (hn : n ≤ 1048576) (hB : Bk w vb 35 ys) (hy : ys.length = 2)
    (h1x : ∀ u ∈ xs, u.oneCell' = true) (h1y : ∀ u ∈ ys, u.oneCell' = true) (hne : v.ownBlock ≠ some vb) :
    Calls Try.prog 143 #[v, .int .i64 i, .slice (some ⟨vb, 0, none⟩) 1 1] w fun e w' => InsPost 35 2 base (xs.take (i * 2) ++ ys ++ xs.drop (i * 2)) (n + 1) v w e w' := by
  obtain ⟨ti, hti, htz, hts, htb⟩ := info_of infoPairI
  have hsz : (Try.prog.info? 35).map (·.size) = some 2 := by rw [hti]; simp [hts]
  have HO := hid hO
  have HB := hid hB
  have HX := hid h1x
  have HY := hid (And.intro hy h1y)
  have HL := hid hO.1
  obtain ⟨a, c, hv⟩ := own_shape hO
  subst hv
  have hnc : n ≤ c ∧ c ≤ 9223372036854775807 := by
    rcases hO.2 with ⟨e, h0⟩ | ⟨g, cap, cur, e, _, _, h5, h6, _⟩
    · cases e; omega
    · cases e; unfold maxLen at h6; omega
  clear h1x hy h1y hB
  by_cases hin : i = n
  · subst hin
    have HE : Hid (xs.take (i * 2) ++ ys ++ xs.drop (i * 2) = xs ++ ys) := by
      show _ = _
      rw [List.take_of_length_le (by have := HL.out; omega), List.drop_eq_nil_of_le (by have := HL.out; omega), List.append_nil]
    clear hO hne
    by_cases hci : c = i
    · subst hci
      go_enter Try.func143, Try.ntmps143
      go_wp2_with (at_builtin; refine wpList_append_row_at rfl _ _ 32 rfl base 35 ti _ 2 32 Try.underlying32 hti htz hts htb rfl (by decide) _ c xs rfl HO.out (fun _ => True) _ 1 ys rfl (HB.out.rw (Nat.le_refl _) (by omega) (fun h => by omega) _ trivial) (by rw [HY.out.1]) HY.out.2 (by unfold maxLen; omega) (by omega) hbase ?_)
      intro v' w' k1 k2 k3
      obtain ⟨a', c', rfl⟩ := own_shape k1
      have HK : Hid (InsPost 35 2 base (xs ++ ys) (c + 1) (.slice a c c) w (.returned (.slice a' (c + 1) c')) w') := ⟨a', c', rfl, k1, k2, by
        rcases k3 with e | e
        · exact .inl e
        · exact .inr ⟨_, e, Nat.le_refl _⟩⟩
      clear k1 k2 k3
      go_wp2
      go_ret
      rw [HE.out]
      exact HK.out
    · have hci' : ¬ c = i := hci
      go_enter Try.func143, Try.ntmps143
      go_wp2_with (at_builtin; refine wpList_append_row_at rfl _ _ 32 rfl base 35 ti _ 2 32 Try.underlying32 hti htz hts htb rfl (by decide) _ i xs rfl HO.out (fun _ => True) _ 1 ys rfl (HB.out.rw (Nat.le_refl _) (by omega) (fun h => by omega) _ trivial) (by rw [HY.out.1]) HY.out.2 (by unfold maxLen; omega) (by omega) hbase ?_)
      intro v' w' k1 k2 k3
      obtain ⟨a', c', rfl⟩ := own_shape k1
      have HK : Hid (InsPost 35 2 base (xs ++ ys) (i + 1) (.slice a i c) w (.returned (.slice a' (i + 1) c')) w') := ⟨a', c', rfl, k1, k2, by
        rcases k3 with e | e
        · exact .inl e
        · exact .inr ⟨_, e, Nat.le_refl _⟩⟩
      clear k1 k2 k3
      go_wp2
      go_ret
      rw [HE.out]
      exact HK.out
  have hlt : i < n := by omega
  obtain ⟨g, cap, cur, e, hbg, hg, hnc', hcap, hcs, htk⟩ : ∃ g cap cur, Value.slice a n c = .slice (some ⟨g, 0, none⟩) n cap ∧ base ≤ g ∧ w.heap[g]? = some (.cells cur 35 (0, 0)) ∧ n ≤ cap ∧ cap ≤ maxLen ∧ cur.size = cap * 2 ∧ cur.toList.take (n * 2) = xs := by
    rcases hO.2 with ⟨_, h0⟩ | h
    · omega
    · first | exact h | simpa only [Nat.mul_one] using h
  cases e
  have hgb : Bk w g 35 cur.toList := by show _ = _; simpa using hg
  have hgv : vb ≠ g := fun e => hne (by rw [e]; rfl)
  have hcl : cur.toList.length = c * 2 := by simpa using hcs
  clear hO hg hcs hne hcap hnc'
  generalize cur.toList = cl at *
  subst htk
  clear cur
  have hci : ¬ c = i := by omega
  have hci1 : ¬ c = i + 1 ∨ c = i + 1 := by omega
  have hi' : ¬ ((i : Int) = (n : Int)) := by omega
  have hii : (i : Int) ≤ (n : Int) := by omega
  have hxl : (cl.take (n * 2)).length = n * 2 := by rw [List.length_take]; omega
  have hdl : ((cl.take (n * 2)).drop (i * 2)).length = (n - i) * 2 := by rw [List.length_drop, hxl] <;> omega
  have hsrc : ∀ j u, (cl.take (n * 2))[j]? = some u → w.cell? ⟨g, j, none⟩ = some u := fun j u hu => by
    refine hgb.cell ?_
    rw [List.getElem?_take] at hu
    split at hu
    · exact hu
    · cases hu
  have hsa : w.shape? vb = some (35, 2) := by
    have h := HB.out
    have h' : w.heap[vb]? = some (.cells ys.toArray 35 (0, 0)) := h
    simp [World.shape?, h', HY.out.1]
  have hsb : w.shape? g = some (35, c * 2) := by
    have h' : w.heap[g]? = some (.cells cl.toArray 35 (0, 0)) := hgb
    simp [World.shape?, h', hcl]
  by_cases hroom : n + 1 ≤ c
  · have hr' : ¬ (c : Int) < (n : Int) + 1 := by omega
    have hmn1 : Nat.min (n + 1 - i) (n - i) = n - i := by simp only [Nat.min_def]; split <;> omega
    have hcp1 : ∀ ty dc sc, (Builtin.copy_ #[32, 32] ty #[.slice (some ⟨g, (i + 1) * 2, none⟩) (n - i) dc, .slice (some ⟨g, i * 2, none⟩) (n + 1 - i) sc]).run Try.prog w.drew = .ok (goInt (Nat.min (n + 1 - i) (n - i))) (w.drew.setRow g (cl.take ((i + 1) * 2) ++ (cl.take (n * 2)).drop (i * 2) ++ cl.drop ((i + 1) * 2 + ((cl.take (n * 2)).drop (i * 2)).length)).toArray) := fun ty dc sc =>
      run_copy_rowK w.drew _ _ ty 35 g ((i + 1) * 2) (n - i) dc ⟨g, i * 2, none⟩ (n + 1 - i) sc 2 cl 35 _ Try.underlying32 hsz hgb (by rw [hdl, hmn1] <;> omega)
        (fun j u hu => by rw [Addr.add_lit]; exact hsrc _ u (by rwa [List.getElem?_drop] at hu)) (by rw [hdl]; omega) (fun u hu => HX.out u (List.mem_of_mem_drop hu))
    have hg1 := (hgb.below (below_drew w)).setRow (cl.take ((i + 1) * 2) ++ (cl.take (n * 2)).drop (i * 2) ++ cl.drop ((i + 1) * 2 + ((cl.take (n * 2)).drop (i * 2)).length))
    have ho1 : Only (fun y => some g = some y) w (w.drew.setRow g (cl.take ((i + 1) * 2) ++ (cl.take (n * 2)).drop (i * 2) ++ cl.drop ((i + 1) * 2 + ((cl.take (n * 2)).drop (i * 2)).length)).toArray) := (only_of_below (below_drew w) _).trans (only_setRow (R := fun y => some g = some y) rfl _)
    have hil := ins_list cl ys i n 2 (by rw [hcl]; omega) hi HY.out.1
    have hcl1 : (cl.take ((i + 1) * 2) ++ (cl.take (n * 2)).drop (i * 2) ++ cl.drop ((i + 1) * 2 + ((cl.take (n * 2)).drop (i * 2)).length)).length = c * 2 := by
      simp only [List.length_append, List.length_take, List.length_drop, hcl]; omega
    simp only at hil
    generalize cl.take ((i + 1) * 2) ++ (cl.take (n * 2)).drop (i * 2) ++ cl.drop ((i + 1) * 2 + ((cl.take (n * 2)).drop (i * 2)).length) = c1 at *
    generalize w.drew.setRow g c1.toArray = W1 at *
    go_enter Try.func143, Try.ntmps143
    have hov : ∀ lb cb, (callFunc 154 #[.slice (some ⟨vb, 0, none⟩) 1 1, .slice (some ⟨g, (i + 1) * 2, none⟩) lb cb]).run Try.prog w = .ok (.value (.bool false)) w := fun lb cb => by
      rw [run_callFunc_extern Try.func154 (by kernel_rfl) (by kernel_rfl) (by kernel_rfl) (e := Extern.SlicesOverlaps.overlaps #[32, 32] #[4]) (by kernel_rfl),
        Lib.run_overlaps_apart w 32 4 35 Try.underlying32 2 (fun w => by simp [Go.sizeOf, typeInfo, hti, hts]) ⟨vb, 0, none⟩ ⟨g, (i + 1) * 2, none⟩ 1 1 lb cb hgv 35 35 2 (c * 2) hsa hsb (by omega) (HB.out.free _) (HB.out.free _)]
      rfl
    have hcc : ¬ c = i + 1 := by omega
    have hw1 : IntKind.i64.wrap ((i : Int) + 1) = (i : Int) + 1 := by rw [IntKind.wrap_i64]; omega
    have hb1 : (0 : Int) ≤ (i : Int) + 1 := by omega
    have hb2 : (i : Int) + 1 ≤ (n : Int) + 1 := by omega
    have hb3 : (i : Int) ≤ (n : Int) + 1 := by omega
    have htn : ((i : Int) + 1).toNat = i + 1 := by omega
    have hnn : n + 1 - (i + 1) = n - i := by omega
    go_wp2_with (simp only [hov])
    go_region_law (refine step_copy_run rfl _ _ 32 32 rfl _ _ (by simp [Act.eval, Act.put]) (by simp [Act.eval, Act.put]) (hcp1 _ _ _) ?_)
    have hcp2 : ∀ ty, (Builtin.copy_ #[32, 32] ty #[.slice (some ⟨g, i * 2, none⟩) (n + 1 - i) (c - i), .slice (some ⟨vb, 0, none⟩) 1 1]).run Try.prog W1 = .ok (goInt (Nat.min 1 (n + 1 - i))) (W1.setRow g (c1.take (i * 2) ++ ys ++ c1.drop (i * 2 + ys.length)).toArray) := fun ty =>
      run_copy_rowK W1 _ _ ty 35 g (i * 2) (n + 1 - i) (c - i) ⟨vb, 0, none⟩ 1 1 2 c1 35 ys Try.underlying32 hsz hg1 (by rw [HY.out.1]; have : Nat.min 1 (n + 1 - i) = 1 := (by simp only [Nat.min_def]; split <;> omega); rw [this])
        (fun j u hu => by rw [Addr.add_lit, Nat.zero_add]; exact ((HB.out.to ho1 (by simpa using hgv.symm)).cell hu)) (by rw [HY.out.1, hcl1]; omega) HY.out.2
    have HF : Hid (InsPost 35 2 base ((cl.take (n * 2)).take (i * 2) ++ ys ++ (cl.take (n * 2)).drop (i * 2)) (n + 1) (.slice (some ⟨g, 0, none⟩) n c) w (.returned (.slice (some ⟨g, 0, none⟩) (n + 1) c)) (W1.setRow g (c1.take (i * 2) ++ ys ++ c1.drop (i * 2 + ys.length)).toArray)) := by
      refine ⟨_, _, rfl, ⟨?_, .inr ⟨g, c, (c1.take (i * 2) ++ ys ++ c1.drop (i * 2 + ys.length)).toArray, rfl, hbg, hg1.setRow _, hroom, by unfold maxLen; omega, ?_, by first | exact hil | simpa only [Nat.mul_one] using hil⟩⟩, grown_only (ho1.trans (only_setRow (R := fun y => some g = some y) rfl _)), .inl rfl⟩
      · simp only [List.length_append, List.length_take, List.length_drop, HY.out.1, hcl]; omega
      · simp only [List.size_toArray, List.length_append, List.length_take, List.length_drop, HY.out.1, hcl1]; omega
    generalize W1.setRow g (c1.take (i * 2) ++ ys ++ c1.drop (i * 2 + ys.length)).toArray = W2 at *
    clear hil hcl1 hg1 ho1 hcp1 hov
    go_wp2_with (at_builtin; refine wpList_copy_run _ rfl _ _ 32 32 rfl _ _ rfl rfl (hcp2 _) ?_)
    go_ret
    exact HF.out
  · have hr' : (c : Int) < (n : Int) + 1 := by omega
    have hkk : (n : Int) + 1 - (i : Int) = ((n + 1 - i : Nat) : Int) := by omega
    have hik : i + (n + 1 - i) = n + 1 := by omega
    have hold : (Builtin.firstCells ti.size i (.slice (some ⟨g, 0, none⟩) i c)).run Try.prog w.drew = .ok ((cl.take (n * 2)).take (i * 2)).toArray w.drew := by
      rw [hts]
      refine run_firstCells_some w.drew 2 i ⟨g, 0, none⟩ i c _ (by rw [List.length_take, hxl]; omega) (fun j u hu => ?_)
      rw [Addr.add_lit, Nat.zero_add]
      rw [List.getElem?_take] at hu
      split at hu
      · exact hsrc j u hu
      · cases hu
    have hrz : ∀ ty, (Builtin.append_ #[32, 3] ty #[.slice (some ⟨g, 0, none⟩) i c, .int .i64 ((n : Int) + 1 - (i : Int))]).run Try.prog w =
        .ok (.slice (some ⟨w.heap.size, 0, none⟩) (n + 1) (grownCap w (n + 1) c 35)) (w.drew.alloc (.cells (((cl.take (n * 2)).take (i * 2)).toArray ++ Builtin.zeroCells (Value.agg #[.string ⟨#[]⟩, .string ⟨#[]⟩]).cells (n + 1 - i) ++ Builtin.zeroCells (Value.agg #[.string ⟨#[]⟩, .string ⟨#[]⟩]).cells (grownCap w (n + 1) c 35 - (n + 1))) 35)) := fun ty => by
      have h := Lib.run_append_grow_zeros w 32 3 ty 35 ti _ .i64 .i64 Try.underlying32 Try.underlying3 hti htz (some ⟨g, 0, none⟩) i c ((cl.take (n * 2)).take (i * 2)) hold (n + 1 - i) (by omega) (by omega) (by omega) (by omega) (by rw [htb]; omega) (by rw [htb, hik]; exact growslice_fits (by omega) (by omega))
      rw [hik] at h
      rw [hkk]
      exact h
    have hGn : n + 1 ≤ grownCap w (n + 1) c 35 := grownCap_ge w _ _ _
    have hG63 : grownCap w (n + 1) c 35 ≤ 9223372036854775807 := by
      have := grownCap_le_maxLen w (n + 1) c 35 (by unfold maxLen; omega)
      unfold maxLen at this
      omega
    generalize grownCap w (n + 1) c 35 = G at *
    obtain ⟨Z, hZ⟩ : ∃ Z : List Value, Z = (Builtin.zeroCells (Value.agg #[.string ⟨#[]⟩, .string ⟨#[]⟩]).cells (n + 1 - i)).toList ++ (Builtin.zeroCells (Value.agg #[.string ⟨#[]⟩, .string ⟨#[]⟩]).cells (G - (n + 1))).toList := ⟨_, rfl⟩
    have hZl : Z.length = (n + 1 - i) * 2 + (G - (n + 1)) * 2 := by rw [hZ]; simp [Builtin.zeroCells, Value.cells]
    have hK0 : Bk (w.drew.alloc (.cells (((cl.take (n * 2)).take (i * 2)).toArray ++ Builtin.zeroCells (Value.agg #[.string ⟨#[]⟩, .string ⟨#[]⟩]).cells (n + 1 - i) ++ Builtin.zeroCells (Value.agg #[.string ⟨#[]⟩, .string ⟨#[]⟩]).cells (G - (n + 1))) 35)) w.heap.size 35 ((cl.take (n * 2)).take (i * 2) ++ Z) := by
      have := Bk.new w.drew 35 ((cl.take (n * 2)).take (i * 2) ++ Z)
      have e : ((cl.take (n * 2)).take (i * 2) ++ Z).toArray = ((cl.take (n * 2)).take (i * 2)).toArray ++ Builtin.zeroCells (Value.agg #[.string ⟨#[]⟩, .string ⟨#[]⟩]).cells (n + 1 - i) ++ Builtin.zeroCells (Value.agg #[.string ⟨#[]⟩, .string ⟨#[]⟩]).cells (G - (n + 1)) := by
        rw [hZ]
        apply Array.ext'
        simp
      rw [e] at this
      exact this
    have hb0 : Below w.heap.size w (w.drew.alloc (.cells (((cl.take (n * 2)).take (i * 2)).toArray ++ Builtin.zeroCells (Value.agg #[.string ⟨#[]⟩, .string ⟨#[]⟩]).cells (n + 1 - i) ++ Builtin.zeroCells (Value.agg #[.string ⟨#[]⟩, .string ⟨#[]⟩]).cells (G - (n + 1))) 35)) := Below.then' (below_drew w) (below_new (Below.refl _ _)) (Nat.le_refl _)
    generalize w.drew.alloc (.cells (((cl.take (n * 2)).take (i * 2)).toArray ++ Builtin.zeroCells (Value.agg #[.string ⟨#[]⟩, .string ⟨#[]⟩]).cells (n + 1 - i) ++ Builtin.zeroCells (Value.agg #[.string ⟨#[]⟩, .string ⟨#[]⟩]).cells (G - (n + 1))) 35) = W0 at *
    clear hZ hold
    have hAl : ((cl.take (n * 2)).take (i * 2)).length = i * 2 := by rw [List.length_take, hxl]; omega
    have hEA : ((cl.take (n * 2)).take (i * 2) ++ Z).take (i * 2) ++ ys ++ ((cl.take (n * 2)).take (i * 2) ++ Z).drop (i * 2 + ys.length) = (cl.take (n * 2)).take (i * 2) ++ ys ++ Z.drop 2 := by
      rw [take_at hAl, drop_at hAl, HY.out.1]
    have hcpA : ∀ ty, (Builtin.copy_ #[32, 32] ty #[.slice (some ⟨w.heap.size, i * 2, none⟩) (n + 1 - i) (G - i), .slice (some ⟨vb, 0, none⟩) 1 1]).run Try.prog W0 = .ok (goInt (Nat.min 1 (n + 1 - i))) (W0.setRow w.heap.size ((cl.take (n * 2)).take (i * 2) ++ ys ++ Z.drop 2).toArray) := fun ty => by
      rw [← hEA]
      exact run_copy_rowK W0 _ _ ty 35 w.heap.size (i * 2) (n + 1 - i) (G - i) ⟨vb, 0, none⟩ 1 1 2 _ 35 ys Try.underlying32 hsz hK0 (by rw [HY.out.1]; have : Nat.min 1 (n + 1 - i) = 1 := (by simp only [Nat.min_def]; split <;> omega); rw [this])
        (fun j u hu => by rw [Addr.add_lit, Nat.zero_add]; exact ((HB.out.below hb0).cell hu)) (by rw [HY.out.1, List.length_append, hAl, hZl]; omega) HY.out.2
    have hK1 := hK0.setRow ((cl.take (n * 2)).take (i * 2) ++ ys ++ Z.drop 2)
    have hb1 : Below w.heap.size w (W0.setRow w.heap.size ((cl.take (n * 2)).take (i * 2) ++ ys ++ Z.drop 2).toArray) := hb0.trans ((only_setRow (R := fun y => y = w.heap.size) rfl _).below hb0.size (fun b h1 h2 => by omega))
    generalize W0.setRow w.heap.size ((cl.take (n * 2)).take (i * 2) ++ ys ++ Z.drop 2).toArray = W1 at *
    have hEB : ((cl.take (n * 2)).take (i * 2) ++ ys ++ Z.drop 2).take ((i + 1) * 2) ++ (cl.take (n * 2)).drop (i * 2) ++ ((cl.take (n * 2)).take (i * 2) ++ ys ++ Z.drop 2).drop ((i + 1) * 2 + ((cl.take (n * 2)).drop (i * 2)).length) = (cl.take (n * 2)).take (i * 2) ++ ys ++ (cl.take (n * 2)).drop (i * 2) ++ Z.drop (2 + (n - i) * 2) := by
      have hl2 : ((cl.take (n * 2)).take (i * 2) ++ ys).length = (i + 1) * 2 := by rw [List.length_append, hAl, HY.out.1] <;> omega
      rw [take_at hl2, drop_at hl2, List.drop_drop, hdl]
    have hcpB : ∀ ty, (Builtin.copy_ #[32, 32] ty #[.slice (some ⟨w.heap.size, (i + 1) * 2, none⟩) (n - i) (G - (i + 1)), .slice (some ⟨g, i * 2, none⟩) (n - i) (c - i)]).run Try.prog W1.drew = .ok (goInt (Nat.min (n - i) (n - i))) (W1.drew.setRow w.heap.size ((cl.take (n * 2)).take (i * 2) ++ ys ++ (cl.take (n * 2)).drop (i * 2) ++ Z.drop (2 + (n - i) * 2)).toArray) := fun ty => by
      rw [← hEB]
      exact run_copy_rowK W1.drew _ _ ty 35 w.heap.size ((i + 1) * 2) (n - i) (G - (i + 1)) ⟨g, i * 2, none⟩ (n - i) (c - i) 2 _ 35 _ Try.underlying32 hsz (hK1.below (below_drew _)) (by rw [hdl] <;> simp)
        (fun j u hu => by rw [Addr.add_lit]; exact bk_take ((hgb.below hb1).below (below_drew _)) (by rwa [List.getElem?_drop] at hu))
        (by simp only [List.length_append, List.length_drop, hAl, HY.out.1, hZl, hxl]; omega) (fun u hu => HX.out u (List.mem_of_mem_drop hu))
    have HF : Hid (InsPost 35 2 base ((cl.take (n * 2)).take (i * 2) ++ ys ++ (cl.take (n * 2)).drop (i * 2)) (n + 1) (.slice (some ⟨g, 0, none⟩) n c) w (.returned (.slice (some ⟨w.heap.size, 0, none⟩) (n + 1) G)) (W1.drew.setRow w.heap.size ((cl.take (n * 2)).take (i * 2) ++ ys ++ (cl.take (n * 2)).drop (i * 2) ++ Z.drop (2 + (n - i) * 2)).toArray)) := by
      refine ⟨_, _, rfl, ⟨?_, .inr ⟨w.heap.size, G, _, rfl, hbase, (hK1.below (below_drew _)).setRow _, hGn, by unfold maxLen; omega, ?_, ?_⟩⟩, ?_, .inr ⟨_, rfl, Nat.le_refl _⟩⟩
      · simp only [List.length_append, hAl, HY.out.1, hdl]; omega
      · simp only [List.size_toArray, List.length_append, List.length_drop, hAl, HY.out.1, hZl, hxl]; omega
      · try rw [Nat.mul_one (n + 1)]
        show ((cl.take (n * 2)).take (i * 2) ++ ys ++ (cl.take (n * 2)).drop (i * 2) ++ Z.drop (2 + (n - i) * 2)).take ((n + 1) * 2) = _
        have hl3 : ((cl.take (n * 2)).take (i * 2) ++ ys ++ (cl.take (n * 2)).drop (i * 2)).length = (n + 1) * 2 := by simp only [List.length_append, hAl, HY.out.1, hdl]; omega
        rw [List.take_append_of_le_length (by omega), List.take_of_length_le (by omega)]
      · have hb2 := hb1.trans (((only_of_below (below_drew W1) _).trans (only_setRow (R := fun y => y = w.heap.size) rfl ((cl.take (n * 2)).take (i * 2) ++ ys ++ (cl.take (n * 2)).drop (i * 2) ++ Z.drop (2 + (n - i) * 2)).toArray)).below hb1.size (fun b h1 h2 => by omega))
        exact ⟨hb2.os, hb2.tape, hb2.output, hb2.size, fun k hk _ => hb2.block k hk⟩
    generalize W1.drew.setRow w.heap.size ((cl.take (n * 2)).take (i * 2) ++ ys ++ (cl.take (n * 2)).drop (i * 2) ++ Z.drop (2 + (n - i) * 2)).toArray = W2 at *
    have hGi : ¬ G = i := by omega
    have hGi1 : ¬ G = i + 1 := by omega
    have hw1 : IntKind.i64.wrap ((i : Int) + 1) = (i : Int) + 1 := by rw [IntKind.wrap_i64]; omega
    have hbb1 : (0 : Int) ≤ (i : Int) + 1 := by omega
    have hbb2 : (i : Int) + 1 ≤ (n : Int) + 1 := by omega
    have hbb3 : (i : Int) ≤ (n : Int) + 1 := by omega
    have htn : ((i : Int) + 1).toNat = i + 1 := by omega
    have hnn : n + 1 - (i + 1) = n - i := by omega
    clear hEA hEB hK0 hK1 hb0 hb1 hkk hik hsrc
    go_enter Try.func143, Try.ntmps143
    go_wp2_with (first
      | (at_builtin; refine Lib.wpList_append_run _ rfl _ _ _ _ rfl _ _ rfl rfl _ _ (hrz _) ?_)
      | (at_builtin; refine wpList_copy_run _ rfl _ _ 32 32 rfl _ _ rfl rfl (hcpA _) ?_))
    go_region_law (refine step_copy_run rfl _ _ 32 32 rfl _ _ (by simp [Act.eval, Act.put]) (by simp [Act.eval, Act.put]) (hcpB _) ?_)
    go_wp2
    go_ret
    exact HF.out
end Go.Proofs.Ytkflneeifllpgaa
/-
  slices.Insert of one element into a row of its own (limbs).
-/
namespace Go.Proofs.Ytkflneeifllpgaa
open Go.RowKit
theorem infoLimbP : (Try.prog.info? 66).map (fun i => (i.zero, i.size, i.bytes)) = some (some (.pointer none), 1, 8) := by kernel_rfl
set_option maxHeartbeats 4000000 in
set_option maxRecDepth 100000 in
theorem insertL_any (v : Value) (n i vb base : Nat) (xs ys : List Value) (w : World) (hO : w.ownsRow base 66 1 v n xs) (hbase : base ≤ w.heap.size) (hi : i ≤ n) (hn : n ≤ 1048576) (hB : Bk w vb 66 ys) (hy : ys.length = 1)
    (h1x : ∀ u ∈ xs, u.oneCell' = true) (h1y : ∀ u ∈ ys, u.oneCell' = true) (hne : v.ownBlock ≠ some vb) :
    Calls Try.prog 119 #[v, .int .i64 i, .slice (some ⟨vb, 0, none⟩) 1 1] w fun e w' => InsPost 66 1 base (xs.take (i) ++ ys ++ xs.drop (i)) (n + 1) v w e w' := by
  obtain ⟨ti, hti, htz, hts, htb⟩ := info_of infoLimbP
  have hsz : (Try.prog.info? 66).map (·.size) = some 1 := by rw [hti]; simp [hts]
  have HO := hid hO
  have HB := hid hB
  have HX := hid h1x
  have HY := hid (And.intro hy h1y)
  have HL := hid hO.1
  obtain ⟨a, c, hv⟩ := own_shape hO
  subst hv
  have hnc : n ≤ c ∧ c ≤ 9223372036854775807 := by
    rcases hO.2 with ⟨e, h0⟩ | ⟨g, cap, cur, e, _, _, h5, h6, _⟩
    · cases e; omega
    · cases e; unfold maxLen at h6; omega
  clear h1x hy h1y hB
  by_cases hin : i = n
  · subst hin
    have HE : Hid (xs.take (i) ++ ys ++ xs.drop (i) = xs ++ ys) := by
      show _ = _
      rw [List.take_of_length_le (by have := HL.out; omega), List.drop_eq_nil_of_le (by have := HL.out; omega), List.append_nil]
    clear hO hne
    by_cases hci : c = i
    · subst hci
      go_enter Try.func119, Try.ntmps119
      go_wp2_with (at_builtin; refine wpList_append_row_at rfl _ _ 110 rfl base 66 ti _ 1 8 Try.underlying110 hti htz hts htb rfl (by decide) _ c xs rfl HO.out (fun _ => True) _ 1 ys rfl (HB.out.rw (Nat.le_refl _) (by omega) (fun h => by omega) _ trivial) (by rw [HY.out.1]) HY.out.2 (by unfold maxLen; omega) (by omega) hbase ?_)
      intro v' w' k1 k2 k3
      obtain ⟨a', c', rfl⟩ := own_shape k1
      have HK : Hid (InsPost 66 1 base (xs ++ ys) (c + 1) (.slice a c c) w (.returned (.slice a' (c + 1) c')) w') := ⟨a', c', rfl, k1, k2, by
        rcases k3 with e | e
        · exact .inl e
        · exact .inr ⟨_, e, Nat.le_refl _⟩⟩
      clear k1 k2 k3
      go_wp2
      go_ret
      rw [HE.out]
      exact HK.out
    · have hci' : ¬ c = i := hci
      go_enter Try.func119, Try.ntmps119
      go_wp2_with (at_builtin; refine wpList_append_row_at rfl _ _ 110 rfl base 66 ti _ 1 8 Try.underlying110 hti htz hts htb rfl (by decide) _ i xs rfl HO.out (fun _ => True) _ 1 ys rfl (HB.out.rw (Nat.le_refl _) (by omega) (fun h => by omega) _ trivial) (by rw [HY.out.1]) HY.out.2 (by unfold maxLen; omega) (by omega) hbase ?_)
      intro v' w' k1 k2 k3
      obtain ⟨a', c', rfl⟩ := own_shape k1
      have HK : Hid (InsPost 66 1 base (xs ++ ys) (i + 1) (.slice a i c) w (.returned (.slice a' (i + 1) c')) w') := ⟨a', c', rfl, k1, k2, by
        rcases k3 with e | e
        · exact .inl e
        · exact .inr ⟨_, e, Nat.le_refl _⟩⟩
      clear k1 k2 k3
      go_wp2
      go_ret
      rw [HE.out]
      exact HK.out
  have hlt : i < n := by omega
  obtain ⟨g, cap, cur, e, hbg, hg, hnc', hcap, hcs, htk⟩ : ∃ g cap cur, Value.slice a n c = .slice (some ⟨g, 0, none⟩) n cap ∧ base ≤ g ∧ w.heap[g]? = some (.cells cur 66 (0, 0)) ∧ n ≤ cap ∧ cap ≤ maxLen ∧ cur.size = cap ∧ cur.toList.take (n) = xs := by
    rcases hO.2 with ⟨_, h0⟩ | h
    · omega
    · first | exact h | simpa only [Nat.mul_one] using h
  cases e
  have hgb : Bk w g 66 cur.toList := by show _ = _; simpa using hg
  have hgv : vb ≠ g := fun e => hne (by rw [e]; rfl)
  have hcl : cur.toList.length = c := by simpa using hcs
  clear hO hg hcs hne hcap hnc'
  generalize cur.toList = cl at *
  subst htk
  clear cur
  have hci : ¬ c = i := by omega
  have hci1 : ¬ c = i + 1 ∨ c = i + 1 := by omega
  have hi' : ¬ ((i : Int) = (n : Int)) := by omega
  have hii : (i : Int) ≤ (n : Int) := by omega
  have hxl : (cl.take (n)).length = n := by rw [List.length_take]; omega
  have hdl : ((cl.take (n)).drop (i)).length = (n - i) := by rw [List.length_drop, hxl] <;> omega
  have hsrc : ∀ j u, (cl.take (n))[j]? = some u → w.cell? ⟨g, j, none⟩ = some u := fun j u hu => by
    refine hgb.cell ?_
    rw [List.getElem?_take] at hu
    split at hu
    · exact hu
    · cases hu
  have hsa : w.shape? vb = some (66, 1) := by
    have h := HB.out
    have h' : w.heap[vb]? = some (.cells ys.toArray 66 (0, 0)) := h
    simp [World.shape?, h', HY.out.1]
  have hsb : w.shape? g = some (66, c) := by
    have h' : w.heap[g]? = some (.cells cl.toArray 66 (0, 0)) := hgb
    simp [World.shape?, h', hcl]
  by_cases hroom : n + 1 ≤ c
  · have hr' : ¬ (c : Int) < (n : Int) + 1 := by omega
    have hmn1 : Nat.min (n + 1 - i) (n - i) = n - i := by simp only [Nat.min_def]; split <;> omega
    have hcp1 : ∀ ty dc sc, (Builtin.copy_ #[110, 110] ty #[.slice (some ⟨g, (i + 1), none⟩) (n - i) dc, .slice (some ⟨g, i, none⟩) (n + 1 - i) sc]).run Try.prog w.drew = .ok (goInt (Nat.min (n + 1 - i) (n - i))) (w.drew.setRow g (cl.take ((i + 1)) ++ (cl.take (n)).drop (i) ++ cl.drop ((i + 1) + ((cl.take (n)).drop (i)).length)).toArray) := fun ty dc sc =>
      run_copy_rowK w.drew _ _ ty 66 g ((i + 1)) (n - i) dc ⟨g, i, none⟩ (n + 1 - i) sc 1 cl 66 _ Try.underlying110 hsz hgb (by rw [hdl, hmn1] <;> omega)
        (fun j u hu => by rw [Addr.add_lit]; exact hsrc _ u (by rwa [List.getElem?_drop] at hu)) (by rw [hdl]; omega) (fun u hu => HX.out u (List.mem_of_mem_drop hu))
    have hg1 := (hgb.below (below_drew w)).setRow (cl.take ((i + 1)) ++ (cl.take (n)).drop (i) ++ cl.drop ((i + 1) + ((cl.take (n)).drop (i)).length))
    have ho1 : Only (fun y => some g = some y) w (w.drew.setRow g (cl.take ((i + 1)) ++ (cl.take (n)).drop (i) ++ cl.drop ((i + 1) + ((cl.take (n)).drop (i)).length)).toArray) := (only_of_below (below_drew w) _).trans (only_setRow (R := fun y => some g = some y) rfl _)
    have hil := ins_list cl ys i n 1 (by rw [hcl]; omega) hi HY.out.1
    have hcl1 : (cl.take ((i + 1)) ++ (cl.take (n)).drop (i) ++ cl.drop ((i + 1) + ((cl.take (n)).drop (i)).length)).length = c := by
      simp only [List.length_append, List.length_take, List.length_drop, hcl]; omega
    simp only [Nat.mul_one] at hil
    generalize cl.take ((i + 1)) ++ (cl.take (n)).drop (i) ++ cl.drop ((i + 1) + ((cl.take (n)).drop (i)).length) = c1 at *
    generalize w.drew.setRow g c1.toArray = W1 at *
    go_enter Try.func119, Try.ntmps119
    have hov : ∀ lb cb, (callFunc 144 #[.slice (some ⟨vb, 0, none⟩) 1 1, .slice (some ⟨g, (i + 1), none⟩) lb cb]).run Try.prog w = .ok (.value (.bool false)) w := fun lb cb => by
      rw [run_callFunc_extern Try.func144 (by kernel_rfl) (by kernel_rfl) (by kernel_rfl) (e := Extern.SlicesOverlaps.overlaps #[110, 110] #[4]) (by kernel_rfl),
        Lib.run_overlaps_apart w 110 4 66 Try.underlying110 1 (fun w => by simp [Go.sizeOf, typeInfo, hti, hts]) ⟨vb, 0, none⟩ ⟨g, (i + 1), none⟩ 1 1 lb cb hgv 66 66 1 (c) hsa hsb (by omega) (HB.out.free _) (HB.out.free _)]
      rfl
    have hcc : ¬ c = i + 1 := by omega
    have hw1 : IntKind.i64.wrap ((i : Int) + 1) = (i : Int) + 1 := by rw [IntKind.wrap_i64]; omega
    have hb1 : (0 : Int) ≤ (i : Int) + 1 := by omega
    have hb2 : (i : Int) + 1 ≤ (n : Int) + 1 := by omega
    have hb3 : (i : Int) ≤ (n : Int) + 1 := by omega
    have htn : ((i : Int) + 1).toNat = i + 1 := by omega
    have hnn : n + 1 - (i + 1) = n - i := by omega
    go_wp2_with (simp only [hov])
    go_region_law (refine step_copy_run rfl _ _ 110 110 rfl _ _ (by simp [Act.eval, Act.put]) (by simp [Act.eval, Act.put]) (hcp1 _ _ _) ?_)
    have hcp2 : ∀ ty, (Builtin.copy_ #[110, 110] ty #[.slice (some ⟨g, i, none⟩) (n + 1 - i) (c - i), .slice (some ⟨vb, 0, none⟩) 1 1]).run Try.prog W1 = .ok (goInt (Nat.min 1 (n + 1 - i))) (W1.setRow g (c1.take (i) ++ ys ++ c1.drop (i + ys.length)).toArray) := fun ty =>
      run_copy_rowK W1 _ _ ty 66 g (i) (n + 1 - i) (c - i) ⟨vb, 0, none⟩ 1 1 1 c1 66 ys Try.underlying110 hsz hg1 (by rw [HY.out.1]; have : Nat.min 1 (n + 1 - i) = 1 := (by simp only [Nat.min_def]; split <;> omega); rw [this])
        (fun j u hu => by rw [Addr.add_lit, Nat.zero_add]; exact ((HB.out.to ho1 (by simpa using hgv.symm)).cell hu)) (by rw [HY.out.1, hcl1]; omega) HY.out.2
    have HF : Hid (InsPost 66 1 base ((cl.take (n)).take (i) ++ ys ++ (cl.take (n)).drop (i)) (n + 1) (.slice (some ⟨g, 0, none⟩) n c) w (.returned (.slice (some ⟨g, 0, none⟩) (n + 1) c)) (W1.setRow g (c1.take (i) ++ ys ++ c1.drop (i + ys.length)).toArray)) := by
      refine ⟨_, _, rfl, ⟨?_, .inr ⟨g, c, (c1.take (i) ++ ys ++ c1.drop (i + ys.length)).toArray, rfl, hbg, hg1.setRow _, hroom, by unfold maxLen; omega, ?_, by first | exact hil | simpa only [Nat.mul_one] using hil⟩⟩, grown_only (ho1.trans (only_setRow (R := fun y => some g = some y) rfl _)), .inl rfl⟩
      · simp only [List.length_append, List.length_take, List.length_drop, HY.out.1, hcl]; omega
      · simp only [List.size_toArray, List.length_append, List.length_take, List.length_drop, HY.out.1, hcl1]; omega
    generalize W1.setRow g (c1.take (i) ++ ys ++ c1.drop (i + ys.length)).toArray = W2 at *
    clear hil hcl1 hg1 ho1 hcp1 hov
    go_wp2_with (at_builtin; refine wpList_copy_run _ rfl _ _ 110 110 rfl _ _ rfl rfl (hcp2 _) ?_)
    go_ret
    exact HF.out
  · have hr' : (c : Int) < (n : Int) + 1 := by omega
    have hkk : (n : Int) + 1 - (i : Int) = ((n + 1 - i : Nat) : Int) := by omega
    have hik : i + (n + 1 - i) = n + 1 := by omega
    have hold : (Builtin.firstCells ti.size i (.slice (some ⟨g, 0, none⟩) i c)).run Try.prog w.drew = .ok ((cl.take (n)).take (i)).toArray w.drew := by
      rw [hts]
      refine run_firstCells_some w.drew 1 i ⟨g, 0, none⟩ i c _ (by rw [List.length_take, hxl]; omega) (fun j u hu => ?_)
      rw [Addr.add_lit, Nat.zero_add]
      rw [List.getElem?_take] at hu
      split at hu
      · exact hsrc j u hu
      · cases hu
    have hrz : ∀ ty, (Builtin.append_ #[110, 3] ty #[.slice (some ⟨g, 0, none⟩) i c, .int .i64 ((n : Int) + 1 - (i : Int))]).run Try.prog w =
        .ok (.slice (some ⟨w.heap.size, 0, none⟩) (n + 1) (grownCap w (n + 1) c 66)) (w.drew.alloc (.cells (((cl.take (n)).take (i)).toArray ++ Builtin.zeroCells (Value.pointer none).cells (n + 1 - i) ++ Builtin.zeroCells (Value.pointer none).cells (grownCap w (n + 1) c 66 - (n + 1))) 66)) := fun ty => by
      have h := Lib.run_append_grow_zeros w 110 3 ty 66 ti _ .i64 .i64 Try.underlying110 Try.underlying3 hti htz (some ⟨g, 0, none⟩) i c ((cl.take (n)).take (i)) hold (n + 1 - i) (by omega) (by omega) (by omega) (by omega) (by rw [htb]; omega) (by rw [htb, hik]; exact growslice_fits (by omega) (by omega))
      rw [hik] at h
      rw [hkk]
      exact h
    have hGn : n + 1 ≤ grownCap w (n + 1) c 66 := grownCap_ge w _ _ _
    have hG63 : grownCap w (n + 1) c 66 ≤ 9223372036854775807 := by
      have := grownCap_le_maxLen w (n + 1) c 66 (by unfold maxLen; omega)
      unfold maxLen at this
      omega
    generalize grownCap w (n + 1) c 66 = G at *
    obtain ⟨Z, hZ⟩ : ∃ Z : List Value, Z = (Builtin.zeroCells (Value.pointer none).cells (n + 1 - i)).toList ++ (Builtin.zeroCells (Value.pointer none).cells (G - (n + 1))).toList := ⟨_, rfl⟩
    have hZl : Z.length = (n + 1 - i) + (G - (n + 1)) := by rw [hZ]; simp [Builtin.zeroCells, Value.cells]
    have hK0 : Bk (w.drew.alloc (.cells (((cl.take (n)).take (i)).toArray ++ Builtin.zeroCells (Value.pointer none).cells (n + 1 - i) ++ Builtin.zeroCells (Value.pointer none).cells (G - (n + 1))) 66)) w.heap.size 66 ((cl.take (n)).take (i) ++ Z) := by
      have := Bk.new w.drew 66 ((cl.take (n)).take (i) ++ Z)
      have e : ((cl.take (n)).take (i) ++ Z).toArray = ((cl.take (n)).take (i)).toArray ++ Builtin.zeroCells (Value.pointer none).cells (n + 1 - i) ++ Builtin.zeroCells (Value.pointer none).cells (G - (n + 1)) := by
        rw [hZ]
        apply Array.ext'
        simp
      rw [e] at this
      exact this
    have hb0 : Below w.heap.size w (w.drew.alloc (.cells (((cl.take (n)).take (i)).toArray ++ Builtin.zeroCells (Value.pointer none).cells (n + 1 - i) ++ Builtin.zeroCells (Value.pointer none).cells (G - (n + 1))) 66)) := Below.then' (below_drew w) (below_new (Below.refl _ _)) (Nat.le_refl _)
    generalize w.drew.alloc (.cells (((cl.take (n)).take (i)).toArray ++ Builtin.zeroCells (Value.pointer none).cells (n + 1 - i) ++ Builtin.zeroCells (Value.pointer none).cells (G - (n + 1))) 66) = W0 at *
    clear hZ hold
    have hAl : ((cl.take (n)).take (i)).length = i := by rw [List.length_take, hxl]; omega
    have hEA : ((cl.take (n)).take (i) ++ Z).take (i) ++ ys ++ ((cl.take (n)).take (i) ++ Z).drop (i + ys.length) = (cl.take (n)).take (i) ++ ys ++ Z.drop 1 := by
      rw [take_at hAl, drop_at hAl, HY.out.1]
    have hcpA : ∀ ty, (Builtin.copy_ #[110, 110] ty #[.slice (some ⟨w.heap.size, i, none⟩) (n + 1 - i) (G - i), .slice (some ⟨vb, 0, none⟩) 1 1]).run Try.prog W0 = .ok (goInt (Nat.min 1 (n + 1 - i))) (W0.setRow w.heap.size ((cl.take (n)).take (i) ++ ys ++ Z.drop 1).toArray) := fun ty => by
      rw [← hEA]
      exact run_copy_rowK W0 _ _ ty 66 w.heap.size (i) (n + 1 - i) (G - i) ⟨vb, 0, none⟩ 1 1 1 _ 66 ys Try.underlying110 hsz hK0 (by rw [HY.out.1]; have : Nat.min 1 (n + 1 - i) = 1 := (by simp only [Nat.min_def]; split <;> omega); rw [this])
        (fun j u hu => by rw [Addr.add_lit, Nat.zero_add]; exact ((HB.out.below hb0).cell hu)) (by rw [HY.out.1, List.length_append, hAl, hZl]; omega) HY.out.2
    have hK1 := hK0.setRow ((cl.take (n)).take (i) ++ ys ++ Z.drop 1)
    have hb1 : Below w.heap.size w (W0.setRow w.heap.size ((cl.take (n)).take (i) ++ ys ++ Z.drop 1).toArray) := hb0.trans ((only_setRow (R := fun y => y = w.heap.size) rfl _).below hb0.size (fun b h1 h2 => by omega))
    generalize W0.setRow w.heap.size ((cl.take (n)).take (i) ++ ys ++ Z.drop 1).toArray = W1 at *
    have hEB : ((cl.take (n)).take (i) ++ ys ++ Z.drop 1).take ((i + 1)) ++ (cl.take (n)).drop (i) ++ ((cl.take (n)).take (i) ++ ys ++ Z.drop 1).drop ((i + 1) + ((cl.take (n)).drop (i)).length) = (cl.take (n)).take (i) ++ ys ++ (cl.take (n)).drop (i) ++ Z.drop (1 + (n - i)) := by
      have hl2 : ((cl.take (n)).take (i) ++ ys).length = (i + 1) := by rw [List.length_append, hAl, HY.out.1] <;> omega
      rw [take_at hl2, drop_at hl2, List.drop_drop, hdl]
    have hcpB : ∀ ty, (Builtin.copy_ #[110, 110] ty #[.slice (some ⟨w.heap.size, (i + 1), none⟩) (n - i) (G - (i + 1)), .slice (some ⟨g, i, none⟩) (n - i) (c - i)]).run Try.prog W1.drew = .ok (goInt (Nat.min (n - i) (n - i))) (W1.drew.setRow w.heap.size ((cl.take (n)).take (i) ++ ys ++ (cl.take (n)).drop (i) ++ Z.drop (1 + (n - i))).toArray) := fun ty => by
      rw [← hEB]
      exact run_copy_rowK W1.drew _ _ ty 66 w.heap.size ((i + 1)) (n - i) (G - (i + 1)) ⟨g, i, none⟩ (n - i) (c - i) 1 _ 66 _ Try.underlying110 hsz (hK1.below (below_drew _)) (by rw [hdl] <;> simp)
        (fun j u hu => by rw [Addr.add_lit]; exact bk_take ((hgb.below hb1).below (below_drew _)) (by rwa [List.getElem?_drop] at hu))
        (by simp only [List.length_append, List.length_drop, hAl, HY.out.1, hZl, hxl]; omega) (fun u hu => HX.out u (List.mem_of_mem_drop hu))
    have HF : Hid (InsPost 66 1 base ((cl.take (n)).take (i) ++ ys ++ (cl.take (n)).drop (i)) (n + 1) (.slice (some ⟨g, 0, none⟩) n c) w (.returned (.slice (some ⟨w.heap.size, 0, none⟩) (n + 1) G)) (W1.drew.setRow w.heap.size ((cl.take (n)).take (i) ++ ys ++ (cl.take (n)).drop (i) ++ Z.drop (1 + (n - i))).toArray)) := by
      refine ⟨_, _, rfl, ⟨?_, .inr ⟨w.heap.size, G, _, rfl, hbase, (hK1.below (below_drew _)).setRow _, hGn, by unfold maxLen; omega, ?_, ?_⟩⟩, ?_, .inr ⟨_, rfl, Nat.le_refl _⟩⟩
      · simp only [List.length_append, hAl, HY.out.1, hdl]; omega
      · simp only [List.size_toArray, List.length_append, List.length_drop, hAl, HY.out.1, hZl, hxl]; omega
      · try rw [Nat.mul_one (n + 1)]
        show ((cl.take (n)).take (i) ++ ys ++ (cl.take (n)).drop (i) ++ Z.drop (1 + (n - i))).take ((n + 1)) = _
        have hl3 : ((cl.take (n)).take (i) ++ ys ++ (cl.take (n)).drop (i)).length = (n + 1) := by simp only [List.length_append, hAl, HY.out.1, hdl]; omega
        rw [List.take_append_of_le_length (by omega), List.take_of_length_le (by omega)]
      · have hb2 := hb1.trans (((only_of_below (below_drew W1) _).trans (only_setRow (R := fun y => y = w.heap.size) rfl ((cl.take (n)).take (i) ++ ys ++ (cl.take (n)).drop (i) ++ Z.drop (1 + (n - i))).toArray)).below hb1.size (fun b h1 h2 => by omega))
        exact ⟨hb2.os, hb2.tape, hb2.output, hb2.size, fun k hk _ => hb2.block k hk⟩
    generalize W1.drew.setRow w.heap.size ((cl.take (n)).take (i) ++ ys ++ (cl.take (n)).drop (i) ++ Z.drop (1 + (n - i))).toArray = W2 at *
    have hGi : ¬ G = i := by omega
    have hGi1 : ¬ G = i + 1 := by omega
    have hw1 : IntKind.i64.wrap ((i : Int) + 1) = (i : Int) + 1 := by rw [IntKind.wrap_i64]; omega
    have hbb1 : (0 : Int) ≤ (i : Int) + 1 := by omega
    have hbb2 : (i : Int) + 1 ≤ (n : Int) + 1 := by omega
    have hbb3 : (i : Int) ≤ (n : Int) + 1 := by omega
    have htn : ((i : Int) + 1).toNat = i + 1 := by omega
    have hnn : n + 1 - (i + 1) = n - i := by omega
    clear hEA hEB hK0 hK1 hb0 hb1 hkk hik hsrc
    go_enter Try.func119, Try.ntmps119
    go_wp2_with (first
      | (at_builtin; refine Lib.wpList_append_run _ rfl _ _ _ _ rfl _ _ rfl rfl _ _ (hrz _) ?_)
      | (at_builtin; refine wpList_copy_run _ rfl _ _ 110 110 rfl _ _ rfl rfl (hcpA _) ?_))
    go_region_law (refine step_copy_run rfl _ _ 110 110 rfl _ _ (by simp [Act.eval, Act.put]) (by simp [Act.eval, Act.put]) (hcpB _) ?_)
    go_wp2
    go_ret
    exact HF.out
end Go.Proofs.Ytkflneeifllpgaa
/-
  slices.Grow of nil, slices.Concat of two (pairs).
-/
namespace Go.Proofs.Ytkflneeifllpgaa
open Go.RowKit
/-- What is made newly: a row of its own, beside all that was there. -/
def NewPost (E : TypeId) (size n : Nat) (xs : List Value) (w : World) (e : Ending) (w' : World) : Prop := ∃ a c, e = .returned (.slice a n c) ∧ w'.ownsRow w.heap.size E size (.slice a n c) n xs ∧ Below w.heap.size w w'
set_option maxHeartbeats 2000000 in
set_option maxRecDepth 100000 in
theorem growP_any (k : Nat) (w : World) (hk : k ≤ 2097152) : Calls Try.prog 163 #[.slice none 0 0, .int .i64 k] w fun e w' => NewPost 35 2 0 [] w e w' := by
  obtain ⟨ti, hti, htz, hts, htb⟩ := info_of infoPairI
  rcases Nat.eq_zero_or_pos k with h0 | hp
  · subst h0
    go_enter Try.func163, Try.ntmps163
    go_wp2
    go_ret
    exact ⟨_, _, rfl, World.ownsRow_nil _ _ _ _, Below.refl _ _⟩
  · have hold : (Builtin.firstCells ti.size 0 (.slice none 0 0)).run Try.prog w.drew = .ok ([] : List Value).toArray w.drew := by simp [Builtin.firstCells]
    have hrz : ∀ ty, (Builtin.append_ #[32, 3] ty #[.slice none 0 0, .int .i64 (k : Int)]).run Try.prog w =
        .ok (.slice (some ⟨w.heap.size, 0, none⟩) k (grownCap w k 0 35)) (w.drew.alloc (.cells (([] : List Value).toArray ++ Builtin.zeroCells (Value.agg #[.string ⟨#[]⟩, .string ⟨#[]⟩]).cells k ++ Builtin.zeroCells (Value.agg #[.string ⟨#[]⟩, .string ⟨#[]⟩]).cells (grownCap w k 0 35 - k)) 35)) := fun ty => by
      have h := Lib.run_append_grow_zeros w 32 3 ty 35 ti _ .i64 .i64 Try.underlying32 Try.underlying3 hti htz none 0 0 [] hold k hp (by omega) (by omega) (by omega) (by rw [htb]; omega) (by rw [htb, Nat.zero_add]; exact growslice_fits (by omega) (by omega))
      rw [Nat.zero_add] at h
      exact h
    have hGn : k ≤ grownCap w k 0 35 := grownCap_ge w _ _ _
    have hG63 : grownCap w k 0 35 ≤ 9223372036854775807 := by
      have := grownCap_le_maxLen w k 0 35 (by unfold maxLen; omega)
      unfold maxLen at this
      omega
    generalize grownCap w k 0 35 = G at *
    have HK : Hid (NewPost 35 2 0 [] w (.returned (.slice (some ⟨w.heap.size, 0, none⟩) 0 G)) (w.drew.alloc (.cells (([] : List Value).toArray ++ Builtin.zeroCells (Value.agg #[.string ⟨#[]⟩, .string ⟨#[]⟩]).cells k ++ Builtin.zeroCells (Value.agg #[.string ⟨#[]⟩, .string ⟨#[]⟩]).cells (G - k)) 35))) := by
      refine ⟨_, _, rfl, ⟨rfl, .inr ⟨w.heap.size, G, _, rfl, Nat.le_refl _, heap_alloc_new w.drew _, Nat.zero_le _, by unfold maxLen; omega, ?_, by simp⟩⟩, Below.then' (below_drew w) (below_new (Below.refl _ _)) (Nat.le_refl _)⟩
      simp [Builtin.zeroCells, Value.cells]
      omega
    generalize w.drew.alloc (.cells (([] : List Value).toArray ++ Builtin.zeroCells (Value.agg #[.string ⟨#[]⟩, .string ⟨#[]⟩]).cells k ++ Builtin.zeroCells (Value.agg #[.string ⟨#[]⟩, .string ⟨#[]⟩]).cells (G - k)) 35) = W0 at *
    have hk1 : (0 : Int) < (k : Int) := by omega
    clear hold
    go_enter Try.func163, Try.ntmps163
    go_wp2_with (at_builtin; refine Lib.wpList_append_run _ rfl _ _ _ _ rfl _ _ rfl rfl _ _ (hrz _) ?_)
    go_ret
    exact HK.out
set_option maxHeartbeats 4000000 in
set_option maxRecDepth 20000 in
theorem concatP_any (S1 S2 : Nat → Prop) (a1 a2 : Option Addr) (n1 n2 c1 c2 cb : Nat) (xs1 xs2 : List Value) (w : World) (h1 : Rw w S1 (.slice a1 n1 c1) n1 xs1) (h2 : Rw w S2 (.slice a2 n2 c2) n2 xs2) (hc : Bk w cb 32 [.slice a1 n1 c1, .slice a2 n2 c2])
    (hb1 : n1 ≤ 1048576) (hb2 : n2 ≤ 1048576) (hl1 : xs1.length = n1 * 2) (hl2 : xs2.length = n2 * 2) (ho1 : ∀ u ∈ xs1, u.oneCell' = true) (ho2 : ∀ u ∈ xs2, u.oneCell' = true) :
    Calls Try.prog 157 #[.slice (some ⟨cb, 0, none⟩) 2 2] w fun e w' => NewPost 35 2 (n1 + n2) (xs1 ++ xs2) w e w' := by
  obtain ⟨ti, hti, htz, hts, htb⟩ := info_of infoPairI
  have H1 := hid h1
  have H2 := hid h2
  have HC := hid hc
  have HX1 := hid (And.intro hl1 ho1)
  have HX2 := hid (And.intro hl2 ho2)
  clear h1 h2 hc hl1 hl2 ho1 ho2
  have c0 := HC.out.cell (j := 0) rfl
  have c1' := HC.out.cell (j := 1) rfl
  go_enter Try.func157, Try.ntmps157
  go_wp2_with fail
  go_loop [3, 11] (fun x i => (i = .int .i64 0 ∧ x = .int .i64 0) ∨ (i = .int .i64 1 ∧ x = .int .i64 (n1 : Int)) ∨ (i = .int .i64 2 ∧ x = .int .i64 ((n1 + n2 : Nat) : Int))) (fun _ i => 2 - (intOf i).toNat)
  case atStart => exact .inl ⟨rfl, rfl⟩
  case round =>
    rcases hrel with ⟨rfl, rfl⟩ | ⟨rfl, rfl⟩ | ⟨rfl, rfl⟩
    · go_wp2
      go_round
      case rel => exact .inr (.inl ⟨rfl, by go_num⟩)
      case measure => simp [intOf]
    · go_wp2
      go_round
      case rel => exact .inr (.inr ⟨rfl, by go_num⟩)
      case measure => simp [intOf]
    · clear c0 c1'
      have hnn : n1 + n2 ≤ 2097152 := by omega
      go_wp2_with fail
      refine (growP_any (n1 + n2) w hnn).mono ?_
      rintro e w1 ⟨av, cv, rfl, hO, hb⟩
      have HO := hid hO
      have HB := hid hb
      clear hO hb
      go_wp2_with fail
      go_loopw [6, 27] (fun x i wr => ∃ (a : Option Addr) (m c : Nat), x = .slice a m c ∧ Hid (Below w.heap.size w wr) ∧ ((i = .int .i64 0 ∧ m = 0 ∧ Hid (wr.ownsRow w.heap.size 35 2 (.slice a m c) m [])) ∨ (i = .int .i64 1 ∧ m = n1 ∧ Hid (wr.ownsRow w.heap.size 35 2 (.slice a m c) m xs1)) ∨ (i = .int .i64 2 ∧ m = n1 + n2 ∧ Hid (wr.ownsRow w.heap.size 35 2 (.slice a m c) m (xs1 ++ xs2))))) (fun _ i _ => 2 - (intOf i).toNat)
      case atStart => exact ⟨av, 0, cv, rfl, HB.out, .inl ⟨rfl, rfl, HO.out⟩⟩
      case round =>
        obtain ⟨a, m, c, rfl, HBW, hcase⟩ := hrel
        rcases hcase with ⟨rfl, rfl, HO2⟩ | ⟨rfl, hm, HO2⟩ | ⟨rfl, hm, HO2⟩
        · have d0 := (HC.out.below HBW.out).cell (j := 0) rfl
          have HR := hid (H1.out.below HBW.out)
          have hsz := HBW.out.size
          go_wp2_with (at_builtin; refine wpList_append_row_at rfl _ _ 32 rfl w.heap.size 35 ti _ 2 32 Try.underlying32 hti htz hts htb rfl (by decide) _ 0 [] rfl HO2.out _ _ n1 xs1 rfl HR.out HX1.out.1 HX1.out.2 (by unfold maxLen; omega) (by omega) hsz ?_)
          intro v' w' k1 k2 k3
          try rw [Nat.zero_add] at k1
          obtain ⟨a', c', rfl⟩ := own_shape k1
          have HB3 := hid (HBW.out.grown k2 HBW.out.size fun k hk => (World.ownsRow.lt HO2.out k hk).1)
          have HO3 : Hid (w'.ownsRow w.heap.size 35 2 (.slice a' n1 c') n1 xs1) := k1
          clear k1 k2 k3 d0
          go_wp2
          go_roundw
          case rel => exact ⟨a', n1, c', rfl, HB3.out, .inr (.inl ⟨rfl, rfl, HO3.out⟩)⟩
          case measure => simp [intOf]
        · subst hm
          have d0 := (HC.out.below HBW.out).cell (j := 1) rfl
          have HR := hid (H2.out.below HBW.out)
          have hsz := HBW.out.size
          go_wp2_with (at_builtin; refine wpList_append_row_at rfl _ _ 32 rfl w.heap.size 35 ti _ 2 32 Try.underlying32 hti htz hts htb rfl (by decide) _ _ xs1 rfl HO2.out _ _ n2 xs2 rfl HR.out HX2.out.1 HX2.out.2 (by unfold maxLen; omega) (by omega) hsz ?_)
          intro v' w' k1 k2 k3
          obtain ⟨a', c', rfl⟩ := own_shape k1
          have HB3 := hid (HBW.out.grown k2 HBW.out.size fun k hk => (World.ownsRow.lt HO2.out k hk).1)
          have HO3 := hid k1
          clear k1 k2 k3 d0
          go_wp2
          go_roundw
          case rel => exact ⟨a', _, c', rfl, HB3.out, .inr (.inr ⟨rfl, rfl, HO3.out⟩)⟩
          case measure => simp [intOf]
        · subst hm
          go_wp2
          go_ret
          exact ⟨a, c, rfl, HO2.out, HBW.out⟩
end Go.Proofs.Ytkflneeifllpgaa
/-
  slices.Grow of nil, slices.Concat of two (limbs).
-/
namespace Go.Proofs.Ytkflneeifllpgaa
open Go.RowKit

set_option maxHeartbeats 2000000 in
set_option maxRecDepth 100000 in
theorem growL_any (k : Nat) (w : World) (hk : k ≤ 2097152) : Calls Try.prog 164 #[.slice none 0 0, .int .i64 k] w fun e w' => NewPost 66 1 0 [] w e w' := by
  obtain ⟨ti, hti, htz, hts, htb⟩ := info_of infoLimbP
  rcases Nat.eq_zero_or_pos k with h0 | hp
  · subst h0
    go_enter Try.func164, Try.ntmps164
    go_wp2
    go_ret
    exact ⟨_, _, rfl, World.ownsRow_nil _ _ _ _, Below.refl _ _⟩
  · have hold : (Builtin.firstCells ti.size 0 (.slice none 0 0)).run Try.prog w.drew = .ok ([] : List Value).toArray w.drew := by simp [Builtin.firstCells]
    have hrz : ∀ ty, (Builtin.append_ #[110, 3] ty #[.slice none 0 0, .int .i64 (k : Int)]).run Try.prog w =
        .ok (.slice (some ⟨w.heap.size, 0, none⟩) k (grownCap w k 0 66)) (w.drew.alloc (.cells (([] : List Value).toArray ++ Builtin.zeroCells (Value.pointer none).cells k ++ Builtin.zeroCells (Value.pointer none).cells (grownCap w k 0 66 - k)) 66)) := fun ty => by
      have h := Lib.run_append_grow_zeros w 110 3 ty 66 ti _ .i64 .i64 Try.underlying110 Try.underlying3 hti htz none 0 0 [] hold k hp (by omega) (by omega) (by omega) (by rw [htb]; omega) (by rw [htb, Nat.zero_add]; exact growslice_fits (by omega) (by omega))
      rw [Nat.zero_add] at h
      exact h
    have hGn : k ≤ grownCap w k 0 66 := grownCap_ge w _ _ _
    have hG63 : grownCap w k 0 66 ≤ 9223372036854775807 := by
      have := grownCap_le_maxLen w k 0 66 (by unfold maxLen; omega)
      unfold maxLen at this
      omega
    generalize grownCap w k 0 66 = G at *
    have HK : Hid (NewPost 66 1 0 [] w (.returned (.slice (some ⟨w.heap.size, 0, none⟩) 0 G)) (w.drew.alloc (.cells (([] : List Value).toArray ++ Builtin.zeroCells (Value.pointer none).cells k ++ Builtin.zeroCells (Value.pointer none).cells (G - k)) 66))) := by
      refine ⟨_, _, rfl, ⟨rfl, .inr ⟨w.heap.size, G, _, rfl, Nat.le_refl _, heap_alloc_new w.drew _, Nat.zero_le _, by unfold maxLen; omega, ?_, by simp⟩⟩, Below.then' (below_drew w) (below_new (Below.refl _ _)) (Nat.le_refl _)⟩
      simp [Builtin.zeroCells, Value.cells]
      omega
    generalize w.drew.alloc (.cells (([] : List Value).toArray ++ Builtin.zeroCells (Value.pointer none).cells k ++ Builtin.zeroCells (Value.pointer none).cells (G - k)) 66) = W0 at *
    have hk1 : (0 : Int) < (k : Int) := by omega
    clear hold
    go_enter Try.func164, Try.ntmps164
    go_wp2_with (at_builtin; refine Lib.wpList_append_run _ rfl _ _ _ _ rfl _ _ rfl rfl _ _ (hrz _) ?_)
    go_ret
    exact HK.out
set_option maxHeartbeats 4000000 in
set_option maxRecDepth 20000 in
theorem concatL_any (S1 S2 : Nat → Prop) (a1 a2 : Option Addr) (n1 n2 c1 c2 cb : Nat) (xs1 xs2 : List Value) (w : World) (h1 : Rw w S1 (.slice a1 n1 c1) n1 xs1) (h2 : Rw w S2 (.slice a2 n2 c2) n2 xs2) (hc : Bk w cb 110 [.slice a1 n1 c1, .slice a2 n2 c2])
    (hb1 : n1 ≤ 1048576) (hb2 : n2 ≤ 1048576) (hl1 : xs1.length = n1 * 1) (hl2 : xs2.length = n2 * 1) (ho1 : ∀ u ∈ xs1, u.oneCell' = true) (ho2 : ∀ u ∈ xs2, u.oneCell' = true) :
    Calls Try.prog 158 #[.slice (some ⟨cb, 0, none⟩) 2 2] w fun e w' => NewPost 66 1 (n1 + n2) (xs1 ++ xs2) w e w' := by
  obtain ⟨ti, hti, htz, hts, htb⟩ := info_of infoLimbP
  have H1 := hid h1
  have H2 := hid h2
  have HC := hid hc
  have HX1 := hid (And.intro hl1 ho1)
  have HX2 := hid (And.intro hl2 ho2)
  clear h1 h2 hc hl1 hl2 ho1 ho2
  have c0 := HC.out.cell (j := 0) rfl
  have c1' := HC.out.cell (j := 1) rfl
  go_enter Try.func158, Try.ntmps158
  go_wp2_with fail
  go_loop [3, 11] (fun x i => (i = .int .i64 0 ∧ x = .int .i64 0) ∨ (i = .int .i64 1 ∧ x = .int .i64 (n1 : Int)) ∨ (i = .int .i64 2 ∧ x = .int .i64 ((n1 + n2 : Nat) : Int))) (fun _ i => 2 - (intOf i).toNat)
  case atStart => exact .inl ⟨rfl, rfl⟩
  case round =>
    rcases hrel with ⟨rfl, rfl⟩ | ⟨rfl, rfl⟩ | ⟨rfl, rfl⟩
    · go_wp2
      go_round
      case rel => exact .inr (.inl ⟨rfl, by go_num⟩)
      case measure => simp [intOf]
    · go_wp2
      go_round
      case rel => exact .inr (.inr ⟨rfl, by go_num⟩)
      case measure => simp [intOf]
    · clear c0 c1'
      have hnn : n1 + n2 ≤ 2097152 := by omega
      go_wp2_with fail
      refine (growL_any (n1 + n2) w hnn).mono ?_
      rintro e w1 ⟨av, cv, rfl, hO, hb⟩
      have HO := hid hO
      have HB := hid hb
      clear hO hb
      go_wp2_with fail
      go_loopw [6, 27] (fun x i wr => ∃ (a : Option Addr) (m c : Nat), x = .slice a m c ∧ Hid (Below w.heap.size w wr) ∧ ((i = .int .i64 0 ∧ m = 0 ∧ Hid (wr.ownsRow w.heap.size 66 1 (.slice a m c) m [])) ∨ (i = .int .i64 1 ∧ m = n1 ∧ Hid (wr.ownsRow w.heap.size 66 1 (.slice a m c) m xs1)) ∨ (i = .int .i64 2 ∧ m = n1 + n2 ∧ Hid (wr.ownsRow w.heap.size 66 1 (.slice a m c) m (xs1 ++ xs2))))) (fun _ i _ => 2 - (intOf i).toNat)
      case atStart => exact ⟨av, 0, cv, rfl, HB.out, .inl ⟨rfl, rfl, HO.out⟩⟩
      case round =>
        obtain ⟨a, m, c, rfl, HBW, hcase⟩ := hrel
        rcases hcase with ⟨rfl, rfl, HO2⟩ | ⟨rfl, hm, HO2⟩ | ⟨rfl, hm, HO2⟩
        · have d0 := (HC.out.below HBW.out).cell (j := 0) rfl
          have HR := hid (H1.out.below HBW.out)
          have hsz := HBW.out.size
          go_wp2_with (at_builtin; refine wpList_append_row_at rfl _ _ 110 rfl w.heap.size 66 ti _ 1 8 Try.underlying110 hti htz hts htb rfl (by decide) _ 0 [] rfl HO2.out _ _ n1 xs1 rfl HR.out HX1.out.1 HX1.out.2 (by unfold maxLen; omega) (by omega) hsz ?_)
          intro v' w' k1 k2 k3
          try rw [Nat.zero_add] at k1
          obtain ⟨a', c', rfl⟩ := own_shape k1
          have HB3 := hid (HBW.out.grown k2 HBW.out.size fun k hk => (World.ownsRow.lt HO2.out k hk).1)
          have HO3 : Hid (w'.ownsRow w.heap.size 66 1 (.slice a' n1 c') n1 xs1) := k1
          clear k1 k2 k3 d0
          go_wp2
          go_roundw
          case rel => exact ⟨a', n1, c', rfl, HB3.out, .inr (.inl ⟨rfl, rfl, HO3.out⟩)⟩
          case measure => simp [intOf]
        · subst hm
          have d0 := (HC.out.below HBW.out).cell (j := 1) rfl
          have HR := hid (H2.out.below HBW.out)
          have hsz := HBW.out.size
          go_wp2_with (at_builtin; refine wpList_append_row_at rfl _ _ 110 rfl w.heap.size 66 ti _ 1 8 Try.underlying110 hti htz hts htb rfl (by decide) _ _ xs1 rfl HO2.out _ _ n2 xs2 rfl HR.out HX2.out.1 HX2.out.2 (by unfold maxLen; omega) (by omega) hsz ?_)
          intro v' w' k1 k2 k3
          obtain ⟨a', c', rfl⟩ := own_shape k1
          have HB3 := hid (HBW.out.grown k2 HBW.out.size fun k hk => (World.ownsRow.lt HO2.out k hk).1)
          have HO3 := hid k1
          clear k1 k2 k3 d0
          go_wp2
          go_roundw
          case rel => exact ⟨a', _, c', rfl, HB3.out, .inr (.inr ⟨rfl, rfl, HO3.out⟩)⟩
          case measure => simp [intOf]
        · subst hm
          go_wp2
          go_ret
          exact ⟨a, c, rfl, HO2.out, HBW.out⟩
end Go.Proofs.Ytkflneeifllpgaa
/-
  slices.Clone, share (pairs).
-/
namespace Go.Proofs.Ytkflneeifllpgaa
open Go.RowKit
def cutN (n : Nat) : Nat := if n ≤ 4 then n else 3
/-- What comes of sharing out: two rows of their own, made newly, apart from each other. -/
def SharePost (E : TypeId) (size n : Nat) (xs : List Value) (w : World) (e : Ending) (w' : World) : Prop :=
  ∃ a m c a' m' c', e = .returned (.tuple #[.slice a m c, .slice a' m' c']) ∧ m = cutN n ∧ m' = n - cutN n ∧ w'.ownsRow w.heap.size E size (.slice a m c) m (xs.take (m * size)) ∧ w'.ownsRow w.heap.size E size (.slice a' m' c') m' (xs.drop (m * size)) ∧
    (∀ x, (Value.slice a m c).ownBlock = some x → (Value.slice a' m' c').ownBlock ≠ some x) ∧ Below w.heap.size w w'
set_option maxHeartbeats 2000000 in
set_option maxRecDepth 100000 in
theorem cloneP'_any (S : Nat → Prop) (b off n c : Nat) (xs : List Value) (w : World) (h : Rw w S (.slice (some ⟨b, off, none⟩) n c) n xs) (hl : xs.length = n * 2) (h1 : ∀ u ∈ xs, u.oneCell' = true) (hn : n ≤ 1048576) :
    Calls Try.prog 141 #[.slice (some ⟨b, off, none⟩) n c] w fun e w' => NewPost 35 2 n xs w e w' := by
  obtain ⟨ti, hti, htz, hts, htb⟩ := info_of infoPairI
  have H0 := hid h
  have HX := hid (And.intro hl h1)
  clear h hl h1
  have he : ∀ w : World, (binOp .eql 32 (.slice (some ⟨b, off, none⟩) n c) (.slice none 0 0)).run Try.prog w = .ok (.bool false) w := fun _ => rfl
  have HB := hid (below_new (o := .cells #[] 35) (w := w) (Below.refl _ _))
  have HO : Hid ((w.alloc (.cells #[] 35)).ownsRow w.heap.size 35 2 (.slice (some ⟨w.heap.size, 0, none⟩) 0 0) 0 []) := ⟨rfl, .inr ⟨w.heap.size, 0, #[], rfl, Nat.le_refl _, heap_alloc_new w _, Nat.le_refl _, Nat.zero_le _, rfl, rfl⟩⟩
  go_enter Try.func141, Try.ntmps141
  go_wp2_with (at_builtin; refine wpList_append_row_at rfl _ _ 32 rfl w.heap.size 35 ti _ 2 32 Try.underlying32 hti htz hts htb rfl (by decide) _ 0 [] rfl HO.out S _ n xs rfl (H0.out.below HB.out) HX.out.1 HX.out.2 (by unfold maxLen; omega) (by omega) (by simp) ?_)
  intro v' w' k1 k2 k3
  try rw [Nat.zero_add] at k1
  obtain ⟨a', c', rfl⟩ := own_shape k1
  have HK : Hid (NewPost 35 2 n xs w (.returned (.slice a' n c')) w') := ⟨a', c', rfl, k1, HB.out.trans ((Below.refl _ _).grown k2 (by simp) fun k hk => (World.ownsRow.lt HO.out k hk).1)⟩
  clear k1 k2 k3
  go_wp2
  go_ret
  exact HK.out
set_option maxHeartbeats 4000000 in
set_option maxRecDepth 20000 in
theorem shareP_any (S1 S2 : Nat → Prop) (a1 a2 : Option Addr) (n1 n2 c1 c2 : Nat) (xs1 xs2 : List Value) (w : World) (h1 : Rw w S1 (.slice a1 n1 c1) n1 xs1) (h2 : Rw w S2 (.slice a2 n2 c2) n2 xs2)
    (hb : n1 + n2 ≤ 1048576) (hl1 : xs1.length = n1 * 2) (hl2 : xs2.length = n2 * 2) (ho1 : ∀ u ∈ xs1, u.oneCell' = true) (ho2 : ∀ u ∈ xs2, u.oneCell' = true) :
    Calls Try.prog 146 #[.slice a1 n1 c1, .slice a2 n2 c2, .int .i64 4] w fun e w' => SharePost 35 2 (n1 + n2) (xs1 ++ xs2) w e w' := by
  have hb0 := below_new (o := .cells #[.slice a1 n1 c1, .slice a2 n2 c2] 32) (w := w) (Below.refl _ _)
  have HB0 := hid hb0
  have HC := hid (fun w' (k1 : Rw w' S1 (.slice a1 n1 c1) n1 xs1) (k2 : Rw w' S2 (.slice a2 n2 c2) n2 xs2) cb hc => concatP_any S1 S2 a1 a2 n1 n2 c1 c2 cb xs1 xs2 w' k1 k2 hc (by omega) (by omega) hl1 hl2 ho1 ho2)
  have H1 := hid (h1.below hb0)
  have H2 := hid (h2.below hb0)
  have KC0 := hid (Bk.new w 32 [.slice a1 n1 c1, .slice a2 n2 c2])
  have HL : Hid ((xs1 ++ xs2).length = (n1 + n2) * 2) := by show _ = _; rw [List.length_append, hl1, hl2]; omega
  have HU : Hid (∀ u ∈ xs1 ++ xs2, u.oneCell' = true) := fun u hu => by
    rcases List.mem_append.1 hu with h | h
    · exact ho1 u h
    · exact ho2 u h
  have hnn : n1 + n2 ≤ 1048576 := hb
  clear h1 h2 hl1 hl2 ho1 ho2 hb0 hb
  go_enter Try.func146, Try.ntmps146
  go_wp2_with fail
  refine (HC.out _ H1.out H2.out _ KC0.out).mono ?_
  generalize w.alloc (.cells #[.slice a1 n1 c1, .slice a2 n2 c2] 32) = U at *
  rintro e w1 ⟨a, c, rfl, hO, hb⟩
  have HB1 := hid (Below.then' HB0.out hb (Nat.le_refl _))
  have HO1 := hid (own_mono hO HB0.out.size)
  clear hb hO HC H1 H2 KC0 HB0
  generalize hxs : xs1 ++ xs2 = xs at *
  generalize hn : n1 + n2 = n at *
  have HE := hid (And.intro hxs hn)
  clear hxs hn
  by_cases h4 : n ≤ 4
  · have h4' : (n : Int) ≤ 4 := by omega
    go_wp2
    go_ret2
    have hct : cutN n = n := by simp [cutN, h4]
    rw [HE.out.1, HE.out.2]
    refine ⟨a, n, c, none, 0, 0, rfl, hct.symm, by rw [hct]; omega, ?_, ?_, fun x _ h => by (cases h), HB1.out⟩
    · rw [List.take_of_length_le (by rw [HL.out]; exact Nat.le_refl _)]
      exact HO1.out
    · rw [List.drop_eq_nil_of_le (by rw [HL.out]; exact Nat.le_refl _)]
      exact World.ownsRow_nil _ _ _ _
  · have h4' : ¬ (n : Int) ≤ 4 := by omega
    obtain ⟨g, c', cur, e, hbg, hg, hnc, hcm, hcs, htk⟩ : ∃ g cap cur, Value.slice a n c = .slice (some ⟨g, 0, none⟩) n cap ∧ w.heap.size ≤ g ∧ w1.heap[g]? = some (.cells cur 35 (0, 0)) ∧ n ≤ cap ∧ cap ≤ maxLen ∧ cur.size = cap * 2 ∧ cur.toList.take (n * 2) = xs := by
      rcases HO1.out.2 with ⟨_, h0⟩ | h
      · omega
      · exact h
    cases e
    unfold maxLen at hcm
    have hgb : Bk w1 g 35 cur.toList := by show _ = _; simpa using hg
    have hcl : cur.toList.length = c * 2 := by simpa using hcs
    have RA : Hid (Rw w1 (fun _ => True) (.slice (some ⟨g, 0, none⟩) 3 c) 3 (xs.take (3 * 2))) := by
      refine ⟨_, c, rfl, by omega, by omega, fun h => by omega, fun h => by (cases h), fun _ => ⟨g, 0, rfl, hgb.lt, trivial, fun j u hu => ?_⟩⟩
      rw [Nat.zero_add]
      refine bk_take hgb (m := 3 * 2) ?_
      rw [← htk, List.take_take, Nat.min_eq_left (by omega)] at hu
      exact hu
    have RB : Hid (Rw w1 (fun _ => True) (.slice (some ⟨g, 3 * 2, none⟩) (n - 3) (c - 3)) (n - 3) (xs.drop (3 * 2))) := by
      refine ⟨_, c - 3, rfl, by omega, by omega, fun h => by omega, fun h => by (cases h), fun _ => ⟨g, 3 * 2, rfl, hgb.lt, trivial, fun j u hu => ?_⟩⟩
      rw [List.getElem?_drop] at hu
      rw [← htk] at hu
      exact bk_take hgb hu
    have hla : (xs.take (3 * 2)).length = 3 * 2 := by rw [List.length_take, HL.out]; omega
    have hlb : (xs.drop (3 * 2)).length = (n - 3) * 2 := by rw [List.length_drop, HL.out]; omega
    have HCA := hid (fun w' (k : Rw w' (fun _ => True) (.slice (some ⟨g, 0, none⟩) 3 c) 3 (xs.take (3 * 2))) => cloneP'_any _ g 0 3 c _ w' k hla (fun u hu => HU.out u (List.mem_of_mem_take hu)) (by omega))
    have HCB := hid (fun w' (k : Rw w' (fun _ => True) (.slice (some ⟨g, 3 * 2, none⟩) (n - 3) (c - 3)) (n - 3) (xs.drop (3 * 2))) => cloneP'_any _ g (3 * 2) (n - 3) (c - 3) _ w' k hlb (fun u hu => HU.out u (List.mem_of_mem_drop hu)) (by omega))
    simp only [Nat.reduceMul] at HCA HCB RA RB
    have hc3 : ¬ c = 3 := by omega
    have h3n : (3 : Int) ≤ (n : Int) := by omega
    have h3c : (3 : Int) ≤ (c : Int) := by omega
    clear hgb hcl hg hcs htk hla hlb
    go_wp2_with fail
    go_region_held3 (fun v => Below w1.heap.size w1 v)
      (first | assumption | exact below_drew _ | exact Below.then' (by assumption) hbC (Nat.le_refl _))
      (first
        | (go_at_call_of 141 (Value.slice (some ⟨g, 0, none⟩) 3 c); refine (HCA.out _ (RA.out.below (by assumption))).mono ?_; rintro e wa ⟨a5, c5, rfl, hO5, hbC⟩; have hsz5 := Below.size (by assumption : Below w1.heap.size w1 _))
        | (go_at_call 141; refine (HCB.out _ (RB.out.below (by assumption))).mono ?_; rintro e wb ⟨a6, c6, rfl, hO6, hbC⟩))
    rename_i hS
    have hsz5' : w.heap.size ≤ w1.heap.size := HB1.out.size
    have hown : ∀ x, (Value.slice a5 3 c5).ownBlock = some x → (Value.slice a6 (n - 3) c6).ownBlock ≠ some x := fun x e1 e2 => by
      have k1 := (World.ownsRow.lt hO5 x e1).2
      have k2 := (World.ownsRow.lt hO6 x e2).1
      omega
    have hct : cutN n = 3 := by simp [cutN, h4]
    have HK : Hid (SharePost 35 2 n xs w (.returned (.tuple #[.slice a5 3 c5, .slice a6 (n - 3) c6])) wb) := by
      refine ⟨a5, 3, c5, a6, n - 3, c6, rfl, hct.symm, by rw [hct], ?_, ?_, hown, Below.then' HB1.out hS (Nat.le_refl _)⟩
      · exact own_mono (own_kept hO5 (only_of_below hbC (fun _ => False)) (fun _ _ h => h)) (Nat.le_trans hsz5' hsz5)
      · exact own_mono hO6 (Nat.le_trans hsz5' (Nat.le_trans hsz5 (Below.size (by assumption : Below _ _ wa))))
    clear hS hO5 hO6 hbC hown hsz5 hsz5' RA RB HCA HCB
    generalize hn3 : n - 3 = n3 at *
    clear hn3
    go_wp2
    go_ret2
    rw [HE.out.1, HE.out.2]
    exact HK.out
end Go.Proofs.Ytkflneeifllpgaa
/-
  slices.Clone, share (limbs).
-/
namespace Go.Proofs.Ytkflneeifllpgaa
open Go.RowKit

set_option maxHeartbeats 2000000 in
set_option maxRecDepth 100000 in
theorem cloneL'_any (S : Nat → Prop) (b off n c : Nat) (xs : List Value) (w : World) (h : Rw w S (.slice (some ⟨b, off, none⟩) n c) n xs) (hl : xs.length = n * 1) (h1 : ∀ u ∈ xs, u.oneCell' = true) (hn : n ≤ 1048576) :
    Calls Try.prog 159 #[.slice (some ⟨b, off, none⟩) n c] w fun e w' => NewPost 66 1 n xs w e w' := by
  obtain ⟨ti, hti, htz, hts, htb⟩ := info_of infoLimbP
  have H0 := hid h
  have HX := hid (And.intro hl h1)
  clear h hl h1
  have he : ∀ w : World, (binOp .eql 110 (.slice (some ⟨b, off, none⟩) n c) (.slice none 0 0)).run Try.prog w = .ok (.bool false) w := fun _ => rfl
  have HB := hid (below_new (o := .cells #[] 66) (w := w) (Below.refl _ _))
  have HO : Hid ((w.alloc (.cells #[] 66)).ownsRow w.heap.size 66 1 (.slice (some ⟨w.heap.size, 0, none⟩) 0 0) 0 []) := ⟨rfl, .inr ⟨w.heap.size, 0, #[], rfl, Nat.le_refl _, heap_alloc_new w _, Nat.le_refl _, Nat.zero_le _, rfl, rfl⟩⟩
  go_enter Try.func159, Try.ntmps159
  go_wp2_with (at_builtin; refine wpList_append_row_at rfl _ _ 110 rfl w.heap.size 66 ti _ 1 8 Try.underlying110 hti htz hts htb rfl (by decide) _ 0 [] rfl HO.out S _ n xs rfl (H0.out.below HB.out) HX.out.1 HX.out.2 (by unfold maxLen; omega) (by omega) (by simp) ?_)
  intro v' w' k1 k2 k3
  try rw [Nat.zero_add] at k1
  obtain ⟨a', c', rfl⟩ := own_shape k1
  have HK : Hid (NewPost 66 1 n xs w (.returned (.slice a' n c')) w') := ⟨a', c', rfl, k1, HB.out.trans ((Below.refl _ _).grown k2 (by simp) fun k hk => (World.ownsRow.lt HO.out k hk).1)⟩
  clear k1 k2 k3
  go_wp2
  go_ret
  exact HK.out
set_option maxHeartbeats 4000000 in
set_option maxRecDepth 20000 in
theorem shareL_any (S1 S2 : Nat → Prop) (a1 a2 : Option Addr) (n1 n2 c1 c2 : Nat) (xs1 xs2 : List Value) (w : World) (h1 : Rw w S1 (.slice a1 n1 c1) n1 xs1) (h2 : Rw w S2 (.slice a2 n2 c2) n2 xs2)
    (hb : n1 + n2 ≤ 1048576) (hl1 : xs1.length = n1 * 1) (hl2 : xs2.length = n2 * 1) (ho1 : ∀ u ∈ xs1, u.oneCell' = true) (ho2 : ∀ u ∈ xs2, u.oneCell' = true) :
    Calls Try.prog 147 #[.slice a1 n1 c1, .slice a2 n2 c2, .int .i64 4] w fun e w' => SharePost 66 1 (n1 + n2) (xs1 ++ xs2) w e w' := by
  have hb0 := below_new (o := .cells #[.slice a1 n1 c1, .slice a2 n2 c2] 110) (w := w) (Below.refl _ _)
  have HB0 := hid hb0
  have HC := hid (fun w' (k1 : Rw w' S1 (.slice a1 n1 c1) n1 xs1) (k2 : Rw w' S2 (.slice a2 n2 c2) n2 xs2) cb hc => concatL_any S1 S2 a1 a2 n1 n2 c1 c2 cb xs1 xs2 w' k1 k2 hc (by omega) (by omega) hl1 hl2 ho1 ho2)
  have H1 := hid (h1.below hb0)
  have H2 := hid (h2.below hb0)
  have KC0 := hid (Bk.new w 110 [.slice a1 n1 c1, .slice a2 n2 c2])
  have HL : Hid ((xs1 ++ xs2).length = (n1 + n2) * 1) := by show _ = _; rw [List.length_append, hl1, hl2]; omega
  have HU : Hid (∀ u ∈ xs1 ++ xs2, u.oneCell' = true) := fun u hu => by
    rcases List.mem_append.1 hu with h | h
    · exact ho1 u h
    · exact ho2 u h
  have hnn : n1 + n2 ≤ 1048576 := hb
  clear h1 h2 hl1 hl2 ho1 ho2 hb0 hb
  go_enter Try.func147, Try.ntmps147
  go_wp2_with fail
  refine (HC.out _ H1.out H2.out _ KC0.out).mono ?_
  generalize w.alloc (.cells #[.slice a1 n1 c1, .slice a2 n2 c2] 110) = U at *
  rintro e w1 ⟨a, c, rfl, hO, hb⟩
  have HB1 := hid (Below.then' HB0.out hb (Nat.le_refl _))
  have HO1 := hid (own_mono hO HB0.out.size)
  clear hb hO HC H1 H2 KC0 HB0
  generalize hxs : xs1 ++ xs2 = xs at *
  generalize hn : n1 + n2 = n at *
  have HE := hid (And.intro hxs hn)
  clear hxs hn
  by_cases h4 : n ≤ 4
  · have h4' : (n : Int) ≤ 4 := by omega
    go_wp2
    go_ret2
    have hct : cutN n = n := by simp [cutN, h4]
    rw [HE.out.1, HE.out.2]
    refine ⟨a, n, c, none, 0, 0, rfl, hct.symm, by rw [hct]; omega, ?_, ?_, fun x _ h => by (cases h), HB1.out⟩
    · rw [List.take_of_length_le (by rw [HL.out]; exact Nat.le_refl _)]
      exact HO1.out
    · rw [List.drop_eq_nil_of_le (by rw [HL.out]; exact Nat.le_refl _)]
      exact World.ownsRow_nil _ _ _ _
  · have h4' : ¬ (n : Int) ≤ 4 := by omega
    obtain ⟨g, c', cur, e, hbg, hg, hnc, hcm, hcs, htk⟩ : ∃ g cap cur, Value.slice a n c = .slice (some ⟨g, 0, none⟩) n cap ∧ w.heap.size ≤ g ∧ w1.heap[g]? = some (.cells cur 66 (0, 0)) ∧ n ≤ cap ∧ cap ≤ maxLen ∧ cur.size = cap * 1 ∧ cur.toList.take (n * 1) = xs := by
      rcases HO1.out.2 with ⟨_, h0⟩ | h
      · omega
      · exact h
    cases e
    unfold maxLen at hcm
    have hgb : Bk w1 g 66 cur.toList := by show _ = _; simpa using hg
    have hcl : cur.toList.length = c * 1 := by simpa using hcs
    have RA : Hid (Rw w1 (fun _ => True) (.slice (some ⟨g, 0, none⟩) 3 c) 3 (xs.take (3 * 1))) := by
      refine ⟨_, c, rfl, by omega, by omega, fun h => by omega, fun h => by (cases h), fun _ => ⟨g, 0, rfl, hgb.lt, trivial, fun j u hu => ?_⟩⟩
      rw [Nat.zero_add]
      refine bk_take hgb (m := 3 * 1) ?_
      rw [← htk, List.take_take, Nat.min_eq_left (by omega)] at hu
      exact hu
    have RB : Hid (Rw w1 (fun _ => True) (.slice (some ⟨g, 3 * 1, none⟩) (n - 3) (c - 3)) (n - 3) (xs.drop (3 * 1))) := by
      refine ⟨_, c - 3, rfl, by omega, by omega, fun h => by omega, fun h => by (cases h), fun _ => ⟨g, 3 * 1, rfl, hgb.lt, trivial, fun j u hu => ?_⟩⟩
      rw [List.getElem?_drop] at hu
      rw [← htk] at hu
      exact bk_take hgb hu
    have hla : (xs.take (3 * 1)).length = 3 * 1 := by rw [List.length_take, HL.out]; omega
    have hlb : (xs.drop (3 * 1)).length = (n - 3) * 1 := by rw [List.length_drop, HL.out]; omega
    have HCA := hid (fun w' (k : Rw w' (fun _ => True) (.slice (some ⟨g, 0, none⟩) 3 c) 3 (xs.take (3 * 1))) => cloneL'_any _ g 0 3 c _ w' k hla (fun u hu => HU.out u (List.mem_of_mem_take hu)) (by omega))
    have HCB := hid (fun w' (k : Rw w' (fun _ => True) (.slice (some ⟨g, 3 * 1, none⟩) (n - 3) (c - 3)) (n - 3) (xs.drop (3 * 1))) => cloneL'_any _ g (3 * 1) (n - 3) (c - 3) _ w' k hlb (fun u hu => HU.out u (List.mem_of_mem_drop hu)) (by omega))
    simp only [Nat.reduceMul] at HCA HCB RA RB
    have hc3 : ¬ c = 3 := by omega
    have h3n : (3 : Int) ≤ (n : Int) := by omega
    have h3c : (3 : Int) ≤ (c : Int) := by omega
    clear hgb hcl hg hcs htk hla hlb
    go_wp2_with fail
    go_region_held3 (fun v => Below w1.heap.size w1 v)
      (first | assumption | exact below_drew _ | exact Below.then' (by assumption) hbC (Nat.le_refl _))
      (first
        | (go_at_call_of 159 (Value.slice (some ⟨g, 0, none⟩) 3 c); refine (HCA.out _ (RA.out.below (by assumption))).mono ?_; rintro e wa ⟨a5, c5, rfl, hO5, hbC⟩; have hsz5 := Below.size (by assumption : Below w1.heap.size w1 _))
        | (go_at_call 159; refine (HCB.out _ (RB.out.below (by assumption))).mono ?_; rintro e wb ⟨a6, c6, rfl, hO6, hbC⟩))
    rename_i hS
    have hsz5' : w.heap.size ≤ w1.heap.size := HB1.out.size
    have hown : ∀ x, (Value.slice a5 3 c5).ownBlock = some x → (Value.slice a6 (n - 3) c6).ownBlock ≠ some x := fun x e1 e2 => by
      have k1 := (World.ownsRow.lt hO5 x e1).2
      have k2 := (World.ownsRow.lt hO6 x e2).1
      omega
    have hct : cutN n = 3 := by simp [cutN, h4]
    have HK : Hid (SharePost 66 1 n xs w (.returned (.tuple #[.slice a5 3 c5, .slice a6 (n - 3) c6])) wb) := by
      refine ⟨a5, 3, c5, a6, n - 3, c6, rfl, hct.symm, by rw [hct], ?_, ?_, hown, Below.then' HB1.out hS (Nat.le_refl _)⟩
      · exact own_mono (own_kept hO5 (only_of_below hbC (fun _ => False)) (fun _ _ h => h)) (Nat.le_trans hsz5' hsz5)
      · exact own_mono hO6 (Nat.le_trans hsz5' (Nat.le_trans hsz5 (Below.size (by assumption : Below _ _ wa))))
    clear hS hO5 hO6 hbC hown hsz5 hsz5' RA RB HCA HCB
    generalize hn3 : n - 3 = n3 at *
    clear hn3
    go_wp2
    go_ret2
    rw [HE.out.1, HE.out.2]
    exact HK.out
end Go.Proofs.Ytkflneeifllpgaa
/-
  Looking a key up: in a list of pairs that ascend, in a tree. Nothing here speaks of the program.
-/
namespace Go.Proofs.Ytkflneeifllpgaa
open Go.RowKit
def klt (a b : ByteArray) : Bool := Op.bytesLess a.toList b.toList
theorem klt_irrefl (a : ByteArray) : klt a a = false := less_irrefl _
theorem klt_trans {a b c : ByteArray} (h : klt a b = true) (k : klt b c = true) : klt a c = true := less_trans _ _ _ h k
theorem klt_ne {a b : ByteArray} (h : klt a b = true) : a ≠ b := by
  rintro rfl
  rw [klt_irrefl] at h
  cases h
theorem klt_asymm {a b : ByteArray} (h : klt a b = true) : klt b a = false := less_asymm _ _ h
def Asc (l : List PB) : Prop := l.Pairwise fun p q => klt p.1 q.1 = true
theorem pOkF_adj (l : List PB) : ∀ (f k : Nat), pOkF l f k = true → ∀ i, k ≤ i → i < k + f → i ≠ 0 → klt (pAtB l (i - 1)).1 (pAtB l i).1 = true
  | 0, k, _, i, h1, h2, _ => by omega
  | f + 1, k, h, i, h1, h2, h3 => by
    simp only [pOkF, Bool.and_eq_true] at h
    by_cases e : i = k
    · subst e
      have := h.1.2
      simp [h3] at this
      exact this
    · exact pOkF_adj l f (k + 1) h.2 i (by omega) (by omega) h3
theorem pAtB_lt {l : List PB} {i : Nat} (h : i < l.length) : pAtB l i = l[i] := by simp [pAtB, h]
theorem pOk_asc {l : List PB} (h : pOk l = true) : Asc l := by
  simp only [pOk, Bool.and_eq_true] at h
  have adj : ∀ i, i + 1 < l.length → klt (pAtB l i).1 (pAtB l (i + 1)).1 = true := fun i hi => pOkF_adj l _ 0 h.2 (i + 1) (by omega) (by omega) (by omega)
  have far : ∀ d i, i + d + 1 < l.length → klt (pAtB l i).1 (pAtB l (i + d + 1)).1 = true := by
    intro d
    induction d with
    | zero => exact adj
    | succ d ih => exact fun i hi => klt_trans (ih i (by omega)) (adj _ (by omega))
  refine List.pairwise_iff_getElem.2 fun i j hi hj hij => ?_
  have := far (j - i - 1) i (by omega)
  rw [show i + (j - i - 1) + 1 = j by omega, pAtB_lt hi, pAtB_lt hj] at this
  exact this
theorem Asc.at {l : List PB} (h : Asc l) {i j : Nat} (hij : i < j) (hj : j < l.length) : klt (pAtB l i).1 (pAtB l j).1 = true := by
  have := List.pairwise_iff_getElem.1 h i j (by omega) hj hij
  rw [pAtB_lt (by omega), pAtB_lt hj]
  exact this
/-- The value beside the first pair with the key. -/
def fnd (l : List PB) (k : ByteArray) : Option ByteArray := l.findSome? fun p => if p.1 = k then some p.2 else none
theorem fnd_append (l m : List PB) (k : ByteArray) : fnd (l ++ m) k = (fnd l k).or (fnd m k) := List.findSome?_append
theorem fnd_none {l : List PB} {k : ByteArray} (h : ∀ p ∈ l, p.1 ≠ k) : fnd l k = none := by
  rw [fnd, List.findSome?_eq_none_iff]
  intro p hp
  simp [h p hp]
theorem fnd_at : ∀ (l : List PB) (k : ByteArray) (i : Nat), i < l.length → (pAtB l i).1 = k → (∀ a, a < i → (pAtB l a).1 ≠ k) → fnd l k = some (pAtB l i).2
  | [], _, _, h, _, _ => by simp at h
  | p :: l, k, 0, _, hk, _ => by
    have : p.1 = k := hk
    simp [fnd, this, pAtB]
  | p :: l, k, i + 1, h, hk, hl => by
    have h0 : p.1 ≠ k := hl 0 (by omega)
    have := fnd_at l k i (by simpa using h) hk (fun a ha => hl (a + 1) (by omega))
    rw [fnd, List.findSome?_cons]
    simp only [h0, if_false]
    exact this
theorem allL_append (a b : List T) : allL (a ++ b) = allL a ++ allL b := by
  induction a with
  | nil => rfl
  | cons k a ih => simp only [List.cons_append, allL, ih, List.append_assoc]
theorem tAt_lt {ks : List T} {i : Nat} (h : i < ks.length) : tAt ks i = ks[i] := by simp [tAt, h]
theorem ks_split {ks : List T} {q : Nat} (h : q < ks.length) : ks = ks.take q ++ tAt ks q :: ks.drop (q + 1) := by
  rw [tAt_lt h, List.getElem_cons_drop h, List.take_append_drop]
theorem all_split {ks : List T} {q : Nat} (h : q < ks.length) : allL ks = allL (ks.take q) ++ ((tAt ks q).all ++ allL (ks.drop (q + 1))) := by
  have := congrArg allL (ks_split h)
  rwa [allL_append, allL] at this
theorem full_head (t : T) : ∀ r, t.full r = true → ∃ v rest, t.all = (t.least, v) :: rest := by
  induction t using T.ind
  rename_i ps ks ih
  intro r hf
  cases ks with
  | nil =>
    have := full_lf hf
    cases ps with
    | nil => simp at this
    | cons p ps => exact ⟨p.2, ps, by simp [T.all, allL, T.least]⟩
  | cons k ks =>
    obtain ⟨_, _, rfl, h3⟩ := full_br hf (by simp)
    obtain ⟨v, rest, e⟩ := ih k (by simp) false (h3 k (by simp))
    exact ⟨v, rest ++ allL ks, by simp [T.all, allL, T.least, e]⟩
def kidF (ks : List T) (k : ByteArray) : Nat → Nat → Nat
  | 0, p => p
  | f + 1, p => if p + 1 < ks.length ∧ klt k (tAt ks (p + 1)).least = false then kidF ks k f (p + 1) else p
/-- The place of the kid that a key leads to. -/
def kidOf (ks : List T) (k : ByteArray) : Nat := kidF ks k ks.length 0
theorem kidF_spec (ks : List T) (k : ByteArray) : ∀ f p, p < ks.length → ks.length ≤ p + 1 + f → (p = 0 ∨ klt k (tAt ks p).least = false) →
    kidF ks k f p < ks.length ∧ (kidF ks k f p = 0 ∨ klt k (tAt ks (kidF ks k f p)).least = false) ∧ (kidF ks k f p + 1 < ks.length → klt k (tAt ks (kidF ks k f p + 1)).least = true)
  | 0, p, h1, h2, h3 => ⟨h1, h3, fun h => by simp only [kidF] at h; omega⟩
  | f + 1, p, h1, h2, h3 => by
    rw [kidF]
    by_cases hc : p + 1 < ks.length ∧ klt k (tAt ks (p + 1)).least = false
    · rw [if_pos hc]
      exact kidF_spec ks k f (p + 1) hc.1 (by omega) (.inr hc.2)
    · rw [if_neg hc]
      refine ⟨h1, h3, fun h => ?_⟩
      cases hk : klt k (tAt ks (p + 1)).least with
      | true => rfl
      | false => exact absurd ⟨h, hk⟩ hc
theorem kidOf_spec {ks : List T} (k : ByteArray) (h : ks ≠ []) : kidOf ks k < ks.length ∧ (kidOf ks k = 0 ∨ klt k (tAt ks (kidOf ks k)).least = false) ∧ (kidOf ks k + 1 < ks.length → klt k (tAt ks (kidOf ks k + 1)).least = true) :=
  kidF_spec ks k ks.length 0 (List.length_pos_iff.2 h) (by omega) (.inl rfl)
theorem asc_head {p : PB} {l : List PB} (h : Asc (p :: l)) {x : PB} (hx : x ∈ p :: l) : x = p ∨ klt p.1 x.1 = true := by
  rcases List.mem_cons.1 hx with rfl | hx
  · exact .inl rfl
  · exact .inr ((List.pairwise_cons.1 h).1 x hx)
/-- What lies ahead of the kid is less than the key, what lies behind it greater. -/
theorem kid_apart {ks : List T} {k : ByteArray} (hf : ∀ x ∈ ks, x.full false = true) (ha : Asc (allL ks)) {q : Nat} (h1 : q < ks.length) (h2 : q = 0 ∨ klt k (tAt ks q).least = false) (h3 : q + 1 < ks.length → klt k (tAt ks (q + 1)).least = true) :
    (∀ x ∈ allL (ks.take q), klt x.1 k = true) ∧ (∀ x ∈ allL (ks.drop (q + 1)), klt k x.1 = true) ∧ Asc (tAt ks q).all := by
  rw [all_split h1] at ha
  obtain ⟨_, hb, hab⟩ := List.pairwise_append.1 ha
  obtain ⟨hc, hd, hcd⟩ := List.pairwise_append.1 hb
  refine ⟨fun x hx => ?_, fun x hx => ?_, hc⟩
  · rcases h2 with rfl | h2
    · simp [allL] at hx
    · obtain ⟨v, rest, e⟩ := full_head _ _ (hf _ (tAt_mem h1))
      have hlt := hab x hx ((tAt ks q).least, v) (by rw [e]; simp)
      exact less_nless _ _ _ hlt h2
  · by_cases hq : q + 1 < ks.length
    · have hs : ks.drop (q + 1) = tAt ks (q + 1) :: ks.drop (q + 1 + 1) := by rw [tAt_lt hq, List.getElem_cons_drop hq]
      rw [hs, allL] at hx hd
      obtain ⟨v, rest, e⟩ := full_head _ _ (hf _ (tAt_mem hq))
      rw [e] at hx hd
      rcases asc_head hd hx with rfl | h
      · exact h3 hq
      · exact klt_trans (h3 hq) h
    · rw [List.drop_eq_nil_of_le (by omega)] at hx
      simp [allL] at hx
theorem kid_fnd {ks : List T} {k : ByteArray} (hk : ks ≠ []) (hf : ∀ x ∈ ks, x.full false = true) (ha : Asc (allL ks)) : fnd (allL ks) k = fnd (tAt ks (kidOf ks k)).all k ∧ Asc (tAt ks (kidOf ks k)).all := by
  obtain ⟨h1, h2, h3⟩ := kidOf_spec k hk
  obtain ⟨a1, a2, a3⟩ := kid_apart hf ha h1 h2 h3
  refine ⟨?_, a3⟩
  rw [all_split h1, fnd_append, fnd_append, fnd_none (l := allL (ks.take _)) (fun p hp => klt_ne (a1 p hp)), fnd_none (l := allL (ks.drop _)) (fun p hp => (klt_ne (a2 p hp)).symm)]
  simp
/-- How many keys are less. -/
def pos : List PB → ByteArray → Nat
  | [], _ => 0
  | p :: l, k => if klt p.1 k = true then pos l k + 1 else 0
theorem pos_le : ∀ (l : List PB) (k : ByteArray), pos l k ≤ l.length
  | [], _ => Nat.le_refl _
  | p :: l, k => by
    rw [pos]
    split
    · have := pos_le l k; simp; omega
    · exact Nat.zero_le _
theorem pos_uniq : ∀ (l : List PB) (k : ByteArray) (i : Nat), i ≤ l.length → (∀ a, a < i → klt (pAtB l a).1 k = true) → (i < l.length → klt (pAtB l i).1 k = false) → i = pos l k
  | [], _, i, h, _, _ => by simp at h; subst h; rfl
  | p :: l, k, 0, _, _, h => by
    have : klt p.1 k = false := h (by simp)
    rw [pos, this]
    rfl
  | p :: l, k, i + 1, h, hl, hr => by
    have h0 : klt p.1 k = true := hl 0 (by omega)
    have := pos_uniq l k i (by simpa using h) (fun a ha => hl (a + 1) (by omega)) (fun hi => hr (by simpa using hi))
    rw [pos, h0, if_pos rfl, ← this]
theorem pos_spec : ∀ (l : List PB) (k : ByteArray), (∀ a, a < pos l k → klt (pAtB l a).1 k = true) ∧ (pos l k < l.length → klt (pAtB l (pos l k)).1 k = false)
  | [], k => ⟨fun a h => absurd h (Nat.not_lt_zero _), fun h => absurd h (Nat.not_lt_zero _)⟩
  | p :: l, k => by
    rw [pos]
    cases hk : klt p.1 k with
    | false => exact ⟨fun a h => by simp at h, fun _ => hk⟩
    | true =>
      obtain ⟨h1, h2⟩ := pos_spec l k
      simp only [if_true]
      refine ⟨fun a h => ?_, fun h => h2 (by simpa using h)⟩
      cases a with
      | zero => exact hk
      | succ a => exact h1 a (by omega)
theorem pos_fnd {l : List PB} (k : ByteArray) (ha : Asc l) : fnd l k = if pos l k < l.length ∧ (pAtB l (pos l k)).1 = k then some (pAtB l (pos l k)).2 else none := by
  obtain ⟨h1, h2⟩ := pos_spec l k
  split
  · rename_i h
    exact fnd_at l k _ h.1 h.2 (fun a hl => klt_ne (h1 a hl))
  · rename_i h
    refine fnd_none fun p hp e => ?_
    obtain ⟨i, hi, rfl⟩ := List.mem_iff_getElem.1 hp
    rw [← pAtB_lt hi] at e
    rcases Nat.lt_trichotomy i (pos l k) with hlt | heq | hgt
    · exact klt_ne (h1 i hlt) e
    · exact h ⟨by omega, by rw [← heq]; exact e⟩
    · have h3 := ha.at hgt hi
      rw [e] at h3
      rw [h2 (by omega)] at h3
      cases h3
end Go.Proofs.Ytkflneeifllpgaa
/-
  together: what two neighbours have between them is shared out anew.
-/
namespace Go.Proofs.Ytkflneeifllpgaa
open Go.RowKit
theorem ptrs_length (A : Nat → Nat) (n : Nat) : (ptrs A n).length = n := by simp [ptrs]
theorem ptrs_one (A : Nat → Nat) (n : Nat) : ∀ u ∈ ptrs A n, u.oneCell' = true := by
  intro u hu
  simp [ptrs] at hu
  obtain ⟨i, _, rfl⟩ := hu
  rfl
/-- Behind the first of the two statements: the pairs are shared out. -/
def TgP (w v : World) (b1 b2 : Nat) (k1 k2 : Value) (n : Nat) (xs : List Value) : Prop := ∃ a m c a' m' c', m = cutN n ∧ m' = n - cutN n ∧ v.ownsRow w.heap.size 35 2 (.slice a m c) m (xs.take (m * 2)) ∧ v.ownsRow w.heap.size 35 2 (.slice a' m' c') m' (xs.drop (m * 2)) ∧
  (∀ x, (Value.slice a m c).ownBlock = some x → (Value.slice a' m' c').ownBlock ≠ some x) ∧ Bk v b1 112 [.slice a m c, k1] ∧ Bk v b2 112 [.slice a' m' c', k2] ∧ Only (fun y => y = b1 ∨ y = b2) w v
/-- Behind both: the kids too. -/
def TgL (w v : World) (b1 b2 : Nat) (n : Nat) (xs : List Value) (k : Nat) (ys : List Value) : Prop := ∃ p1 p2 k1 k2 lo, v.ownsRow w.heap.size 35 2 p1 (cutN n) (xs.take (cutN n * 2)) ∧ v.ownsRow w.heap.size 35 2 p2 (n - cutN n) (xs.drop (cutN n * 2)) ∧
  v.ownsRow lo 66 1 k1 (cutN k) (ys.take (cutN k * 1)) ∧ v.ownsRow lo 66 1 k2 (k - cutN k) (ys.drop (cutN k * 1)) ∧ w.heap.size ≤ lo ∧
  (∀ x, p1.ownBlock = some x → p2.ownBlock ≠ some x) ∧ (∀ x, k1.ownBlock = some x → k2.ownBlock ≠ some x) ∧ (∀ x, p1.ownBlock = some x ∨ p2.ownBlock = some x → x < lo) ∧
  Bk v b1 112 [p1, k1] ∧ Bk v b2 112 [p2, k2] ∧ Only (fun y => y = b1 ∨ y = b2) w v
theorem own_set {w : World} {base : Nat} {e : TypeId} {size : Nat} {v : Value} {n : Nat} {xs : List Value} (h : w.ownsRow base e size v n xs) {b : Nat} (hb : b < base) (o : Nat) (u : Value) : (w.setCell ⟨b, o, none⟩ u).ownsRow base e size v n xs :=
  own_kept h (only_set (R := fun y => y = b) rfl u) (fun k hk e => by have := (World.ownsRow.lt h k hk).1; omega)
theorem meetP {w w1 : World} {b1 b2 n : Nat} {p1 p2 k1 k2 : Value} {xs : List Value} {a a' : Option Addr} {m c m' c' : Nat} (K1 : Bk w b1 112 [p1, k1]) (K2 : Bk w b2 112 [p2, k2]) (hne : b1 ≠ b2) (hm : m = cutN n) (hm' : m' = n - cutN n)
    (hO1 : w1.ownsRow w.drew.heap.size 35 2 (.slice a m c) m (xs.take (m * 2))) (hO2 : w1.ownsRow w.drew.heap.size 35 2 (.slice a' m' c') m' (xs.drop (m * 2)))
    (hap : ∀ x, (Value.slice a m c).ownBlock = some x → (Value.slice a' m' c').ownBlock ≠ some x) (hb : Below w.drew.heap.size w.drew w1) :
    TgP w ((w1.setCell ⟨b1, 0, none⟩ (.slice a (cutN n) c)).setCell ⟨b2, 0, none⟩ (.slice a' (n - cutN n) c')) b1 b2 k1 k2 n xs := by
  subst hm hm'
  have l1 : b1 < w.heap.size := K1.lt
  have l2 : b2 < w.heap.size := K2.lt
  have B1 := ((K1.below (below_drew _)).below hb)
  have B2 := ((K2.below (below_drew _)).below hb)
  refine ⟨a, _, c, a', _, c', rfl, rfl, own_set (own_set hO1 l1 _ _) l2 _ _, own_set (own_set hO2 l1 _ _) l2 _ _, hap, (B1.set 0 _).setOther hne _ _, (B2.setOther (Ne.symm hne) _ _).set 0 _, ?_⟩
  exact ((only_of_below (Below.then' (below_drew w) hb (Nat.le_refl _)) _).trans (only_set (R := fun y => y = b1 ∨ y = b2) (.inl rfl) _)).trans (only_set (R := fun y => y = b1 ∨ y = b2) (.inr rfl) _)
theorem meetL {w wc w1 : World} {b1 b2 n k : Nat} {q1 q2 : Value} {xs ys : List Value} {a a' a3 a4 : Option Addr} {m c m' c' m3 c3 m4 c4 : Nat} (h1 : b1 < w.heap.size) (h2 : b2 < w.heap.size) (L1 : Bk wc b1 112 [.slice a m c, q1]) (L2 : Bk wc b2 112 [.slice a' m' c', q2]) (hne : b1 ≠ b2)
    (HP : m = cutN n ∧ m' = n - cutN n ∧ wc.ownsRow w.heap.size 35 2 (.slice a m c) m (xs.take (m * 2)) ∧ wc.ownsRow w.heap.size 35 2 (.slice a' m' c') m' (xs.drop (m * 2)) ∧ ∀ x, (Value.slice a m c).ownBlock = some x → (Value.slice a' m' c').ownBlock ≠ some x)
    (hon : Only (fun y => y = b1 ∨ y = b2) w wc) (hm3 : m3 = cutN k) (hm4 : m4 = k - cutN k)
    (hO3 : w1.ownsRow wc.drew.heap.size 66 1 (.slice a3 m3 c3) m3 (ys.take (m3 * 1))) (hO4 : w1.ownsRow wc.drew.heap.size 66 1 (.slice a4 m4 c4) m4 (ys.drop (m3 * 1)))
    (hap : ∀ x, (Value.slice a3 m3 c3).ownBlock = some x → (Value.slice a4 m4 c4).ownBlock ≠ some x) (hb : Below wc.drew.heap.size wc.drew w1) :
    TgL w ((w1.setCell ⟨b1, 1, none⟩ (.slice a3 (cutN k) c3)).setCell ⟨b2, 1, none⟩ (.slice a4 (k - cutN k) c4)) b1 b2 n xs k ys := by
  obtain ⟨rfl, rfl, hO1, hO2, hap1⟩ := HP
  subst hm3 hm4
  have hw : w.heap.size ≤ wc.heap.size := hon.size
  have hbw : Below wc.heap.size wc w1 := Below.then' (below_drew wc) hb (Nat.le_refl _)
  have B1 := L1.below hbw
  have B2 := L2.below hbw
  have O1 := own_kept hO1 (only_of_below hbw (fun _ => False)) (fun _ _ h => h)
  have O2 := own_kept hO2 (only_of_below hbw (fun _ => False)) (fun _ _ h => h)
  refine ⟨_, _, _, _, wc.heap.size, own_set (own_set O1 h1 _ _) h2 _ _, own_set (own_set O2 h1 _ _) h2 _ _, own_set (own_set hO3 (b := b1) (show b1 < wc.heap.size by omega) _ _) (show b2 < wc.heap.size by omega) _ _, own_set (own_set hO4 (b := b1) (show b1 < wc.heap.size by omega) _ _) (show b2 < wc.heap.size by omega) _ _, hw, hap1, hap, ?_, (B1.set 1 _).setOther hne _ _, (B2.setOther (Ne.symm hne) _ _).set 1 _, ?_⟩
  · rintro x (h | h)
    · exact (World.ownsRow.lt hO1 x h).2
    · exact (World.ownsRow.lt hO2 x h).2
  · exact ((hon.trans (only_of_below hbw _)).trans (only_set (R := fun y => y = b1 ∨ y = b2) (.inl rfl) _)).trans (only_set (R := fun y => y = b1 ∨ y = b2) (.inr rfl) _)
set_option maxHeartbeats 4000000 in
set_option maxRecDepth 20000 in
theorem together_raw (b1 b2 : Nat) (ap1 ak1 ap2 ak2 : Option Addr) (np1 cp1 nk1 ck1 np2 cp2 nk2 ck2 : Nat) (xs1 xs2 ys1 ys2 : List Value) (w : World) (hne : b1 ≠ b2)
    (hB1 : Bk w b1 112 [.slice ap1 np1 cp1, .slice ak1 nk1 ck1]) (hB2 : Bk w b2 112 [.slice ap2 np2 cp2, .slice ak2 nk2 ck2])
    (hP1 : Rw w (fun x => x ≠ b1 ∧ x ≠ b2) (.slice ap1 np1 cp1) np1 xs1) (hP2 : Rw w (fun x => x ≠ b1 ∧ x ≠ b2) (.slice ap2 np2 cp2) np2 xs2) (hK1 : Rw w (fun x => x ≠ b1 ∧ x ≠ b2) (.slice ak1 nk1 ck1) nk1 ys1) (hK2 : Rw w (fun x => x ≠ b1 ∧ x ≠ b2) (.slice ak2 nk2 ck2) nk2 ys2)
    (hl1 : xs1.length = np1 * 2) (hl2 : xs2.length = np2 * 2) (hm1 : ys1.length = nk1 * 1) (hm2 : ys2.length = nk2 * 1) (ho1 : ∀ u ∈ xs1, u.oneCell' = true) (ho2 : ∀ u ∈ xs2, u.oneCell' = true) (hq1 : ∀ u ∈ ys1, u.oneCell' = true) (hq2 : ∀ u ∈ ys2, u.oneCell' = true)
    (hnp : np1 + np2 ≤ 1048576) (hnk : nk1 + nk2 ≤ 1048576) :
    Calls Try.prog 120 #[.pointer (some ⟨b1, 0, none⟩), .pointer (some ⟨b2, 0, none⟩)] w fun e w' => e = .returned (.tuple #[]) ∧ TgL w w' b1 b2 (np1 + np2) (xs1 ++ xs2) (nk1 + nk2) (ys1 ++ ys2) := by
  have HS := hid (fun w' k1 k2 => shareP_any (fun x => x ≠ b1 ∧ x ≠ b2) (fun x => x ≠ b1 ∧ x ≠ b2) ap1 ap2 np1 np2 cp1 cp2 xs1 xs2 w' k1 k2 hnp hl1 hl2 ho1 ho2)
  have HT := hid (fun w' k1 k2 => shareL_any (fun x => x ≠ b1 ∧ x ≠ b2) (fun x => x ≠ b1 ∧ x ≠ b2) ak1 ak2 nk1 nk2 ck1 ck2 ys1 ys2 w' k1 k2 hnk hm1 hm2 hq1 hq2)
  have K1 := hid hB1
  have K2 := hid hB2
  have P1 := hid hP1
  have P2 := hid hP2
  have c0 := hB1.cell (j := 0) rfl
  have d0 := hB2.cell (j := 0) rfl
  have f0 := hB1.free 0
  have g0 := hB2.free 0
  have hne' : ¬ b1 = b2 := hne
  have hne'' : ¬ b2 = b1 := fun h => hne h.symm
  have HLT := hid (And.intro hB1.lt hB2.lt)
  have Q1 := hid hK1
  have Q2 := hid hK2
  clear hP1 hP2 hB1 hB2 hK1 hK2 hl1 hl2 hm1 hm2 ho1 ho2 hq1 hq2
  go_enter Try.func120, Try.ntmps120
  go_wp2_with fail
  go_cut [4] (fun q v => q = q ∧ TgP w v b1 b2 (.slice ak1 nk1 ck1) (.slice ak2 nk2 ck2) (np1 + np2) (xs1 ++ xs2))
  case first =>
    go_region_with (go_at_call 146; refine (HS.out _ (P1.out.below (below_drew _)) (P2.out.below (below_drew _))).mono ?_; rintro e w1 ⟨a, m, c, a', m', c', rfl, hm, hm', hO1, hO2, hap, hb⟩; have e0 := ((K1.out.below (below_drew _)).below hb).cell (j := 0) rfl; have e1 := ((K1.out.below (below_drew _)).below hb).free 0; have e2 := ((K2.out.below (below_drew _)).below hb).cell (j := 0) rfl; have e3 := ((K2.out.below (below_drew _)).below hb).free 0)
    all_goals (go_wp2_with fail; go_meet)
    all_goals exact ⟨trivial, meetP K1.out K2.out hne hm hm' hO1 hO2 hap hb⟩
  case rest =>
    obtain ⟨_, a, m, c, a', m', c', hm, hm', hO1, hO2, hap, hk1, hk2, hon⟩ := hcut
    have HP := hid (And.intro hm (And.intro hm' (And.intro hO1 (And.intro hO2 hap))))
    have HON := hid hon
    have L1 := hid hk1
    have L2 := hid hk2
    have R1 := hid (Q1.out.to hon (fun b hb _ hr => Or.elim hr hb.1 hb.2))
    have R2 := hid (Q2.out.to hon (fun b hb _ hr => Or.elim hr hb.1 hb.2))
    have x0 := hk1.cell (j := 1) rfl
    have y0 := hk2.cell (j := 1) rfl
    clear hm hm' hO1 hO2 hap hk1 hk2 hon c0 d0 f0 g0 K1 K2 P1 P2 Q1 Q2 HS
    go_wp2_with fail
    go_region_with (go_at_call 147; refine (HT.out _ (R1.out.below (below_drew _)) (R2.out.below (below_drew _))).mono ?_; rintro e w1 ⟨a3, m3, c3, a4, m4, c4, rfl, hm3, hm4, hO3, hO4, hap4, hb⟩; have e0 := ((L1.out.below (below_drew _)).below hb).cell (j := 1) rfl; have e1 := ((L1.out.below (below_drew _)).below hb).free 1; have e2 := ((L2.out.below (below_drew _)).below hb).cell (j := 1) rfl; have e3 := ((L2.out.below (below_drew _)).below hb).free 1)
    all_goals (go_wp2_with fail)
    all_goals go_end0
    all_goals exact ⟨rfl, meetL HLT.out.1 HLT.out.2 L1.out L2.out hne HP.out HON.out hm3 hm4 hO3 hO4 hap4 hb⟩
end Go.Proofs.Ytkflneeifllpgaa
/-
  together, of limbs.
-/
namespace Go.Proofs.Ytkflneeifllpgaa
open Go.RowKit
/-- Two neighbours' pairs and kids, shared out anew. -/
def shT (a b : T) : T × T := (.mk ((a.ps ++ b.ps).take (cutN (a.ps ++ b.ps).length)) ((a.ks ++ b.ks).take (cutN (a.ks ++ b.ks).length)), .mk ((a.ps ++ b.ps).drop (cutN (a.ps ++ b.ps).length)) ((a.ks ++ b.ks).drop (cutN (a.ks ++ b.ks).length)))
/-- Two limbs apart from each other, made of the blocks of S and of new ones. -/
def TwoL (w w' : World) (b1 b2 : Nat) (t1 t2 : T) (S : Nat → Prop) : Prop := ∃ S1 S2 : Nat → Prop, Limb w' S1 b1 t1 ∧ Limb w' S2 b2 t2 ∧ (∀ x, S1 x → ¬ S2 x) ∧ (∀ x, S1 x ∨ S2 x → (S x ∨ w.heap.size ≤ x) ∧ x < w'.heap.size) ∧ Only S w w'
theorem pcs_take (l : List PB) : ∀ m, (pcs l).take (m * 2) = pcs (l.take m) := by
  induction l with
  | nil => intro m; simp [pcs]
  | cons p l ih =>
    intro m
    cases m with
    | zero => simp [pcs]
    | succ m => rw [show (m + 1) * 2 = m * 2 + 1 + 1 by omega, pcs, List.take_succ_cons, List.take_succ_cons, ih, List.take_succ_cons, pcs]
theorem pcs_drop (l : List PB) : ∀ m, (pcs l).drop (m * 2) = pcs (l.drop m) := by
  induction l with
  | nil => intro m; simp [pcs]
  | cons p l ih =>
    intro m
    cases m with
    | zero => simp
    | succ m => rw [show (m + 1) * 2 = m * 2 + 1 + 1 by omega, pcs, List.drop_succ_cons, List.drop_succ_cons, ih, List.drop_succ_cons]
theorem ptrs_take (A : Nat → Nat) (n m : Nat) (h : m ≤ n) : (ptrs A n).take m = ptrs A m := by
  apply List.ext_getElem
  · simp [ptrs]; omega
  · intro i h1 h2; simp [ptrs]
theorem ptrs_drop (A : Nat → Nat) (n m : Nat) : (ptrs A n).drop m = ptrs (fun i => A (m + i)) (n - m) := by
  apply List.ext_getElem
  · simp [ptrs]
  · intro i h1 h2; simp [ptrs]
theorem ptrs_app (A1 A2 : Nat → Nat) (n1 n2 : Nat) : ptrs A1 n1 ++ ptrs A2 n2 = ptrs (fun i => if i < n1 then A1 i else A2 (i - n1)) (n1 + n2) := by
  apply List.ext_getElem
  · simp [ptrs]
  · intro i h1 h2
    by_cases hi : i < n1
    · rw [List.getElem_append_left (by simpa [ptrs] using hi)]; simp [ptrs, hi]
    · rw [List.getElem_append_right (by simpa [ptrs] using hi)]; simp [ptrs, hi]
theorem cutN_le (n : Nat) : cutN n ≤ n := by unfold cutN; split <;> omega
theorem tAt_take {ks : List T} {m i : Nat} (h : i < m) : tAt (ks.take m) i = tAt ks i := by simp [tAt, h]
theorem tAt_drop {ks : List T} {m i : Nat} : tAt (ks.drop m) i = tAt ks (m + i) := by simp [tAt]
theorem tAt_app1 {ks ls : List T} {i : Nat} (h : i < ks.length) : tAt (ks ++ ls) i = tAt ks i := by simp [tAt, List.getElem?_append_left h]
theorem tAt_app2 {ks ls : List T} {i : Nat} (h : ks.length ≤ i) : tAt (ks ++ ls) i = tAt ls (i - ks.length) := by simp [tAt, List.getElem?_append_right h]
set_option maxHeartbeats 2000000 in
theorem together_any (S1 S2 : Nat → Prop) (b1 b2 : Nat) (t1 t2 : T) (w : World) (h1 : Limb w S1 b1 t1) (h2 : Limb w S2 b2 t2) (hd : ∀ x, S1 x → ¬ S2 x) (hS1 : ∀ x, S1 x → x < w.heap.size) (hS2 : ∀ x, S2 x → x < w.heap.size)
    (hnp : (t1.ps ++ t2.ps).length ≤ 1048576) (hnk : (t1.ks ++ t2.ks).length ≤ 1048576) :
    Calls Try.prog 120 #[.pointer (some ⟨b1, 0, none⟩), .pointer (some ⟨b2, 0, none⟩)] w fun e w' => e = .returned (.tuple #[]) ∧ TwoL w w' b1 b2 (shT t1 t2).1 (shT t1 t2).2 (fun x => S1 x ∨ S2 x) := by
  cases h1 with
  | mk _ _ pv1 kv1 ps1 ks1 A1 SS1 hb1 hB1 hP1 hK1 hPS1 hKS1 hSS1 hD1 hk1 =>
  cases h2 with
  | mk _ _ pv2 kv2 ps2 ks2 A2 SS2 hb2 hB2 hP2 hK2 hPS2 hKS2 hSS2 hD2 hk2 =>
  have hne : b1 ≠ b2 := fun e => hd b1 hb1 (e ▸ hb2)
  obtain ⟨ap1, cp1, rfl⟩ := own_shape hP1
  obtain ⟨ap2, cp2, rfl⟩ := own_shape hP2
  obtain ⟨ak1, ck1, rfl⟩ := own_shape hK1
  obtain ⟨ak2, ck2, rfl⟩ := own_shape hK2
  simp only [T.ps, T.ks, List.length_append] at hnp hnk
  have n1 : ∀ x, S1 x → x ≠ b2 := fun x hx e => hd x hx (e ▸ hb2)
  have n2 : ∀ x, S2 x → x ≠ b1 := fun x hx e => hd b1 hb1 (e ▸ hx)
  refine (together_raw b1 b2 ap1 ak1 ap2 ak2 _ cp1 _ ck1 _ cp2 _ ck2 (pcs ps1) (pcs ps2) (ptrs A1 ks1.length) (ptrs A2 ks2.length) w hne hB1 hB2
    (rw_own hP1 (fun k e _ _ => ⟨(hPS1 k e).2, n1 k (hPS1 k e).1⟩)) (rw_own hP2 (fun k e _ _ => ⟨n2 k (hPS2 k e).1, (hPS2 k e).2⟩))
    (rw_own hK1 (fun k e _ _ => ⟨(hKS1 k e).2.1, n1 k (hKS1 k e).1⟩)) (rw_own hK2 (fun k e _ _ => ⟨n2 k (hKS2 k e).1, (hKS2 k e).2.1⟩))
    (pcs_length _) (pcs_length _) (by rw [ptrs_length]; omega) (by rw [ptrs_length]; omega) (pcs_one _) (pcs_one _) (ptrs_one _ _) (ptrs_one _ _) hnp hnk).mono ?_
  rintro e w' ⟨rfl, p1, p2, k1, k2, lo, hp1, hp2, hk1', hk2', hlo, hpp, hkk, hpl, hB1', hB2', hon⟩
  refine ⟨rfl, ?_⟩
  rw [← pcs_append] at hp1 hp2
  rw [ptrs_app] at hk1' hk2'
  rw [Nat.mul_one] at hk1' hk2'
  rw [pcs_take] at hp1
  rw [pcs_drop] at hp2
  have hlp : (ps1 ++ ps2).length = ps1.length + ps2.length := List.length_append
  have hlk : (ks1 ++ ks2).length = ks1.length + ks2.length := List.length_append
  have hcp := cutN_le (ps1.length + ps2.length)
  have hck := cutN_le (ks1.length + ks2.length)
  generalize hA : (fun i => if i < ks1.length then A1 i else A2 (i - ks1.length)) = A at hk1' hk2'
  rw [ptrs_take _ _ _ hck] at hk1'
  rw [ptrs_drop] at hk2'
  obtain ⟨SS, hSS⟩ : ∃ SS : Nat → Nat → Prop, SS = fun i => if i < ks1.length then SS1 i else SS2 (i - ks1.length) := ⟨_, rfl⟩
  have sL : ∀ i, i < ks1.length → SS i = SS1 i ∧ A i = A1 i := fun i hi => by rw [hSS, ← hA]; simp [hi]
  have sR : ∀ i, ¬ i < ks1.length → SS i = SS2 (i - ks1.length) ∧ A i = A2 (i - ks1.length) := fun i hi => by rw [hSS, ← hA]; simp [hi]
  clear hSS hA
  have hk : ∀ i, i < ks1.length + ks2.length → Limb w (SS i) (A i) (tAt (ks1 ++ ks2) i) ∧ ∀ x, SS i x → (S1 x ∨ S2 x) ∧ x ≠ b1 ∧ x ≠ b2 := fun i hi => by
    by_cases h : i < ks1.length
    · rw [(sL i h).1, (sL i h).2, tAt_app1 h]
      exact ⟨hk1 i h, fun x hx => ⟨.inl (hSS1 i h x hx).1, (hSS1 i h x hx).2.1, n1 x (hSS1 i h x hx).1⟩⟩
    · rw [(sR i h).1, (sR i h).2, tAt_app2 (by omega)]
      exact ⟨hk2 _ (by omega), fun x hx => ⟨.inr (hSS2 _ (by omega) x hx).1, n2 x (hSS2 _ (by omega) x hx).1, (hSS2 _ (by omega) x hx).2.1⟩⟩
  have hD : ∀ i j, i < ks1.length + ks2.length → j < ks1.length + ks2.length → i ≠ j → ∀ x, SS i x → ¬ SS j x := fun i j hi hj hij x hx hy => by
    by_cases h : i < ks1.length <;> by_cases h' : j < ks1.length
    · rw [(sL i h).1] at hx; rw [(sL j h').1] at hy; exact hD1 i j h h' hij x hx hy
    · rw [(sL i h).1] at hx; rw [(sR j h').1] at hy; exact hd x (hSS1 i h x hx).1 (hSS2 _ (by omega) x hy).1
    · rw [(sR i h).1] at hx; rw [(sL j h').1] at hy; exact hd x (hSS1 j h' x hy).1 (hSS2 _ (by omega) x hx).1
    · rw [(sR i h).1] at hx; rw [(sR j h').1] at hy; exact hD2 _ _ (by omega) (by omega) (by omega) x hx hy
  clear sL sR hk1 hk2 hD1 hD2 hSS1 hSS2
  have hold : ∀ x, S1 x ∨ S2 x → x < w.heap.size := fun x h => h.elim (hS1 x) (hS2 x)
  have hSSlt : ∀ i, i < ks1.length + ks2.length → ∀ x, SS i x → x < w.heap.size := fun i hi x hx => hold x ((hk i hi).2 x hx).1
  have q1 := fun x h => World.ownsRow.lt hp1 x h
  have q2 := fun x h => World.ownsRow.lt hp2 x h
  have q3 := fun x h => World.ownsRow.lt hk1' x h
  have q4 := fun x h => World.ownsRow.lt hk2' x h
  have e1 := hS1 b1 hb1
  have e2 := hS2 b2 hb2
  have hsz := hon.size
  generalize hcN : cutN (ps1.length + ps2.length) = cp at *
  generalize hcK : cutN (ks1.length + ks2.length) = ck at *
  refine ⟨fun x => x = b1 ∨ p1.ownBlock = some x ∨ k1.ownBlock = some x ∨ ∃ i, i < ck ∧ SS i x, fun x => x = b2 ∨ p2.ownBlock = some x ∨ k2.ownBlock = some x ∨ ∃ i, ck ≤ i ∧ i < ks1.length + ks2.length ∧ SS i x, ?_, ?_, ?_, ?_, ?_⟩
  · show Limb w' _ b1 (.mk ((ps1 ++ ps2).take (cutN (ps1 ++ ps2).length)) ((ks1 ++ ks2).take (cutN (ks1 ++ ks2).length)))
    rw [hlp, hlk, hcN, hcK]
    have l1 : ((ps1 ++ ps2).take cp).length = cp := by rw [List.length_take, hlp]; omega
    have l2 : ((ks1 ++ ks2).take ck).length = ck := by rw [List.length_take, hlk]; omega
    refine .mk _ b1 p1 k1 _ _ A SS (.inl rfl) hB1' (by rw [l1]; exact own_mono hp1 (Nat.zero_le _)) (by rw [l2]; exact own_mono hk1' (Nat.zero_le _)) (fun x hx => ⟨.inr (.inl hx), ?_⟩) (fun x hx => ⟨.inr (.inr (.inl hx)), ?_, ?_⟩) (fun i hi x hx => ?_) (fun i j hi hj => ?_) (fun i hi => ?_)
    · have := (q1 x hx).1; omega
    · have := (q3 x hx).1; omega
    · intro h; have := hpl x (.inl h); have := (q3 x hx).1; omega
    · rw [l2] at hi
      have h5 := hSSlt i (by omega) x hx
      refine ⟨.inr (.inr (.inr ⟨i, hi, hx⟩)), ((hk i (by omega)).2 x hx).2.1, fun h => ?_, fun h => ?_⟩
      · have := (q1 x h).1; omega
      · have := (q3 x h).1; omega
    · rw [l2] at hi hj; exact hD i j (by omega) (by omega)
    · rw [l2] at hi
      rw [tAt_take hi]
      exact (hk i (by omega)).1.to hon (fun x hx hr => by have := ((hk i (by omega)).2 x hx).2; rcases hr with h | h; exact this.1 h; exact this.2 h)
  · show Limb w' _ b2 (.mk ((ps1 ++ ps2).drop (cutN (ps1 ++ ps2).length)) ((ks1 ++ ks2).drop (cutN (ks1 ++ ks2).length)))
    rw [hlp, hlk, hcN, hcK]
    have l1 : ((ps1 ++ ps2).drop cp).length = ps1.length + ps2.length - cp := by rw [List.length_drop, hlp]
    have l2 : ((ks1 ++ ks2).drop ck).length = ks1.length + ks2.length - ck := by rw [List.length_drop, hlk]
    refine .mk _ b2 p2 k2 _ _ (fun i => A (ck + i)) (fun i => SS (ck + i)) (.inl rfl) hB2' (by rw [l1]; exact own_mono hp2 (Nat.zero_le _)) (by rw [l2]; exact own_mono hk2' (Nat.zero_le _)) (fun x hx => ⟨.inr (.inl hx), ?_⟩) (fun x hx => ⟨.inr (.inr (.inl hx)), ?_, ?_⟩) (fun i hi x hx => ?_) (fun i j hi hj hij => ?_) (fun i hi => ?_)
    · have := (q2 x hx).1; omega
    · have := (q4 x hx).1; omega
    · intro h; have := hpl x (.inr h); have := (q4 x hx).1; omega
    · rw [l2] at hi
      have h5 := hSSlt (ck + i) (by omega) x hx
      refine ⟨.inr (.inr (.inr ⟨ck + i, by omega, by omega, hx⟩)), ((hk (ck + i) (by omega)).2 x hx).2.2, fun h => ?_, fun h => ?_⟩
      · have := (q2 x h).1; omega
      · have := (q4 x h).1; omega
    · rw [l2] at hi hj; exact hD (ck + i) (ck + j) (by omega) (by omega) (by omega)
    · rw [l2] at hi
      rw [tAt_drop]
      exact (hk (ck + i) (by omega)).1.to hon (fun x hx hr => by have := ((hk (ck + i) (by omega)).2 x hx).2; rcases hr with h | h; exact this.1 h; exact this.2 h)
  · rintro x (h | h | h | ⟨i, hi, h⟩) (h' | h' | h' | ⟨j, hj, hj', h'⟩)
    · exact hne (h ▸ h')
    · have := (q2 x h').1; omega
    · have := (q4 x h').1; omega
    · have := ((hk j hj').2 x h').2.1; exact this h
    · have := (q1 x h).1; omega
    · exact hpp x h h'
    · have := hpl x (.inl h); have := (q4 x h').1; omega
    · have := (q1 x h).1; have := hSSlt j hj' x h'; omega
    · have := (q3 x h).1; omega
    · have := hpl x (.inr h'); have := (q3 x h).1; omega
    · exact hkk x h h'
    · have := (q3 x h).1; have := hSSlt j hj' x h'; omega
    · have := ((hk i (by omega)).2 x h).2.2; exact this h'
    · have := (q2 x h').1; have := hSSlt i (by omega) x h; omega
    · have := (q4 x h').1; have := hSSlt i (by omega) x h; omega
    · exact hD i j (by omega) hj' (by omega) x h h'
  · rintro x ((h | h | h | ⟨i, hi, h⟩) | (h | h | h | ⟨j, hj, hj', h⟩))
    · rw [h]; exact ⟨.inl (.inl hb1), by omega⟩
    · exact ⟨.inr (q1 x h).1, (q1 x h).2⟩
    · exact ⟨.inr (Nat.le_trans hlo (q3 x h).1), (q3 x h).2⟩
    · exact ⟨.inl ((hk i (by omega)).2 x h).1, by have := hSSlt i (by omega) x h; omega⟩
    · rw [h]; exact ⟨.inl (.inr hb2), by omega⟩
    · exact ⟨.inr (q2 x h).1, (q2 x h).2⟩
    · exact ⟨.inr (Nat.le_trans hlo (q4 x h).1), (q4 x h).2⟩
    · exact ⟨.inl ((hk j hj').2 x h).1, by have := hSSlt j hj' x h; omega⟩
  · exact hon.mono (fun x _ h => h.elim (fun e => .inl (e ▸ hb1)) (fun e => .inr (e ▸ hb2)))
end Go.Proofs.Ytkflneeifllpgaa
/-
  strings.Compare, and slices.BinarySearchFunc over pairs that ascend.
-/
namespace Go.Proofs.Ytkflneeifllpgaa
open Go.RowKit
def cmpV (a b : ByteArray) : Int := Lib.compareBytes a.data.toList b.data.toList
theorem cmpL_cases : ∀ (a b : List UInt8), (Op.bytesLess a b = true ∧ Lib.compareBytes a b = -1) ∨ (a = b ∧ Lib.compareBytes a b = 0) ∨ (Op.bytesLess b a = true ∧ Lib.compareBytes a b = 1)
  | [], [] => .inr (.inl ⟨rfl, rfl⟩)
  | [], _ :: _ => .inl ⟨rfl, rfl⟩
  | _ :: _, [] => .inr (.inr ⟨rfl, rfl⟩)
  | x :: a, y :: b => by
    simp only [Op.bytesLess, Lib.compareBytes]
    by_cases h1 : x < y
    · exact .inl ⟨by simp [h1], by simp [h1]⟩
    · by_cases h2 : y < x
      · exact .inr (.inr ⟨by simp [h2], by simp [h1, h2]⟩)
      · have e : x = y := UInt8.le_antisymm (UInt8.not_lt.1 h2) (UInt8.not_lt.1 h1)
        subst e
        simp only [h1, if_false, decide_false, Bool.false_or, beq_self_eq_true, Bool.true_and]
        rcases cmpL_cases a b with h | ⟨rfl, h⟩ | h
        · exact .inl h
        · exact .inr (.inl ⟨rfl, h⟩)
        · exact .inr (.inr h)
theorem cmpV_cases (a b : ByteArray) : (klt a b = true ∧ cmpV a b = -1) ∨ (a = b ∧ cmpV a b = 0) ∨ (klt a b = false ∧ a ≠ b ∧ cmpV a b = 1) := by
  unfold klt cmpV
  rw [ByteArray.toList_eq, ByteArray.toList_eq]
  rcases cmpL_cases a.data.toList b.data.toList with h | ⟨h1, h2⟩ | ⟨h1, h2⟩
  · exact .inl h
  · exact .inr (.inl ⟨str_ext (by rw [ByteArray.toList_eq, ByteArray.toList_eq]; exact h1), h2⟩)
  · refine .inr (.inr ⟨less_asymm _ _ h1, ?_, h2⟩)
    rintro rfl
    rw [less_irrefl] at h1
    cases h1
set_option maxHeartbeats 1000000 in
set_option maxRecDepth 100000 in
theorem compareString_any (a b : ByteArray) (w : World) : Calls Try.prog 148 #[.string a, .string b] w fun e w' => e = .returned (.int .i64 (cmpV a b)) ∧ w' = w := by
  go_enter Try.func148, Try.ntmps148
  go_wp2
  rw [run_callFunc_extern Try.func160 (by kernel_rfl) (by kernel_rfl) (by kernel_rfl) (e := Extern.BytealgCompare.compare) (by kernel_rfl), Lib.run_compareString]
  simp only [Result.andThen]
  rw [Oper.upon_value]
  go_wp2
  go_ret
  exact ⟨rfl, rfl⟩
set_option maxHeartbeats 1000000 in
theorem compare_any (a b : ByteArray) (w : World) : Calls Try.prog 125 #[.string a, .string b] w fun e w' => e = .returned (.int .i64 (cmpV a b)) ∧ w' = w := by
  go_enter Try.func125, Try.ntmps125
  go_wp2_with fail
  refine (compareString_any a b w).mono ?_
  rintro e w1 ⟨rfl, rfl⟩
  generalize hx : cmpV a b = x
  have HX := hid hx
  clear hx
  go_wp2
  go_ret
  exact ⟨by rw [HX.out]; rfl, rfl⟩
set_option maxHeartbeats 1000000 in
theorem pairFor1_any (a b k : ByteArray) (w : World) : Calls Try.prog 124 #[.agg #[.string a, .string b], .string k] w fun e w' => e = .returned (.int .i64 (cmpV a k)) ∧ Below w.heap.size w w' := by
  have HB0 := hid (below_new (o := .cells #[.string a, .string b] 35) (w := w) (Below.refl _ _))
  go_enter Try.func124, Try.ntmps124
  go_wp2_with fail
  refine (compare_any a k _).mono ?_
  rintro e w1 ⟨rfl, rfl⟩
  generalize hx : cmpV a k = x
  have HX := hid hx
  clear hx
  go_wp2
  go_ret
  exact ⟨by rw [HX.out]; rfl, HB0.out⟩
end Go.Proofs.Ytkflneeifllpgaa
/-
  slices.BinarySearchFunc over pairs that ascend; pairFor: the place of a key in a leaf.
-/
namespace Go.Proofs.Ytkflneeifllpgaa
open Go.RowKit
theorem Pr.cells {w : World} {S : Nat → Prop} {b off n c : Nat} {l : List PB} (h : Pr w S (.slice (some ⟨b, off, none⟩) n c) l) {i : Nat} (hi : i < l.length) : w.cell? ⟨b, off + i * 2, none⟩ = some (.string (pAtB l i).1) ∧ w.cell? ⟨b, off + i * 2 + 1, none⟩ = some (.string (pAtB l i).2) := by
  have hn := (Rw.len h).1
  obtain ⟨b', off', e, _, _, hc⟩ := Rw.at h (by omega)
  cases e
  obtain ⟨h1, h2⟩ := pcs_at l i hi
  exact ⟨hc _ _ h1, hc _ _ h2⟩
def there (l : List PB) (k : ByteArray) : Bool := decide (pos l k < l.length ∧ (pAtB l (pos l k)).1 = k)
set_option maxHeartbeats 4000000 in
set_option maxRecDepth 20000 in
theorem bsearch_any (S : Nat → Prop) (a : Option Addr) (n c : Nat) (l : List PB) (k : ByteArray) (w : World) (h : Pr w S (.slice a n c) l) (ha : Asc l) (hs : n ≤ 1048576) :
    Calls Try.prog 123 #[.slice a n c, .string k, .func (.func 124) #[] #[]] w fun e w' =>
      e = .returned (.tuple #[.int .i64 (pos l k : Nat), .bool (there l k)]) ∧ Below w.heap.size w w' := by
  have HN := hid (Rw.len h).1
  have hnc := (Rw.len h).2.1
  have H0 := hid h
  have HA := hid ha
  clear h ha
  go_enter Try.func123, Try.ntmps123
  go_wp2_with fail
  go_loopw [9, 10] (fun x y wr => ∃ lo hi : Nat, x = .int .i64 lo ∧ y = .int .i64 hi ∧ lo ≤ hi ∧ hi ≤ n ∧ Hid (∀ i, i < lo → klt (pAtB l i).1 k = true) ∧ Hid (∀ i, hi ≤ i → i < n → klt (pAtB l i).1 k = false) ∧ Hid (Below w.heap.size w wr)) (fun x y _ => (intOf y).toNat - (intOf x).toNat)
  case atStart => exact ⟨0, n, rfl, rfl, Nat.zero_le _, Nat.le_refl _, fun i h => absurd h (Nat.not_lt_zero _), fun i h1 h2 => by omega, Below.refl _ _⟩
  case round =>
    obtain ⟨lo, hi, rfl, rfl, hlh, hin, HLO, HHI, HB⟩ := hrel
    by_cases hlt : lo < hi
    · have hlt' : (lo : Int) < (hi : Int) := by omega
      generalize hm : (lo + hi) / 2 = m
      have hm1 : lo ≤ m := by omega
      have hm2 : m < hi := by omega
      have hdv : ((lo : Int) + (hi : Int)) / 2 = (m : Int) := by omega
      obtain ⟨b, off, hab, _, _, _⟩ := Rw.at (Pr.below H0.out HB.out) (by omega)
      subst hab
      obtain ⟨d0, d1⟩ := Pr.cells (Pr.below H0.out HB.out) (i := m) (by have := HN.out; omega)
      have HK := hid (cmpV_cases (pAtB l m).1 k)
      have HM := hid hm
      have hmn : (m : Int) < (n : Int) := by omega
      clear hm
      go_wp2_with fail
      refine (pairFor1_any _ _ k wr).mono ?_
      rintro e w1 ⟨rfl, hb⟩
      have HB1 := hid (Below.then' HB.out hb (Nat.le_refl _))
      clear hb d0 d1 HB
      cases hk : klt (pAtB l m).1 k with
      | true =>
        have hv : cmpV (pAtB l m).1 k < 0 := by
          rcases HK.out with h | ⟨h, _⟩ | ⟨h, _⟩
          · rw [h.2]; decide
          · rw [h, klt_irrefl] at hk; cases hk
          · rw [h] at hk; cases hk
        have HL1 : Hid (∀ i, i < m + 1 → klt (pAtB l i).1 k = true) := by
          intro i hi
          by_cases e : i = m
          · subst e; exact hk
          · exact klt_trans (HA.out.at (show i < m by omega) (by have := HN.out; omega)) hk
        generalize cmpV (pAtB l m).1 k = z at *
        clear hk HK
        go_wp2
        go_roundw
        case rel => exact ⟨m + 1, hi, by go_num, rfl, by omega, hin, HL1.out, HHI.out, HB1.out⟩
        case measure => simp [intOf]; omega
      | false =>
        have hv : ¬ cmpV (pAtB l m).1 k < 0 := by
          rcases HK.out with h | ⟨_, h⟩ | ⟨_, _, h⟩
          · rw [h.1] at hk; cases hk
          · rw [h]; decide
          · rw [h]; decide
        have HH1 : Hid (∀ i, m ≤ i → i < n → klt (pAtB l i).1 k = false) := by
          intro i h1 h2
          by_cases e : i = m
          · subst e; exact hk
          · cases hi : klt (pAtB l i).1 k with
            | false => rfl
            | true =>
              have := klt_trans (HA.out.at (show m < i by omega) (by have := HN.out; omega)) hi
              rw [hk] at this
              cases this
        generalize cmpV (pAtB l m).1 k = z at *
        clear hk HK
        go_wp2
        go_roundw
        case rel => exact ⟨lo, m, rfl, rfl, hm1, by omega, HLO.out, HH1.out, HB1.out⟩
        case measure => simp [intOf]; omega
    · have hlt' : ¬ (lo : Int) < (hi : Int) := by omega
      have e : hi = lo := by omega
      subst e
      have HP : Hid (hi = pos l k) := pos_uniq l k hi (by rw [← HN.out]; exact hin) HLO.out (fun h => HHI.out hi (Nat.le_refl _) (by rw [HN.out]; exact h))
      by_cases hn : hi < n
      · have hn' : (hi : Int) < (n : Int) := by omega
        obtain ⟨b, off, hab, _, _, _⟩ := Rw.at (Pr.below H0.out HB.out) (by omega)
        subst hab
        obtain ⟨d0, d1⟩ := Pr.cells (Pr.below H0.out HB.out) (i := hi) (by have := HN.out; omega)
        have HK := hid (cmpV_cases (pAtB l hi).1 k)
        go_wp2_with fail
        refine (pairFor1_any _ _ k wr).mono ?_
        rintro e w1 ⟨rfl, hb⟩
        have HB1 := hid (Below.then' HB.out hb (Nat.le_refl _))
        clear hb d0 d1 HB
        by_cases hk : (pAtB l hi).1 = k
        · have hv : (cmpV (pAtB l hi).1 k == 0) = true := by
            rcases HK.out with h | ⟨_, h⟩ | ⟨_, h, _⟩
            · rw [hk, klt_irrefl] at h; cases h.1
            · rw [h]; rfl
            · exact absurd hk h
          have HR : Hid (there l k = true) := by
            show _ = _
            unfold there
            rw [← HP.out]
            exact decide_eq_true ⟨by rw [← HN.out]; exact hn, hk⟩
          generalize cmpV (pAtB l hi).1 k = z at *
          clear hk HK
          go_wp2
          go_ret2
          exact ⟨by rw [HR.out, ← HP.out]; rfl, HB1.out⟩
        · have hv : (cmpV (pAtB l hi).1 k == 0) = false := by
            rcases HK.out with ⟨_, h⟩ | ⟨h, _⟩ | ⟨_, _, h⟩
            · rw [h]; rfl
            · exact absurd h hk
            · rw [h]; rfl
          have HR : Hid (there l k = false) := by
            show _ = _
            unfold there
            rw [← HP.out]
            exact decide_eq_false fun h => hk h.2
          generalize cmpV (pAtB l hi).1 k = z at *
          clear hk HK
          go_wp2
          go_ret2
          exact ⟨by rw [HR.out, ← HP.out]; rfl, HB1.out⟩
      · have hn' : ¬ (hi : Int) < (n : Int) := by omega
        have HR : Hid (there l k = false) := by
          show _ = _
          unfold there
          rw [← HP.out]
          exact decide_eq_false fun h => hn (by rw [HN.out]; exact h.1)
        go_wp2
        go_ret2
        exact ⟨by rw [HR.out, ← HP.out]; rfl, HB.out⟩
set_option maxHeartbeats 1000000 in
theorem pairFor_any (S : Nat → Prop) (b : Nat) (t : T) (k : ByteArray) (w : World) (h : Limb w S b t) (ha : Asc t.ps) (hs : t.ps.length ≤ 1048576) :
    Calls Try.prog 89 #[.pointer (some ⟨b, 0, none⟩), .string k] w fun e w' => e = .returned (.tuple #[.int .i64 (pos t.ps k : Nat), .bool (there t.ps k)]) ∧ Below w.heap.size w w' := by
  obtain ⟨ap, cp, ak, ck, A, c0, c1, hp, hk, hkid, _, _⟩ := h.see
  clear c1 hk hkid h
  have HP := hid hp
  clear hp
  go_enter Try.func89, Try.ntmps89
  go_wp2_with fail
  refine (bsearch_any S ap _ cp t.ps k w HP.out ha hs).mono ?_
  rintro e w1 ⟨rfl, hb⟩
  have HB := hid hb
  clear hb c0
  generalize hp : pos t.ps k = p
  generalize ht : there t.ps k = q
  have HE := hid (And.intro hp ht)
  clear hp ht
  go_wp2
  go_ret2
  exact ⟨by rw [HE.out.1, HE.out.2]; rfl, HB.out⟩
end Go.Proofs.Ytkflneeifllpgaa
