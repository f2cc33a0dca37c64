/-
  putPair: a pair comes into a leaf.
-/
import Derived.Test.YtkflneeifllpgaaMw2
import Derived.Deep.DeepCutAuto
import Derived.Deep.RegionLaw
namespace Go.Proofs.Ytkflneeifllpgaa
open Go.RowKit
/-- A list with the pair, at its key's place. -/
def insP (l : List PB) (p : PB) : List PB := if there l p.1 = true then l.set (pos l p.1) p else l.take (pos l p.1) ++ [p] ++ l.drop (pos l p.1)
/-- A limb made of the blocks of S and of new ones. -/
def OneL (w w' : World) (b : Nat) (t : T) (S : Nat → Prop) : Prop := ∃ S' : Nat → Prop, Limb w' S' b t ∧ (∀ x, S' x → (S x ∨ w.heap.size ≤ x) ∧ x < w'.heap.size) ∧ Only S w w'
theorem limb_pairs {w w' : World} {S : Nat → Prop} {b : Nat} {pv kv pv' : Value} {ps' : List PB} {ks : List T} {A : Nat → Nat} {SS : Nat → Nat → Prop} (hS : ∀ x, S x → x < w.heap.size) (hb : S b) (hB' : Bk w' b 112 [pv', kv])
    (hP' : w'.ownsRow 0 35 2 pv' ps'.length (pcs ps')) (hK : w.ownsRow 0 66 1 kv ks.length (ptrs A ks.length))
    (hPS : ∀ x, pv.ownBlock = some x → S x ∧ x ≠ b) (hKS : ∀ x, kv.ownBlock = some x → S x ∧ x ≠ b ∧ pv.ownBlock ≠ some x)
    (hSS : ∀ i, i < ks.length → ∀ x, SS i x → S x ∧ x ≠ b ∧ pv.ownBlock ≠ some x ∧ kv.ownBlock ≠ some x)
    (hD : ∀ i j, i < ks.length → j < ks.length → i ≠ j → ∀ x, SS i x → ¬ SS j x)
    (hk : ∀ i, i < ks.length → Limb w (SS i) (A i) (tAt ks i))
    (hon : Only (fun y => y = b ∨ pv.ownBlock = some y) w w') (hown : pv'.ownBlock = pv.ownBlock ∨ ∃ k, pv'.ownBlock = some k ∧ w.heap.size ≤ k) : OneL w w' b (.mk ps' ks) S := by
  have hlt := World.ownsRow.lt hP'
  refine ⟨fun x => (S x ∨ pv'.ownBlock = some x) ∧ x < w'.heap.size, .mk _ b pv' kv ps' ks A SS ⟨.inl hb, hB'.lt⟩ hB' hP' (own_kept hK hon (fun k e hr => ?_)) (fun x hx => ⟨⟨.inr hx, (hlt x hx).2⟩, ?_⟩) (fun x hx => ⟨⟨.inl (hKS x hx).1, ?_⟩, (hKS x hx).2.1, ?_⟩) (fun i hi x hx => ⟨⟨.inl (hSS i hi x hx).1, ?_⟩, (hSS i hi x hx).2.1, ?_, (hSS i hi x hx).2.2.2⟩) hD (fun i hi => (hk i hi).to hon (fun x hx hr => ?_)), fun x hx => ⟨?_, hx.2⟩, hon.mono (fun x _ h => h.elim (fun e => e ▸ hb) (fun e => (hPS x e).1))⟩
  · rcases hr with h | h
    · exact (hKS k e).2.1 h
    · exact (hKS k e).2.2 h
  · rcases hown with e | ⟨k, e, hk⟩
    · rw [e] at hx; exact (hPS x hx).2
    · rw [e] at hx; cases hx; have := hS b hb; omega
  · have := hS x (hKS x hx).1; have := hon.size; omega
  · rcases hown with e | ⟨k, e, hk⟩
    · rw [e]; exact (hKS x hx).2.2
    · rw [e]; intro h; cases h; have := hS _ (hKS _ hx).1; omega
  · have := hS x (hSS i hi x hx).1; have := hon.size; omega
  · rcases hown with e | ⟨k, e, hk'⟩
    · rw [e]; exact (hSS i hi x hx).2.2.1
    · rw [e]; intro h; cases h; have := hS _ (hSS i hi _ hx).1; omega
  · rcases hr with h | h
    · exact (hSS i hi x hx).2.1 h
    · exact (hSS i hi x hx).2.2.1 h
  · rcases hx.1 with h | h
    · exact .inl h
    · rcases hown with e | ⟨k, e, hk⟩
      · rw [e] at h; exact .inl (hPS x h).1
      · rw [e] at h; cases h; exact .inr hk
theorem pcs_set1 (ps : List PB) (p : PB) (j : Nat) (hj : j < ps.length) : ((pcs ps).set (j * 2) (.string p.1)).set (j * 2 + 1) (.string p.2) = pcs (ps.set j p) := (pcs_set ps p j hj).symm
theorem OneL.from {w w1 w' : World} {b : Nat} {t : T} {S : Nat → Prop} (h : OneL w1 w' b t S) (hb : Below w.heap.size w w1) : OneL w w' b t S := by
  obtain ⟨S', h1, h2, h3⟩ := h
  exact ⟨S', h1, fun x hx => ⟨(h2 x hx).1.elim .inl (fun h => .inr (Nat.le_trans hb.size h)), (h2 x hx).2⟩, (only_of_below hb _).trans h3⟩
theorem bk_grown {w w' : World} {b : Nat} {T : TypeId} {xs : List Value} {o : Option Nat} (h : Bk w b T xs) (hg : w.grownBy w' o) (hne : o ≠ some b) : Bk w' b T xs := (hg.block b h.lt (fun e => hne e.symm)).trans h
theorem pcs_ins (ps : List PB) (p : Nat) (k v : ByteArray) : (pcs ps).take (p * 2) ++ [.string k, .string v] ++ (pcs ps).drop (p * 2) = pcs (ps.take p ++ [(k, v)] ++ ps.drop p) := by
  rw [pcs_take, pcs_drop, pcs_append, pcs_append]
  rfl
set_option maxHeartbeats 4000000 in
set_option maxRecDepth 20000 in
theorem putPair_any (S : Nat → Prop) (b : Nat) (t : T) (k v : ByteArray) (w : World) (h : Limb w S b t) (hS : ∀ x, S x → x < w.heap.size) (ha : Asc t.ps) (hs : t.ps.length ≤ 1000000) :
    Calls Try.prog 118 #[.pointer (some ⟨b, 0, none⟩), .agg #[.string k, .string v]] w fun e w' => e = .returned (.tuple #[]) ∧ OneL w w' b (.mk (insP t.ps (k, v)) t.ks) S := by
  have hb := below_new (o := .cells #[.string k, .string v] 35) (w := w) (Below.refl _ _)
  have HB0 := hid hb
  have KP := hid (Bk.new w 35 [.string k, .string v])
  have HPF := hid (fun w' hL => pairFor_any S b t k w' hL ha (by omega))
  have HL0 := hid (h.kept hb)
  clear hb
  go_enter Try.func118, Try.ntmps118
  go_wp2_with fail
  refine (HPF.out _ HL0.out).mono ?_
  generalize hU : w.alloc (.cells #[.string k, .string v] 35) = U at *
  clear hU
  rintro e w1 ⟨rfl, hb⟩
  have HB1 := hid (Below.then' HB0.out hb (Nat.le_refl _))
  have KP1 := hid (KP.out.below hb)
  have HL1 := hid (HL0.out.kept hb)
  clear hb HPF HL0 KP HB0
  cases HL1.out with
  | mk _ _ pv kv ps ks A SS hb hB hP hK hPS hKS hSS hD hk =>
  simp only [T.ps] at *
  obtain ⟨ap, cp, rfl⟩ := own_shape hP
  have hsz := HB1.out.size
  have hS1 : ∀ x, S x → x < w1.heap.size := fun x hx => Nat.lt_of_lt_of_le (hS x hx) hsz
  have HMK := hid (fun (w' : World) (pv' : Value) (ps' : List PB) hB' hP' hon hown => limb_pairs (w := w1) (w' := w') (pv' := pv') (ps' := ps') hS1 hb hB' hP' hK hPS hKS hSS hD hk hon hown)
  have c0 := hB.cell (j := 0) rfl
  have f0 := hB.free 0
  have p0 := KP1.out.cell (j := 0) rfl
  have p1 := KP1.out.cell (j := 1) rfl
  have KB := hid hB
  have HP := hid hP
  have HPB := hid hPS
  have HBL := hid (hS b hb)
  have HSO := hid hS
  clear hB hP hK hPS hKS hSS hD hk HL1 hS1 hS
  cases hth : there ps k with
  | true =>
    have hlt := (of_decide_eq_true hth).1
    have HI : Hid (insP ps (k, v) = ps.set (pos ps k) (k, v)) := by show _ = _; rw [insP, if_pos hth]
    obtain ⟨g, cap, cur, e, _, hg, hnc, hcm, hcs, htk⟩ : ∃ g cap cur, Value.slice ap ps.length cp = .slice (some ⟨g, 0, none⟩) ps.length cap ∧ 0 ≤ g ∧ w1.heap[g]? = some (.cells cur 35 (0, 0)) ∧ ps.length ≤ cap ∧ cap ≤ maxLen ∧ cur.size = cap * 2 ∧ cur.toList.take (ps.length * 2) = pcs ps := by
      rcases HP.out.2 with ⟨_, h0⟩ | h
      · omega
      · exact h
    cases e
    unfold maxLen at hcm
    have hgb : Bk w1 g 35 cur.toList := by show _ = _; simpa using hg
    have hcl : cur.toList.length = cp * 2 := by simpa using hcs
    generalize cur.toList = cl at *
    generalize hpp : pos ps k = p at *
    have hc : ∀ j u, (pcs ps)[j]? = some u → cl[j]? = some u := fun j u hu => by
      rw [← htk, List.getElem?_take] at hu
      split at hu
      · exact hu
      · cases hu
    have a0 := hgb.cell (hc _ _ (pcs_at ps p hlt).1)
    have a1 := hgb.cell (hc _ _ (pcs_at ps p hlt).2)
    have a2 := hgb.free (p * 2)
    have a3 := hgb.free (p * 2 + 1)
    have hgne : g ≠ b := (HPB.out g rfl).2
    have hgne2 : ¬ g = b := hgne
    have hgne3 : ¬ b = g := fun h => hgne h.symm
    have hlt' : (p : Int) < (ps.length : Int) := by omega
    have hp0 : (0 : Int) ≤ (p : Int) := by omega
    have HK : Hid (OneL w ((w1.setCell ⟨g, p * 2, none⟩ (.string k)).setCell ⟨g, p * 2 + 1, none⟩ (.string v)).drew b (.mk (insP ps (k, v)) ks) S) := by
      have hon : Only (fun y => y = b ∨ (Value.slice (some ⟨g, 0, none⟩) ps.length cp).ownBlock = some y) w1 ((w1.setCell ⟨g, p * 2, none⟩ (.string k)).setCell ⟨g, p * 2 + 1, none⟩ (.string v)).drew :=
        (((only_set (R := fun y => y = b ∨ (Value.slice (some ⟨g, 0, none⟩) ps.length cp).ownBlock = some y) (p := ⟨g, p * 2, none⟩) (.inr rfl) _).trans (only_set (R := fun y => y = b ∨ (Value.slice (some ⟨g, 0, none⟩) ps.length cp).ownBlock = some y) (p := ⟨g, p * 2 + 1, none⟩) (.inr rfl) _))).trans (only_of_below (below_drew _) _)
      refine OneL.from ?_ HB1.out
      rw [HI.out]
      refine HMK.out _ (.slice (some ⟨g, 0, none⟩) ps.length cp) _ ((KB.out.setOther hgne.symm _ _).setOther hgne.symm _ _) ⟨?_, .inr ⟨g, cp, ((cl.set (p * 2) (.string k)).set (p * 2 + 1) (.string v)).toArray, by rw [List.length_set], Nat.zero_le _, (hgb.set _ _).set _ _, ?_, ?_, ?_, ?_⟩⟩ hon (.inl rfl)
      · rw [pcs_length]
      · rw [List.length_set]; omega
      · unfold maxLen; omega
      · simp [hcl]
      · show ((cl.set (p * 2) (.string k)).set (p * 2 + 1) (.string v)).take ((ps.set p (k, v)).length * 2) = _
        rw [List.length_set, List.take_set, List.take_set, htk]
        exact (pcs_set ps (k, v) p hlt).symm
    clear hg hcs htk hc HMK HI hgb hcl
    generalize (pAtB ps p).1 = x0 at *
    generalize (pAtB ps p).2 = x1 at *
    generalize ps.length = n at *
    go_wp2_with fail
    go_region
    all_goals (go_wp2_with fail)
    all_goals go_end0
    all_goals exact ⟨rfl, HK.out⟩
  | false =>
    have HI : Hid (insP ps (k, v) = ps.take (pos ps k) ++ [(k, v)] ++ ps.drop (pos ps k)) := by
      show _ = _
      rw [insP, if_neg (by rw [show ((k, v) : PB).1 = k from rfl, hth]; decide)]
    have hle := pos_le ps k
    generalize hpp : pos ps k = p at *
    have HIN := hid (fun (w' : World) vb (hO : w'.ownsRow 0 35 2 (.slice ap ps.length cp) ps.length (pcs ps)) hB hne => insertP_any (.slice ap ps.length cp) ps.length p vb 0 (pcs ps) [.string k, .string v] w' hO (Nat.zero_le _) hle (by omega) hB rfl (pcs_one ps) (by intro u hu; simp at hu; rcases hu with rfl | rfl <;> rfl) hne)
    clear hpp hth
    have hbn := below_new (o := .cells #[.string k, .string v] 35) (w := w1) (Below.refl _ _)
    have hbd : Below w1.heap.size w1 (w1.alloc (.cells #[.string k, .string v] 35)).drew := Below.then' hbn (below_drew _) (Nat.le_refl _)
    have HC := hid (HIN.out (w1.alloc (.cells #[.string k, .string v] 35)).drew w1.heap.size (own_kept HP.out (only_of_below hbd (fun _ => False)) (fun _ _ h => h)) ((Bk.new w1 35 [.string k, .string v]).below (below_drew _)) (fun e => by have := (World.ownsRow.lt HP.out _ e).2; omega))
    have KB2 := hid (KB.out.below hbd)
    have c0a := (KB.out.below hbn).cell (j := 0) rfl
    have c0b := (KB.out.below hbd).cell (j := 0) rfl
    have HBD := hid hbd
    have hbne : (Value.slice ap ps.length cp).ownBlock ≠ some b := fun e => (HPB.out b e).2 rfl
    have HBN := hid hbne
    have HFIN : Hid (∀ (a3 : Option Addr) (c3 : Nat) (w3 : World), w3.ownsRow 0 35 2 (.slice a3 (ps.length + 1) c3) (ps.length + 1) ((pcs ps).take (p * 2) ++ [.string k, .string v] ++ (pcs ps).drop (p * 2)) → (w1.alloc (.cells #[.string k, .string v] 35)).drew.grownBy w3 (Value.slice ap ps.length cp).ownBlock →
        ((Value.slice a3 (ps.length + 1) c3).ownBlock = (Value.slice ap ps.length cp).ownBlock ∨ ∃ q, (Value.slice a3 (ps.length + 1) c3).ownBlock = some q ∧ (w1.alloc (.cells #[.string k, .string v] 35)).drew.heap.size ≤ q) → OneL w (w3.setCell ⟨b, 0, none⟩ (.slice a3 (ps.length + 1) c3)) b (.mk (insP ps (k, v)) ks) S) := by
      intro a3 c3 w3 hO3 hg3 hw3
      rw [pcs_ins] at hO3
      have hl : (ps.take p ++ [(k, v)] ++ ps.drop p).length = ps.length + 1 := by simp only [List.length_append, List.length_take, List.length_drop, List.length_cons, List.length_nil]; omega
      have hb3 : b < w1.heap.size := Nat.lt_of_lt_of_le HBL.out hsz
      have hne3 : (Value.slice a3 (ps.length + 1) c3).ownBlock ≠ some b := by
        rcases hw3 with e | ⟨q, e, hq⟩
        · rw [e]; exact hbne
        · rw [e]; intro h; cases h; have := hbd.size; omega
      refine OneL.from ?_ HB1.out
      rw [HI.out]
      refine HMK.out _ (.slice a3 (ps.length + 1) c3) _ ((bk_grown KB2.out hg3 hbne).set 0 _) (by rw [hl]; exact own_kept hO3 (only_set (R := fun y => y = b) rfl _) (fun q e h => hne3 (h ▸ e))) ?_ ?_
      · exact ((only_of_below hbd _).trans (only_of_grown hg3 (R := fun y => y = b ∨ (Value.slice ap ps.length cp).ownBlock = some y) (fun q e => .inr e))).trans (only_set (R := fun y => y = b ∨ (Value.slice ap ps.length cp).ownBlock = some y) (.inl rfl) _)
      · rcases hw3 with e | ⟨q, e, hq⟩
        · exact .inl e
        · exact .inr ⟨q, e, Nat.le_trans hbd.size hq⟩
    clear hbn hbd hbne HIN
    go_wp2_with fail
    go_region_with (go_at_call 143; refine HC.out.mono ?_; rintro e w3 ⟨a3, c3, rfl, hO3, hg3, hw3⟩; have e0 := (bk_grown KB2.out hg3 HBN.out).cell (j := 0) rfl; have e1 := (bk_grown KB2.out hg3 HBN.out).free 0)
    all_goals (go_wp2_with fail)
    all_goals go_end0
    all_goals exact ⟨rfl, HFIN.out _ _ _ hO3 hg3 hw3⟩
end Go.Proofs.Ytkflneeifllpgaa
/-
  kidFor, get: the way down to a key.
-/
namespace Go.Proofs.Ytkflneeifllpgaa
open Go.RowKit
theorem kidF_stop {ks : List T} {k : ByteArray} {f p : Nat} (h : ¬ (p + 1 < ks.length ∧ klt k (tAt ks (p + 1)).least = false)) : kidF ks k f p = p := by
  cases f with
  | zero => rfl
  | succ f => rw [kidF, if_neg h]
set_option maxHeartbeats 4000000 in
theorem kidFor_any (S : Nat → Prop) (b : Nat) (t : T) (k : ByteArray) (w : World) (h : Limb w S b t) (hf : ∀ x ∈ t.ks, x.full false = true) (hs : t.ks.length ≤ 1048576) :
    Calls Try.prog 88 #[.pointer (some ⟨b, 0, none⟩), .string k] w fun e w' => e = .returned (.int .i64 (kidOf t.ks k : Nat)) ∧ ∃ q, w' = w.drewN q := by
  have H0 := hid h
  have HF := hid hf
  clear h hf
  go_enter Try.func88, Try.ntmps88
  go_wp2_with fail
  go_loopw [5] (fun x wr => ∃ (p f q : Nat), x = .int .i64 p ∧ wr = w.drewN q ∧ Hid (kidF t.ks k f p = kidOf t.ks k) ∧ t.ks.length ≤ p + f ∧ p ≤ t.ks.length) (fun x _ => t.ks.length - (intOf x).toNat)
  case atStart => exact ⟨0, t.ks.length, 0, rfl, rfl, rfl, by omega, Nat.zero_le _⟩
  case round =>
    obtain ⟨p, f, q, rfl, rfl, HK, hpf, hpl⟩ := hrel
    have HL := hid (H0.out.kept (Below.drewN' (Below.refl _ _) q))
    obtain ⟨ap, cp, ak, ck, A, c0, c1, _, hk, hkid, _, _⟩ := HL.out.see
    have hck := (Rw.len hk).2
    by_cases hlt : p + 1 < t.ks.length
    · have hlt' : (p : Int) + 1 < (t.ks.length : Int) := by omega
      obtain ⟨x, off, rfl, _, _, hc⟩ := Rw.at hk (by omega)
      have d0 := hc (p + 1) _ (ptrs_at A _ (p + 1) hlt)
      obtain ⟨S1, _, hk1⟩ := hkid (p + 1) hlt
      have HK1 := hid hk1
      have HNE := hid (full_ne _ _ (HF.out _ (tAt_mem hlt)))
      simp only [ptr] at d0
      clear hc hk hkid hk1
      generalize A (p + 1) = bk at *
      go_wp2_with fail
      refine (least_any S1 bk _ _ HK1.out HNE.out).mono ?_
      rintro e w1 ⟨rfl, q1, rfl⟩
      cases hkl : klt k (tAt t.ks (p + 1)).least with
      | false =>
        obtain ⟨f, rfl⟩ : ∃ g, f = g + 1 := ⟨f - 1, by omega⟩
        have HK2 : Hid (kidF t.ks k f (p + 1) = kidOf t.ks k) := by
          have := HK.out
          rw [kidF, if_pos ⟨hlt, hkl⟩] at this
          exact this
        have hle : Op.bytesLess k.toList (tAt t.ks (p + 1)).least.toList = false := hkl
        generalize (tAt t.ks (p + 1)).least = z at *
        clear hkl
        rcases tri z k with ⟨h1, h2, h3, h4⟩ | rfl | ⟨h1, h2, h3, h4⟩
        · go_wp2
          go_roundw
          case rel => exact ⟨p + 1, f, q + q1, by go_num, rfl, HK2.out, by omega, by omega⟩
          case measure => simp [intOf]; omega
        · go_wp2
          go_roundw
          case rel => exact ⟨p + 1, f, q + q1, by go_num, rfl, HK2.out, by omega, by omega⟩
          case measure => simp [intOf]; omega
        · rw [hle] at h2; cases h2
      | true =>
        have HK2 : Hid (kidOf t.ks k = p) := by
          have := HK.out
          rw [kidF_stop (by intro h; rw [hkl] at h; cases h.2)] at this
          exact this.symm
        have hle : Op.bytesLess k.toList (tAt t.ks (p + 1)).least.toList = true := hkl
        generalize (tAt t.ks (p + 1)).least = z at *
        clear hkl
        rcases tri z k with ⟨h1, h2, h3, h4⟩ | rfl | ⟨h1, h2, h3, h4⟩
        · rw [hle] at h2; cases h2
        · rw [less_irrefl] at hle; cases hle
        · go_wp2
          go_ret
          exact ⟨by rw [HK2.out]; rfl, q + q1, rfl⟩
    · have hlt' : ¬ (p : Int) + 1 < (t.ks.length : Int) := by omega
      have HK2 : Hid (kidOf t.ks k = p) := by
        have := HK.out
        rw [kidF_stop (fun h => hlt h.1)] at this
        exact this.symm
      clear hk hkid
      go_wp2
      go_ret
      exact ⟨by rw [HK2.out]; rfl, q, rfl⟩
end Go.Proofs.Ytkflneeifllpgaa
/-
  get: what lies beside a key in a tree.
-/
namespace Go.Proofs.Ytkflneeifllpgaa
open Go.RowKit
/-- What a look-up answers. -/
def gotV : Option ByteArray → Value
  | none => .tuple #[.string ⟨#[]⟩, .bool false]
  | some v => .tuple #[.string v, .bool true]
structure GetOk (t : T) : Prop where
  asc : Asc t.all
  br : t.ks ≠ [] → t.ps = [] ∧ ∀ x ∈ t.ks, x.full false = true
  few : t.ps.length ≤ 8 ∧ t.ks.length ≤ 8
theorem full_getOk {t : T} {r : Bool} (h : t.full r = true) (ha : Asc t.all) : GetOk t := by
  obtain ⟨ps, ks⟩ := t
  by_cases hk : ks = []
  · subst hk
    exact ⟨ha, fun h => absurd rfl h, by have := full_lf h; show ps.length ≤ 8 ∧ 0 ≤ 8; omega⟩
  · have := full_br h hk
    refine ⟨ha, fun _ => this.2.2, ?_, ?_⟩
    · show ps.length ≤ 8
      rw [this.2.2.1]
      decide
    · show ks.length ≤ 8
      omega
theorem szL_mem : ∀ (ks : List T) (x : T), x ∈ ks → x.size ≤ szL ks
  | k :: ks, x, h => by
    rw [szL]
    rcases List.mem_cons.1 h with rfl | h
    · omega
    · have := szL_mem ks x h; omega
theorem kid_size {ps : List PB} {ks : List T} {x : T} (h : x ∈ ks) : x.size < (T.mk ps ks).size := by
  have := szL_mem ks x h
  rw [T.size]
  omega
set_option maxHeartbeats 4000000 in
theorem get_any (S : Nat → Prop) (b : Nat) (t : T) (k : ByteArray) (w : World) (h : Limb w S b t) (hg : GetOk t) :
    Calls Try.prog 45 #[.pointer (some ⟨b, 0, none⟩), .string k] w fun e w' => e = .returned (gotV (fnd t.all k)) ∧ Below w.heap.size w w' := by
  have H0 := hid h
  have HG := hid hg
  clear h hg
  go_enter Try.func45, Try.ntmps45
  go_wp2_with fail
  go_loopg [0] t.size (fun m p wr => ∃ (b' : Nat) (S' : Nat → Prop) (t' : T) (q : Nat), p = .pointer (some ⟨b', 0, none⟩) ∧ wr = w.drewN q ∧ Hid (Limb w S' b' t') ∧ Hid (GetOk t' ∧ fnd t'.all k = fnd t.all k ∧ m = t'.size))
  case atStart => exact ⟨b, S, t, 0, rfl, rfl, H0.out, HG.out, rfl, rfl⟩
  case round =>
    obtain ⟨b', S', t', q, rfl, rfl, HL, HT⟩ := hrel
    have HL1 := hid (HL.out.kept (Below.drewN' (Below.refl _ _) q))
    go_wp2_with fail
    refine (isLeaf_any S' b' t' _ HL1.out).mono ?_
    rintro e w1 ⟨rfl, rfl⟩
    by_cases hk : t'.ks = []
    · have e0 : decide (t'.ks.length = 0) = true := by rw [hk]; rfl
      rw [e0]
      have hall : t'.all = t'.ps := by obtain ⟨ps, ks⟩ := t'; simp only [T.ks] at hk; subst hk; simp [T.all, allL, T.ps]
      have HA : Hid (Asc t'.ps) := by have := HT.out.1.asc; rw [hall] at this; exact this
      have HR : Hid (fnd t.all k = if there t'.ps k = true then some (pAtB t'.ps (pos t'.ps k)).2 else none) := by
        show _ = _
        rw [← HT.out.2.1, hall, pos_fnd k HA.out]
        simp [there]
      have HPL := hid HT.out.1.few.1
      clear hk e0 hall
      go_wp2_with fail
      refine (pairFor_any S' b' t' k _ HL1.out HA.out (by have := HPL.out; omega)).mono ?_
      rintro e w2 ⟨rfl, hb⟩
      have HB := hid (Below.then' (Below.drewN' (Below.refl w.heap.size w) q) hb (Nat.le_refl _))
      have HL2 := hid (HL1.out.kept hb)
      clear hb HL1
      cases hth : there t'.ps k with
      | false =>
        have HR2 : Hid (fnd t.all k = none) := by have := HR.out; rw [hth] at this; show _ = _; simpa using this
        generalize pos t'.ps k = p at *
        clear hth
        go_wp2
        go_ret2
        exact ⟨by rw [HR2.out]; rfl, HB.out⟩
      | true =>
        have HR2 : Hid (fnd t.all k = some (pAtB t'.ps (pos t'.ps k)).2) := by have := HR.out; rw [hth] at this; show _ = _; simpa using this
        have hlt : pos t'.ps k < t'.ps.length := (of_decide_eq_true hth).1
        obtain ⟨ap, cp, ak, ck, A, c0, c1, hp, hk, hkid, _, _⟩ := HL2.out.see
        have hck := (Rw.len hp).2
        obtain ⟨x, off, rfl, _, _, _⟩ := Rw.at hp (by omega)
        obtain ⟨d0, d1⟩ := Pr.cells hp hlt
        have hlt' : (pos t'.ps k : Int) < (t'.ps.length : Int) := by omega
        generalize (pAtB t'.ps (pos t'.ps k)).2 = z at *
        generalize pos t'.ps k = p at *
        clear hth hk hkid hp c1 HA HR
        go_wp2
        go_ret2
        exact ⟨by rw [HR2.out]; rfl, HB.out⟩
    · have e0 : decide (t'.ks.length = 0) = false := by
        refine decide_eq_false fun h => hk (List.eq_nil_of_length_eq_zero h)
      rw [e0]
      obtain ⟨hps, hfl⟩ := HT.out.1.br hk
      have hall : t'.all = allL t'.ks := by obtain ⟨ps, ks⟩ := t'; simp only [T.ps] at hps; subst hps; simp [T.all, T.ks]
      have hasc := HT.out.1.asc
      rw [hall] at hasc
      obtain ⟨hf1, hf2⟩ := kid_fnd (k := k) hk hfl hasc
      obtain ⟨hq1, _, _⟩ := kidOf_spec k hk
      have HC := hid (fun m => kidFor_any S' b' t' k ((w.drewN q).drewN m) (HL1.out.kept (Below.drewN' (Below.refl _ _) m)) hfl (by have := HT.out.1.few; omega))
      obtain ⟨ap, cp, ak, ck, A, c0, c1, _, hkk, hkid, _, _⟩ := HL1.out.see
      have hck := (Rw.len hkk).2
      obtain ⟨x, off, rfl, _, _, hc⟩ := Rw.at hkk (by omega)
      have d0 := hc (kidOf t'.ks k) _ (ptrs_at A _ _ hq1)
      obtain ⟨S1, _, hk1⟩ := hkid (kidOf t'.ks k) hq1
      simp only [ptr] at d0
      have HT1 : Hid (GetOk (tAt t'.ks (kidOf t'.ks k)) ∧ fnd (tAt t'.ks (kidOf t'.ks k)).all k = fnd t.all k ∧ (tAt t'.ks (kidOf t'.ks k)).size < t'.size) := by
        refine ⟨full_getOk (hfl _ (tAt_mem hq1)) hf2, ?_, ?_⟩
        · rw [← hf1, ← hall]; exact HT.out.2.1
        · obtain ⟨ps, ks⟩ := t'
          exact kid_size (tAt_mem hq1)
      have HL3 : Hid (Limb w S1 (A (kidOf t'.ks k)) (tAt t'.ks (kidOf t'.ks k))) := hk1.kept (undrew w q)
      have hq' : (kidOf t'.ks k : Int) < (t'.ks.length : Int) := by omega
      clear hc hkk hkid hk1 hf1 hf2 hasc hall hfl hps hk e0
      generalize A (kidOf t'.ks k) = bk at *
      generalize tAt t'.ks (kidOf t'.ks k) = tk at *
      generalize kidOf t'.ks k = p at *
      generalize hW : w.drewN q = W at *
      have HW := hid hW
      clear hW
      go_wp2_with fail
      go_quiet (first | (go_at_call 88; exact Calls.quiet_of (HC.out _)) | fail)
      go_wp2
      go_roundg tk.size
      case measure => have := HT.out.2.2; have := HT1.out.2.2; omega
      case rel => exact ⟨bk, S1, tk, q + nq, rfl, by rw [← HW.out, World.drewN_drewN], HL3.out, HT1.out.1, HT1.out.2.1, rfl⟩
end Go.Proofs.Ytkflneeifllpgaa
/-
  put: a pair comes into a tree; what one node can't hold comes newly behind it.
-/
namespace Go.Proofs.Ytkflneeifllpgaa
open Go.RowKit
def bareT : T := .mk [] []
/-- Kids, one of which has become two. -/
def insK (ks : List T) (i : Nat) (r : T × T) : List T := if r.2.bare = true then ks.set i r.1 else (ks.set i r.1).take (i + 1) ++ [r.2] ++ (ks.set i r.1).drop (i + 1)
def putF : Nat → T → PB → T × T
  | 0, t, _ => (t, bareT)
  | f + 1, t, p => if t.ks = [] then shT (.mk (insP t.ps p) t.ks) bareT else shT (.mk t.ps (insK t.ks (kidOf t.ks p.1) (putF f (tAt t.ks (kidOf t.ks p.1)) p))) bareT
theorem insP_len (l : List PB) (p : PB) : (insP l p).length ≤ l.length + 1 := by
  unfold insP
  split
  · simp
  · simp only [List.length_append, List.length_take, List.length_drop, List.length_cons, List.length_nil]; omega
theorem insK_len (ks : List T) (i : Nat) (r : T × T) : (insK ks i r).length ≤ ks.length + 1 := by
  unfold insK
  split
  · simp
  · simp only [List.length_append, List.length_take, List.length_drop, List.length_cons, List.length_nil, List.length_set]; omega
theorem shT_small (a b : T) : (shT a b).2.ps.length ≤ a.ps.length + b.ps.length ∧ (shT a b).2.ks.length ≤ a.ks.length + b.ks.length := by
  constructor
  · show ((a.ps ++ b.ps).drop _).length ≤ _
    rw [List.length_drop, List.length_append]; omega
  · show ((a.ks ++ b.ks).drop _).length ≤ _
    rw [List.length_drop, List.length_append]; omega
/-- What a limb is made of. -/
structure LB (w : World) (S : Nat → Prop) (b : Nat) (pv kv : Value) (ps : List PB) (ks : List T) (A : Nat → Nat) (SS : Nat → Nat → Prop) : Prop where
  hb : S b
  hB : Bk w b 112 [pv, kv]
  hP : w.ownsRow 0 35 2 pv ps.length (pcs ps)
  hK : w.ownsRow 0 66 1 kv ks.length (ptrs A ks.length)
  hPS : ∀ x, pv.ownBlock = some x → S x ∧ x ≠ b
  hKS : ∀ x, kv.ownBlock = some x → S x ∧ x ≠ b ∧ pv.ownBlock ≠ some x
  hSS : ∀ i, i < ks.length → ∀ x, SS i x → S x ∧ x ≠ b ∧ pv.ownBlock ≠ some x ∧ kv.ownBlock ≠ some x
  hD : ∀ i j, i < ks.length → j < ks.length → i ≠ j → ∀ x, SS i x → ¬ SS j x
  hk : ∀ i, i < ks.length → Limb w (SS i) (A i) (tAt ks i)
theorem LB.limb {w : World} {S : Nat → Prop} {b : Nat} {pv kv : Value} {ps : List PB} {ks : List T} {A : Nat → Nat} {SS : Nat → Nat → Prop} (h : LB w S b pv kv ps ks A SS) : Limb w S b (.mk ps ks) := .mk S b pv kv ps ks A SS h.hb h.hB h.hP h.hK h.hPS h.hKS h.hSS h.hD h.hk
theorem Limb.lb {w : World} {S : Nat → Prop} {b : Nat} {ps : List PB} {ks : List T} (h : Limb w S b (.mk ps ks)) : ∃ pv kv A SS, LB w S b pv kv ps ks A SS := by
  cases h with
  | mk _ _ pv kv _ _ A SS hb hB hP hK hPS hKS hSS hD hk => exact ⟨pv, kv, A, SS, ⟨hb, hB, hP, hK, hPS, hKS, hSS, hD, hk⟩⟩
theorem LB.kept {w w' : World} {S : Nat → Prop} {b : Nat} {pv kv : Value} {ps : List PB} {ks : List T} {A : Nat → Nat} {SS : Nat → Nat → Prop} (h : LB w S b pv kv ps ks A SS) (hb : Below w.heap.size w w') : LB w' S b pv kv ps ks A SS :=
  ⟨h.hb, h.hB.below hb, own_kept h.hP (only_of_below hb (fun _ => False)) (fun _ _ h => h), own_kept h.hK (only_of_below hb (fun _ => False)) (fun _ _ h => h), h.hPS, h.hKS, h.hSS, h.hD, fun i hi => (h.hk i hi).kept hb⟩
/-- A kid has turned into another one; all else is as it was. -/
theorem LB.kid {w w' : World} {S : Nat → Prop} {b : Nat} {pv kv : Value} {ps : List PB} {ks : List T} {A : Nat → Nat} {SS : Nat → Nat → Prop} (h : LB w S b pv kv ps ks A SS) (hS : ∀ x, S x → x < w.heap.size) {q : Nat} (hq : q < ks.length) {S1 : Nat → Prop} {t' : T} (hL : Limb w' S1 (A q) t') (h1 : ∀ x, S1 x → (SS q x ∨ w.heap.size ≤ x) ∧ x < w'.heap.size) (hon : Only (SS q) w w') :
    LB w' (fun x => S x ∨ S1 x) b pv kv ps (ks.set q t') A (fun i => if i = q then S1 else SS i) := by
  obtain ⟨hb, hB, hP, hK, hPS, hKS, hSS, hD, hk⟩ := h
  have hPl := World.ownsRow.lt hP
  have hKl := World.ownsRow.lt hK
  refine ⟨.inl hb, hB.to hon (fun h => (hSS q hq b h).2.1 rfl), own_kept hP hon (fun k e h => (hSS q hq k h).2.2.1 e), by rw [List.length_set]; exact own_kept hK hon (fun k e h => (hSS q hq k h).2.2.2 e), fun x hx => ⟨.inl (hPS x hx).1, (hPS x hx).2⟩, fun x hx => ⟨.inl (hKS x hx).1, (hKS x hx).2⟩, ?_, ?_, ?_⟩
  · intro i hi x hx
    rw [List.length_set] at hi
    by_cases e : i = q
    · simp only [e, if_true] at hx
      refine ⟨.inr hx, ?_⟩
      rcases (h1 x hx).1 with h | h
      · exact (hSS q hq x h).2
      · refine ⟨fun h' => ?_, fun h' => ?_, fun h' => ?_⟩
        · have := hS b hb; omega
        · have := (hPl x h').2; omega
        · have := (hKl x h').2; omega
    · simp only [e, if_false] at hx
      exact ⟨.inl (hSS i hi x hx).1, (hSS i hi x hx).2⟩
  · intro i j hi hj hij x hx hy
    rw [List.length_set] at hi hj
    by_cases e : i = q
    · have e' : j ≠ q := by omega
      simp only [e, if_true] at hx
      simp only [e', if_false] at hy
      rcases (h1 x hx).1 with h | h
      · exact hD q j hq hj (by omega) x h hy
      · have := hS x (hSS j hj x hy).1; omega
    · simp only [e, if_false] at hx
      by_cases e' : j = q
      · simp only [e', if_true] at hy
        rcases (h1 x hy).1 with h | h
        · exact hD q i hq hi (by omega) x h hx
        · have := hS x (hSS i hi x hx).1; omega
      · simp only [e', if_false] at hy
        exact hD i j hi hj hij x hx hy
  · intro i hi
    rw [List.length_set] at hi
    by_cases e : i = q
    · subst e
      simp only [if_true]
      have : tAt (ks.set i t') i = t' := by simp [tAt, hi]
      rw [this]
      exact hL
    · simp only [e, if_false]
      have : tAt (ks.set q t') i = tAt ks i := by simp [tAt, Ne.symm e]
      rw [this]
      exact (hk i hi).to hon (fun x hx h => hD i q hi hq e x hx h)
theorem ptrs_ins (A : Nat → Nat) (n p c : Nat) (h : p ≤ n) : (ptrs A n).take p ++ [ptr c] ++ (ptrs A n).drop p = ptrs (fun i => if i < p then A i else if i = p then c else A (i - 1)) (n + 1) := by
  apply List.ext_getElem?
  intro i
  rcases Nat.lt_trichotomy i p with hi | hi | hi
  · rw [List.append_assoc, List.getElem?_append_left (by simp [ptrs]; omega), List.getElem?_take, if_pos hi, ptrs_at _ _ _ (by omega), ptrs_at _ _ _ (by omega), if_pos hi]
  · rw [List.append_assoc, List.getElem?_append_right (by simp [ptrs]; omega), ptrs_at _ _ _ (by omega), if_neg (by omega), if_pos hi]
    have : i - (List.take p (ptrs A n)).length = 0 := by simp [ptrs]; omega
    rw [this]; rfl
  · rw [List.getElem?_append_right (by simp [ptrs]; omega), List.getElem?_drop]
    have : p + (i - (List.take p (ptrs A n) ++ [ptr c]).length) = i - 1 := by simp [ptrs]; omega
    rw [this]
    by_cases hn : i < n + 1
    · rw [ptrs_at _ _ _ (by omega), ptrs_at _ _ _ hn, if_neg (by omega), if_neg (by omega)]
    · rw [List.getElem?_eq_none (by simp [ptrs]; omega), List.getElem?_eq_none (by simp [ptrs]; omega)]
theorem tAt_ins (ks : List T) (p : Nat) (c : T) (h : p ≤ ks.length) (i : Nat) : tAt (ks.take p ++ [c] ++ ks.drop p) i = if i < p then tAt ks i else if i = p then c else tAt ks (i - 1) := by
  have hl : (ks.take p).length = p := by rw [List.length_take]; omega
  rcases Nat.lt_trichotomy i p with hi | hi | hi
  · rw [List.append_assoc, tAt_app1 (by omega), tAt_take hi, if_pos hi]
  · rw [List.append_assoc, tAt_app2 (by omega), hl, if_neg (by omega), if_pos hi, show i - p = 0 by omega]; rfl
  · rw [tAt_app2 (by rw [List.length_append, hl]; simp; omega), tAt_drop, if_neg (by omega), if_neg (by omega)]
    congr 1
    rw [List.length_append, hl]; simp; omega
/-- A new kid has come in behind the one at q. -/
theorem LB.ins {w w' : World} {S : Nat → Prop} {b : Nat} {pv kv kv' : Value} {ps : List PB} {ks : List T} {A : Nat → Nat} {SS : Nat → Nat → Prop} (h : LB w S b pv kv ps ks A SS) (hS : ∀ x, S x → x < w.heap.size) {p : Nat} (hp : p ≤ ks.length) {S2 : Nat → Prop} {b2 : Nat} {t2 : T} (hL : Limb w S2 b2 t2)
    (h2 : ∀ x, S2 x → x ≠ b ∧ pv.ownBlock ≠ some x ∧ kv.ownBlock ≠ some x ∧ x < w.heap.size) (h3 : ∀ i, i < ks.length → ∀ x, SS i x → ¬ S2 x) (hB' : Bk w' b 112 [pv, kv'])
    (hK' : w'.ownsRow 0 66 1 kv' (ks.length + 1) ((ptrs A ks.length).take p ++ [ptr b2] ++ (ptrs A ks.length).drop p)) (hon : Only (fun y => y = b ∨ kv.ownBlock = some y) w w') (hown : kv'.ownBlock = kv.ownBlock ∨ ∃ k, kv'.ownBlock = some k ∧ w.heap.size ≤ k) :
    OneL w w' b (.mk ps (ks.take p ++ [t2] ++ ks.drop p)) (fun x => S x ∨ S2 x) := by
  obtain ⟨hb, hB, hP, hK, hPS, hKS, hSS, hD, hk⟩ := h
  have hl : (ks.take p ++ [t2] ++ ks.drop p).length = ks.length + 1 := by
    simp only [List.length_append, List.length_take, List.length_drop, List.length_cons, List.length_nil]; omega
  have hlt := World.ownsRow.lt hK'
  have hPl := World.ownsRow.lt hP
  have hKl := World.ownsRow.lt hK
  rw [ptrs_ins _ _ _ _ hp] at hK'
  have hnew : ∀ x, kv'.ownBlock = some x → x ≠ b ∧ pv.ownBlock ≠ some x := by
    intro x hx
    rcases hown with e | ⟨k, e, hk⟩
    · rw [e] at hx; exact (hKS x hx).2
    · rw [e] at hx; cases hx
      exact ⟨fun h => (by have := hS b hb; omega), fun h => (by have := (hPl _ h).2; omega)⟩
  have hsz := hon.size
  -- the kids' blocks
  have hSS' : ∀ i, i < ks.length + 1 → ∀ x, (if i < p then SS i else if i = p then S2 else SS (i - 1)) x → (S x ∨ S2 x) ∧ x ≠ b ∧ pv.ownBlock ≠ some x ∧ kv.ownBlock ≠ some x ∧ x < w.heap.size := by
    intro i hi x hx
    by_cases c1 : i < p
    · simp only [c1, if_true] at hx
      have := hSS i (by omega) x hx
      exact ⟨.inl this.1, this.2.1, this.2.2.1, this.2.2.2, hS x this.1⟩
    · by_cases c2 : i = p
      · simp only [c1, if_false] at hx
        rw [if_pos c2] at hx
        have := h2 x hx
        exact ⟨.inr hx, this⟩
      · simp only [c1, c2, if_false] at hx
        have := hSS (i - 1) (by omega) x hx
        exact ⟨.inl this.1, this.2.1, this.2.2.1, this.2.2.2, hS x this.1⟩
  refine ⟨fun x => ((S x ∨ S2 x) ∨ kv'.ownBlock = some x) ∧ x < w'.heap.size, .mk _ b pv kv' ps _ (fun i => if i < p then A i else if i = p then b2 else A (i - 1)) (fun i => if i < p then SS i else if i = p then S2 else SS (i - 1)) ⟨.inl (.inl hb), hB'.lt⟩ hB' (own_kept hP hon ?_) (by rw [hl]; exact hK') (fun x hx => ⟨⟨.inl (.inl (hPS x hx).1), ?_⟩, (hPS x hx).2⟩) (fun x hx => ⟨⟨.inr hx, (hlt x hx).2⟩, hnew x hx⟩) ?_ ?_ ?_, fun x hx => ⟨?_, hx.2⟩, hon.mono ?_⟩
  · rintro k e (h | h)
    · exact (hPS k e).2 h
    · exact (hKS k h).2.2 e
  · have := hS x (hPS x hx).1; omega
  · intro i hi x hx
    rw [hl] at hi
    obtain ⟨a1, a2, a3, a4, a5⟩ := hSS' i hi x hx
    refine ⟨⟨.inl a1, by omega⟩, a2, a3, ?_⟩
    rcases hown with e | ⟨k, e, hk⟩
    · rw [e]; exact a4
    · rw [e]; intro h; cases h; omega
  · intro i j hi hj hij x hx hy
    rw [hl] at hi hj
    by_cases c1 : i < p
    · simp only [c1, if_true] at hx
      by_cases d1 : j < p
      · simp only [d1, if_true] at hy
        exact hD i j (by omega) (by omega) hij x hx hy
      · simp only [d1, if_false] at hy
        by_cases d2 : j = p
        · rw [if_pos d2] at hy; exact h3 i (by omega) x hx hy
        · rw [if_neg d2] at hy; exact hD i (j - 1) (by omega) (by omega) (by omega) x hx hy
    · simp only [c1, if_false] at hx
      by_cases c2 : i = p
      · rw [if_pos c2] at hx
        by_cases d1 : j < p
        · simp only [d1, if_true] at hy; exact h3 j (by omega) x hy hx
        · simp only [d1, if_false] at hy
          rw [if_neg (by omega)] at hy; exact h3 (j - 1) (by omega) x hy hx
      · rw [if_neg c2] at hx
        by_cases d1 : j < p
        · simp only [d1, if_true] at hy; exact hD (i - 1) j (by omega) (by omega) (by omega) x hx hy
        · simp only [d1, if_false] at hy
          by_cases d2 : j = p
          · rw [if_pos d2] at hy; exact h3 (i - 1) (by omega) x hx hy
          · rw [if_neg d2] at hy; exact hD (i - 1) (j - 1) (by omega) (by omega) (by omega) x hx hy
  · intro i hi
    rw [hl] at hi
    rw [tAt_ins _ _ _ hp]
    have key : ∀ (R : Nat → Prop) (c : Nat) (t : T), Limb w R c t → (∀ x, R x → x ≠ b ∧ kv.ownBlock ≠ some x) → Limb w' R c t := fun R c t hl hr => hl.to hon (fun x hx h => h.elim (hr x hx).1 (hr x hx).2)
    by_cases c1 : i < p
    · simp only [c1, if_true]
      exact key _ _ _ (hk i (by omega)) (fun x hx => ⟨(hSS i (by omega) x hx).2.1, (hSS i (by omega) x hx).2.2.2⟩)
    · by_cases c2 : i = p
      · simp only [c1, if_false]
        rw [if_pos c2, if_pos c2, if_pos c2]
        exact key _ _ _ hL (fun x hx => ⟨(h2 x hx).1, (h2 x hx).2.2.1⟩)
      · simp only [c1, c2, if_false]
        exact key _ _ _ (hk (i - 1) (by omega)) (fun x hx => ⟨(hSS (i - 1) (by omega) x hx).2.1, (hSS (i - 1) (by omega) x hx).2.2.2⟩)
  · rcases hx.1 with h | h
    · exact .inl h
    · rcases hown with e | ⟨k, e, hk⟩
      · rw [e] at h; exact .inl (.inl (hKS x h).1)
      · rw [e] at h; cases h; exact .inr hk
  · rintro x - (h | h)
    · exact .inl (h ▸ hb)
    · exact .inl (hKS x h).1
end Go.Proofs.Ytkflneeifllpgaa
/-
  Putting a pair in, as plain data: the program's way and the specification's come to the same; what comes of it is full, even and in order.
-/
namespace Go.Proofs.Ytkflneeifllpgaa
open Go.RowKit
theorem key_eq {a b : ByteArray} (h : klt a b = false) (h' : klt b a = false) : a = b := by
  by_cases e : a.toList = b.toList
  · exact str_ext e
  · have := less_total _ _ h e
    rw [show Op.bytesLess b.toList a.toList = klt b a from rfl, h'] at this
    cases this
theorem there_cons_lt {x p : PB} {l : List PB} (h : klt x.1 p.1 = true) : there (x :: l) p.1 = there l p.1 ∧ pos (x :: l) p.1 = pos l p.1 + 1 := by
  have e : pos (x :: l) p.1 = pos l p.1 + 1 := by rw [pos, if_pos h]
  refine ⟨?_, e⟩
  unfold there
  rw [e]
  have h1 : (pos l p.1 + 1 < (x :: l).length) = (pos l p.1 < l.length) := by simp
  have h2 : pAtB (x :: l) (pos l p.1 + 1) = pAtB l (pos l p.1) := by simp [pAtB]
  rw [h2]
  simp only [h1]
theorem pos_cons_ge {x p : PB} {l : List PB} (h : klt x.1 p.1 = false) : pos (x :: l) p.1 = 0 := by rw [pos, h]; rfl
theorem insP_nil (p : PB) : insP [] p = [p] := by simp [insP, there, pos]
theorem insP_lt {x p : PB} {l : List PB} (h : klt x.1 p.1 = true) : insP (x :: l) p = x :: insP l p := by
  obtain ⟨h1, h2⟩ := there_cons_lt (l := l) h
  unfold insP
  rw [h1, h2]
  split <;> simp
theorem insP_eq {x p : PB} {l : List PB} (h : x.1 = p.1) : insP (x :: l) p = p :: l := by
  have h0 : klt x.1 p.1 = false := by rw [h]; exact klt_irrefl _
  have h1 := pos_cons_ge (l := l) h0
  have h2 : there (x :: l) p.1 = true := by unfold there; rw [h1]; simp [pAtB, h]
  unfold insP
  rw [h2, h1]; simp
theorem insP_gt {x p : PB} {l : List PB} (h : klt x.1 p.1 = false) (hne : x.1 ≠ p.1) : insP (x :: l) p = p :: x :: l := by
  have h1 := pos_cons_ge (l := l) h
  have h2 : there (x :: l) p.1 = false := by unfold there; rw [h1]; simp [pAtB, hne]
  unfold insP
  rw [h2, h1]; simp
theorem insP_left (A : List PB) {B : List PB} {p : PB} (h : ∀ x ∈ A, klt x.1 p.1 = true) : insP (A ++ B) p = A ++ insP B p := by
  induction A with
  | nil => rfl
  | cons a A ih => rw [List.cons_append, insP_lt (h a (by simp)), ih (fun x hx => h x (by simp [hx])), List.cons_append]
theorem insP_right (A : List PB) {B : List PB} {p : PB} (h : ∀ x ∈ B, klt p.1 x.1 = true) : insP (A ++ B) p = insP A p ++ B := by
  induction A with
  | nil =>
    rw [List.nil_append, insP_nil]
    cases B with
    | nil => rw [insP_nil]; rfl
    | cons b B =>
      have := h b (by simp)
      rw [insP_gt (klt_asymm this) (klt_ne this).symm]; rfl
  | cons a A ih =>
    rw [List.cons_append]
    cases hk : klt a.1 p.1 with
    | true => rw [insP_lt hk, insP_lt hk, ih]; rfl
    | false =>
      by_cases e : a.1 = p.1
      · rw [insP_eq e, insP_eq e]; rfl
      · rw [insP_gt hk e, insP_gt hk e]; rfl
theorem insP_mem {l : List PB} {p x : PB} (h : x ∈ insP l p) : x = p ∨ x ∈ l := by
  induction l with
  | nil => rw [insP_nil] at h; simpa using h
  | cons a l ih =>
    cases hk : klt a.1 p.1 with
    | true =>
      rw [insP_lt hk] at h
      rcases List.mem_cons.1 h with h | h
      · exact .inr (by simp [h])
      · exact (ih h).imp id (fun h => by simp [h])
    | false =>
      by_cases e : a.1 = p.1
      · rw [insP_eq e] at h
        rcases List.mem_cons.1 h with h | h
        · exact .inl h
        · exact .inr (by simp [h])
      · rw [insP_gt hk e] at h
        rcases List.mem_cons.1 h with h | h
        · exact .inl h
        · exact .inr h
theorem insP_asc {l : List PB} {p : PB} (h : Asc l) : Asc (insP l p) := by
  induction l with
  | nil => rw [insP_nil]; exact List.pairwise_singleton _ _
  | cons a l ih =>
    obtain ⟨h1, h2⟩ := List.pairwise_cons.1 h
    cases hk : klt a.1 p.1 with
    | true =>
      rw [insP_lt hk]
      refine List.pairwise_cons.2 ⟨fun x hx => ?_, ih h2⟩
      rcases insP_mem hx with rfl | hx
      · exact hk
      · exact h1 x hx
    | false =>
      by_cases e : a.1 = p.1
      · rw [insP_eq e]
        exact List.pairwise_cons.2 ⟨fun x hx => by rw [← e]; exact h1 x hx, h2⟩
      · rw [insP_gt hk e]
        have hlt : klt p.1 a.1 = true := by
          cases hq : klt p.1 a.1 with
          | true => rfl
          | false => exact absurd (key_eq hk hq) e
        refine List.pairwise_cons.2 ⟨fun x hx => ?_, h⟩
        rcases List.mem_cons.1 hx with rfl | hx
        · exact hlt
        · exact klt_trans hlt (h1 x hx)
theorem insP_pos (l : List PB) (p : PB) : l.length ≤ (insP l p).length ∧ 1 ≤ (insP l p).length := by
  induction l with
  | nil => rw [insP_nil]; simp
  | cons a l ih =>
    cases hk : klt a.1 p.1 with
    | true => rw [insP_lt hk]; simp; omega
    | false =>
      by_cases e : a.1 = p.1
      · rw [insP_eq e]; simp
      · rw [insP_gt hk e]; simp
/-- The specification's way: pair after pair. -/
def insS : List PB → PB → Bool → List PB
  | [], p, d => if d = true then [] else [p]
  | x :: l, p, d => (if d = false ∧ klt x.1 p.1 = false then [p] else []) ++ ((if x.1 = p.1 then [] else [x]) ++ insS l p (d || !klt x.1 p.1))
theorem insS_done {l : List PB} {p : PB} (h : ∀ x ∈ l, x.1 ≠ p.1) : insS l p true = l := by
  induction l with
  | nil => rfl
  | cons a l ih =>
    rw [insS, if_neg (by simp), if_neg (h a (by simp))]
    simp [ih (fun x hx => h x (by simp [hx]))]
theorem insS_eq {l : List PB} {p : PB} (h : Asc l) : insS l p false = insP l p := by
  induction l with
  | nil => rw [insP_nil]; rfl
  | cons a l ih =>
    obtain ⟨h1, h2⟩ := List.pairwise_cons.1 h
    cases hk : klt a.1 p.1 with
    | true =>
      rw [insP_lt hk, insS, if_neg (by simp [hk]), if_neg (klt_ne hk), hk, ← ih h2]; rfl
    | false =>
      by_cases e : a.1 = p.1
      · rw [insP_eq e, insS, if_pos ⟨rfl, hk⟩, if_pos e, hk]
        have := insS_done (l := l) (p := p) (fun x hx => by rw [← e]; exact (klt_ne (h1 x hx)).symm)
        simp [this]
      · have hlt : klt p.1 a.1 = true := by
          cases hq : klt p.1 a.1 with
          | true => rfl
          | false => exact absurd (key_eq hk hq) e
        rw [insP_gt hk e, insS, if_pos ⟨rfl, hk⟩, if_neg e, hk]
        have := insS_done (l := l) (p := p) (fun x hx => (klt_ne (klt_trans hlt (h1 x hx))).symm)
        simp [this]
/-- The specification's way down: the last kid whose least key isn't greater. -/
def wayF (ks : List T) (k : ByteArray) : Nat → Nat → Nat → Nat
  | 0, _, a => a
  | f + 1, i, a => if i < ks.length then wayF ks k f (i + 1) (if klt k (tAt ks i).least = false then i else a) else a
def wayOf (ks : List T) (k : ByteArray) : Nat := wayF ks k ks.length 1 0
theorem wayF_up (ks : List T) (k : ByteArray) : ∀ f i a, ks.length ≤ i + f → (∀ j, i ≤ j → j < ks.length → klt k (tAt ks j).least = true) → wayF ks k f i a = a
  | 0, i, a, _, _ => rfl
  | f + 1, i, a, h, hg => by
    rw [wayF]
    split
    · rename_i hi
      rw [hg i (Nat.le_refl _) hi]
      exact wayF_up ks k f (i + 1) a (by omega) (fun j h1 h2 => hg j (by omega) h2)
    · rfl
theorem wayF_spec (ks : List T) (k : ByteArray) (q : Nat) (hlo : ∀ j, 1 ≤ j → j ≤ q → j < ks.length → klt k (tAt ks j).least = false) (hhi : ∀ j, q < j → j < ks.length → klt k (tAt ks j).least = true) (hq : q < ks.length) : ∀ f i, 1 ≤ i → i ≤ q + 1 → ks.length ≤ i + f → wayF ks k f i (i - 1) = q
  | 0, i, h1, h2, h3 => by rw [wayF]; omega
  | f + 1, i, h1, h2, h3 => by
    by_cases e : i = q + 1
    · rw [wayF_up ks k (f + 1) i _ h3 (fun j hj hl => hhi j (by omega) hl)]; omega
    · rw [wayF, if_pos (by omega), if_pos (hlo i h1 (by omega) (by omega))]
      exact wayF_spec ks k q hlo hhi hq f (i + 1) (by omega) (by omega) (by omega)
theorem least_mem {t : T} (h : t.full false = true) : ∃ v, (t.least, v) ∈ t.all := by
  obtain ⟨v, rest, e⟩ := full_head _ _ h
  exact ⟨v, by rw [e]; simp⟩
theorem allL_mem {ks : List T} {q : Nat} (h : q < ks.length) {x : PB} (hx : x ∈ (tAt ks q).all) : x ∈ allL ks := by
  rw [all_split h]; simp [hx]
theorem leasts_asc {ks : List T} (hf : ∀ x ∈ ks, x.full false = true) (ha : Asc (allL ks)) {i j : Nat} (hij : i < j) (hj : j < ks.length) : klt (tAt ks i).least (tAt ks j).least = true := by
  have h1 : j < ks.length := hj
  rw [all_split h1] at ha
  obtain ⟨_, _, hab⟩ := List.pairwise_append.1 ha
  obtain ⟨v, hv⟩ := least_mem (hf _ (tAt_mem (show i < ks.length by omega)))
  obtain ⟨u, hu⟩ := least_mem (hf _ (tAt_mem h1))
  have e : tAt (ks.take j) i = tAt ks i := tAt_take hij
  have := allL_mem (ks := ks.take j) (q := i) (by rw [List.length_take]; omega) (by rw [e]; exact hv)
  exact hab _ this _ (List.mem_append_left _ hu)
theorem wayOf_eq {ks : List T} {k : ByteArray} (hk : ks ≠ []) (hf : ∀ x ∈ ks, x.full false = true) (ha : Asc (allL ks)) : wayOf ks k = kidOf ks k := by
  obtain ⟨h1, h2, h3⟩ := kidOf_spec k hk
  refine wayF_spec ks k (kidOf ks k) (fun j a b c => ?_) (fun j a b => ?_) h1 ks.length 1 (Nat.le_refl _) (by omega) (by omega)
  · rcases h2 with h2 | h2
    · omega
    · by_cases e : j = kidOf ks k
      · rw [e]; exact h2
      · have := leasts_asc hf ha (show j < kidOf ks k by omega) h1
        cases hq : klt k (tAt ks j).least with
        | false => rfl
        | true => rw [klt_trans hq this] at h2; cases h2
  · by_cases e : j = kidOf ks k + 1
    · rw [e]; exact h3 (by omega)
    · exact klt_trans (h3 (by omega)) (leasts_asc hf ha (show kidOf ks k + 1 < j by omega) b)
def splT (t : T) : List T := if t.ks = [] ∧ 4 < t.ps.length then [.mk (t.ps.take 3) [], .mk (t.ps.drop 3) []] else if 4 < t.ks.length then [.mk [] (t.ks.take 3), .mk [] (t.ks.drop 3)] else [t]
def putS : Nat → T → PB → List T
  | 0, t, _ => [t]
  | f + 1, t, p => if t.ks = [] then splT (.mk (insS t.ps p false) []) else splT (.mk [] (t.ks.take (wayOf t.ks p.1) ++ putS f (tAt t.ks (wayOf t.ks p.1)) p ++ t.ks.drop (wayOf t.ks p.1 + 1)))
def two (r : T × T) : List T := if r.2.bare = true then [r.1] else [r.1, r.2]
theorem bare_bareT : bareT.bare = true := rfl
theorem bare_iff {t : T} : t.bare = true ↔ t = bareT := by
  obtain ⟨ps, ks⟩ := t
  constructor
  · intro h
    have h : ps.length + ks.length = 0 := of_decide_eq_true h
    rw [List.eq_nil_of_length_eq_zero (show ps.length = 0 by omega), List.eq_nil_of_length_eq_zero (show ks.length = 0 by omega)]; rfl
  · intro h; rw [h]; rfl
theorem shT_bare (t : T) : shT t bareT = (.mk (t.ps.take (cutN t.ps.length)) (t.ks.take (cutN t.ks.length)), .mk (t.ps.drop (cutN t.ps.length)) (t.ks.drop (cutN t.ks.length))) := by
  simp [shT, bareT, T.ps, T.ks]
theorem T.eta (t : T) : T.mk t.ps t.ks = t := by cases t; rfl
theorem shT_one {t : T} (h1 : t.ps.length ≤ 4) (h2 : t.ks.length ≤ 4) : shT t bareT = (t, bareT) := by
  rw [shT_bare, show cutN t.ps.length = t.ps.length by simp [cutN, h1], show cutN t.ks.length = t.ks.length by simp [cutN, h2]]
  simp [T.eta, bareT]
theorem shT_leaf {ps : List PB} (h : 4 < ps.length) : shT (.mk ps []) bareT = (.mk (ps.take 3) [], .mk (ps.drop 3) []) := by
  rw [shT_bare]; simp only [T.ps, T.ks]
  rw [show cutN ps.length = 3 by simp [cutN]; omega]
  simp
theorem shT_branch {ks : List T} (h : 4 < ks.length) : shT (.mk [] ks) bareT = (.mk [] (ks.take 3), .mk [] (ks.drop 3)) := by
  rw [shT_bare]; simp only [T.ps, T.ks]
  rw [show cutN ks.length = 3 by simp [cutN]; omega]
  simp
/-- What is put into one node, of at most five, comes to one full node or two. -/
theorem not_bare {ps : List PB} {ks : List T} (h : 0 < ps.length + ks.length) : (T.mk ps ks).bare = false := decide_eq_false (by show ¬ (ps.length + ks.length = 0); omega)
theorem two_one (a : T) : two (a, bareT) = [a] := rfl
theorem two_two {a b : T} (h : b.bare = false) : two (a, b) = [a, b] := by unfold two; rw [h]; rfl
theorem two_leaf {ps : List PB} : two (shT (.mk ps []) bareT) = splT (.mk ps []) := by
  unfold splT
  show _ = if ([] : List T) = [] ∧ 4 < ps.length then [T.mk (ps.take 3) [], .mk (ps.drop 3) []] else if 4 < ([] : List T).length then _ else _
  by_cases h : 4 < ps.length
  · rw [shT_leaf h, if_pos ⟨rfl, h⟩, two_two (not_bare (by simp; omega))]
  · rw [shT_one (t := .mk ps []) (show ps.length ≤ 4 by omega) (show ([] : List T).length ≤ 4 by simp), two_one, if_neg (fun e => h e.2), if_neg (by simp)]
theorem two_branch {ks : List T} (hk : ks ≠ []) : two (shT (.mk [] ks) bareT) = splT (.mk [] ks) := by
  unfold splT
  show _ = if ks = [] ∧ 4 < ([] : List PB).length then _ else if 4 < ks.length then [T.mk [] (ks.take 3), T.mk [] (ks.drop 3)] else [T.mk [] ks]
  rw [if_neg (fun e => hk e.1)]
  by_cases h : 4 < ks.length
  · rw [shT_branch h, if_pos h, two_two (not_bare (by simp; omega))]
  · rw [shT_one (t := .mk [] ks) (show ([] : List PB).length ≤ 4 by simp) (show ks.length ≤ 4 by omega), two_one, if_neg h]
theorem insK_two (ks : List T) (q : Nat) (r : T × T) (h : q < ks.length) : insK ks q r = ks.take q ++ two r ++ ks.drop (q + 1) := by
  have e : ks.set q r.1 = ks.take q ++ r.1 :: ks.drop (q + 1) := List.set_eq_take_append_cons_drop.trans (by rw [if_pos h])
  have hl : (ks.take q).length = q := by rw [List.length_take]; omega
  unfold insK two
  split
  · rw [e]; simp
  · rw [e]
    have e1 : (ks.take q ++ r.1 :: ks.drop (q + 1)).take (q + 1) = ks.take q ++ [r.1] := by
      rw [List.take_append, hl, List.take_of_length_le (by omega)]; simp [show q + 1 - q = 1 by omega]
    have e2 : (ks.take q ++ r.1 :: ks.drop (q + 1)).drop (q + 1) = ks.drop (q + 1) := by
      rw [List.drop_append, hl, List.drop_of_length_le (by omega)]; simp [show q + 1 - q = 1 by omega]
    rw [e1, e2]; simp
/-- A tree that may be put into: even, full but for a root, in order. -/
structure PutIn (h : Nat) (r : Bool) (t : T) : Prop where
  ev : Ev h t
  full : t.full r = true ∨ (r = true ∧ t = bareT)
  asc : Asc t.all
theorem PutIn.kids {h : Nat} {r : Bool} {ps : List PB} {ks : List T} (g : PutIn (h + 1) r (.mk ps ks)) (hk : ks ≠ []) : ps = [] ∧ 2 ≤ ks.length ∧ ks.length ≤ 4 ∧ (∀ x ∈ ks, x.full false = true) ∧ (∀ x ∈ ks, Ev h x) ∧ Asc (allL ks) := by
  rcases g.full with hf | ⟨_, e⟩
  · obtain ⟨h1, h2, rfl, h3⟩ := full_br hf hk
    rcases g.ev with ⟨e, _⟩ | ⟨_, e⟩
    · exact absurd e hk
    · exact ⟨rfl, h1, h2, h3, e, by simpa [T.all] using g.asc⟩
  · cases e; exact absurd rfl hk
theorem PutIn.kid {h : Nat} {r : Bool} {ps : List PB} {ks : List T} (g : PutIn (h + 1) r (.mk ps ks)) (hk : ks ≠ []) (k : ByteArray) : PutIn h false (tAt ks (kidOf ks k)) := by
  obtain ⟨_, _, _, h3, h4, h5⟩ := g.kids hk
  obtain ⟨q1, _, _⟩ := kidOf_spec k hk
  exact ⟨h4 _ (tAt_mem q1), .inl (h3 _ (tAt_mem q1)), (kid_fnd hk h3 h5).2⟩
theorem PutIn.leaf {h : Nat} {r : Bool} {ps : List PB} (g : PutIn h r (.mk ps [])) : h = 1 ∧ ps.length ≤ 4 ∧ (r = false → 2 ≤ ps.length) ∧ Asc ps := by
  have hh : h = 1 := (ev_lv h _ g.ev).symm
  have ha : Asc ps := by simpa [T.all, allL] using g.asc
  rcases g.full with hf | ⟨rfl, e⟩
  · obtain ⟨h1, h2⟩ := full_lf hf
    exact ⟨hh, h1, fun e => by subst e; simpa using h2, ha⟩
  · cases e; exact ⟨hh, by simp, by simp, ha⟩
theorem putS_eq : ∀ (h : Nat) (r : Bool) (t : T) (p : PB), PutIn h r t → putS h t p = two (putF h t p)
  | 0, r, t, p, g => g.ev.elim
  | h + 1, r, .mk ps ks, p, g => by
    by_cases hk : ks = []
    · subst hk
      obtain ⟨_, _, _, ha⟩ := g.leaf
      rw [putS, putF]
      simp only [T.ks, T.ps, if_true]
      rw [insS_eq ha, two_leaf]
    · obtain ⟨rfl, h1, h2, h3, h4, h5⟩ := g.kids hk
      obtain ⟨q1, _, _⟩ := kidOf_spec p.1 hk
      rw [putS, putF]
      simp only [T.ks, T.ps, hk, if_false]
      rw [wayOf_eq hk h3 h5, putS_eq h false _ p (g.kid hk p.1), insK_two _ _ _ q1, two_branch]
      simp only [two]; split <;> simp
/-- What comes of it. -/
structure PutOut (h : Nat) (r : Bool) (l : List PB) (x : T × T) : Prop where
  ev : ∀ y ∈ two x, Ev h y
  one : x.2.bare = true → x.1.full r = true
  both : x.2.bare = false → x.1.full false = true ∧ x.2.full false = true
  all : allL (two x) = l
theorem allL_two (x : T × T) : allL (two x) = x.1.all ++ x.2.all := by
  unfold two
  split
  · rename_i h; rw [bare_iff.1 h]; simp [allL, bareT, T.all]
  · simp [allL]
theorem PutOut.fulls {h : Nat} {l : List PB} {x : T × T} (g : PutOut h false l x) : ∀ y ∈ two x, y.full false = true := by
  intro y hy
  unfold two at hy
  cases e : x.2.bare with
  | true => rw [e] at hy; simp at hy; subst hy; exact g.one e
  | false =>
    rw [e] at hy; simp at hy
    rcases hy with rfl | rfl
    · exact (g.both e).1
    · exact (g.both e).2
theorem two_len (x : T × T) : 1 ≤ (two x).length ∧ (two x).length ≤ 2 := by unfold two; split <;> simp
theorem full_mk_leaf {ps : List PB} {r : Bool} (h : ps.length ≤ 4) (h2 : 2 ≤ ps.length ∨ r = true ∧ ps.length = 1) : (T.mk ps []).full r = true := by
  simpa [T.full, h] using h2
theorem full_mk_br {ks : List T} {r : Bool} (h1 : 2 ≤ ks.length) (h2 : ks.length ≤ 4) (h3 : ∀ x ∈ ks, x.full false = true) : (T.mk [] ks).full r = true := by
  have hk : ks ≠ [] := by rintro rfl; simp at h1
  simp [T.full, hk, h1, h2, (fullL_iff ks).2 h3]
theorem shT_out_leaf {ps : List PB} {r : Bool} (h5 : ps.length ≤ 5) (h1 : 1 ≤ ps.length) (h2 : r = false → 2 ≤ ps.length) : PutOut 1 r ps (shT (.mk ps []) bareT) := by
  by_cases h : 4 < ps.length
  · rw [shT_leaf h]
    have hb : (T.mk (ps.drop 3) []).bare = false := not_bare (by simp; omega)
    refine ⟨?_, fun e => absurd e (by show ¬ _ = true; rw [hb]; simp), fun _ => ⟨full_mk_leaf (by simp; omega) (.inl (by simp; omega)), full_mk_leaf (by simp; omega) (.inl (by simp; omega))⟩, ?_⟩
    · intro y hy
      simp only [two, hb] at hy
      simp at hy
      rcases hy with rfl | rfl <;> exact .inl ⟨rfl, rfl⟩
    · rw [allL_two]; simp [T.all, allL]
  · rw [shT_one (t := .mk ps []) (show ps.length ≤ 4 by omega) (show ([] : List T).length ≤ 4 by simp)]
    refine ⟨?_, fun _ => full_mk_leaf (by omega) ?_, fun e => absurd e (by show ¬ bareT.bare = false; rw [bare_bareT]; simp), by rw [allL_two]; simp [T.all, allL, bareT]⟩
    · intro y hy
      simp only [two, bare_bareT, if_true, List.mem_singleton] at hy
      subst hy; exact .inl ⟨rfl, rfl⟩
    · cases r with
      | false => exact .inl (h2 rfl)
      | true =>
        by_cases e : ps.length = 1
        · exact .inr ⟨rfl, e⟩
        · exact .inl (by omega)
theorem shT_out_br {h : Nat} {ks : List T} {r : Bool} (h5 : ks.length ≤ 5) (h1 : 2 ≤ ks.length) (hf : ∀ x ∈ ks, x.full false = true) (he : ∀ x ∈ ks, Ev h x) : PutOut (h + 1) r (allL ks) (shT (.mk [] ks) bareT) := by
  have hk : ks ≠ [] := by rintro rfl; simp at h1
  by_cases h' : 4 < ks.length
  · rw [shT_branch h']
    have hb : (T.mk [] (ks.drop 3)).bare = false := not_bare (by simp; omega)
    have m1 : ∀ x ∈ ks.take 3, x ∈ ks := fun x hx => List.mem_of_mem_take hx
    have m2 : ∀ x ∈ ks.drop 3, x ∈ ks := fun x hx => List.mem_of_mem_drop hx
    have n1 : ks.take 3 ≠ [] := by intro e; have := congrArg List.length e; rw [List.length_take, List.length_nil] at this; omega
    have n2 : ks.drop 3 ≠ [] := by intro e; have := congrArg List.length e; simp at this; omega
    refine ⟨?_, fun e => absurd e (by show ¬ _ = true; rw [hb]; simp), fun _ => ⟨full_mk_br (by simp; omega) (by simp; omega) (fun x hx => hf x (m1 x hx)), full_mk_br (by simp; omega) (by simp; omega) (fun x hx => hf x (m2 x hx))⟩, ?_⟩
    · intro y hy
      simp only [two, hb] at hy
      simp at hy
      rcases hy with rfl | rfl
      · exact .inr ⟨n1, fun x hx => he x (m1 x hx)⟩
      · exact .inr ⟨n2, fun x hx => he x (m2 x hx)⟩
    · rw [allL_two]
      simp only [T.all, List.nil_append]
      rw [← allL_append, List.take_append_drop]
  · rw [shT_one (t := .mk [] ks) (show ([] : List PB).length ≤ 4 by simp) (show ks.length ≤ 4 by omega)]
    refine ⟨?_, fun _ => full_mk_br h1 (by omega) hf, fun e => absurd e (by show ¬ bareT.bare = false; rw [bare_bareT]; simp), by rw [allL_two]; simp [T.all, allL, bareT]⟩
    intro y hy
    simp only [two, bare_bareT, if_true, List.mem_singleton] at hy
    subst hy; exact .inr ⟨hk, he⟩
theorem putF_out : ∀ (h : Nat) (r : Bool) (t : T) (p : PB), PutIn h r t → PutOut h r (insP t.all p) (putF h t p)
  | 0, r, t, p, g => g.ev.elim
  | h + 1, r, .mk ps ks, p, g => by
    by_cases hk : ks = []
    · subst hk
      obtain ⟨hh, hl, hr, ha⟩ := g.leaf
      obtain rfl : h = 0 := by omega
      rw [putF]
      simp only [T.ks, T.ps, if_true]
      have := shT_out_leaf (ps := insP ps p) (r := r) (by have := insP_len ps p; omega) (insP_pos ps p).2 (fun e => by have := hr e; have := (insP_pos ps p).1; omega)
      simpa [T.all, allL] using this
    · obtain ⟨rfl, h1, h2, h3, h4, h5⟩ := g.kids hk
      obtain ⟨q1, q2, q3⟩ := kidOf_spec p.1 hk
      obtain ⟨a1, a2, a3⟩ := kid_apart h3 h5 q1 q2 q3
      have ih := putF_out h false _ p (g.kid hk p.1)
      rw [putF]
      simp only [T.ks, T.ps, hk, if_false]
      rw [insK_two _ _ _ q1]
      generalize putF h (tAt ks (kidOf ks p.1)) p = x at *
      have htl := two_len x
      have hm : ∀ y ∈ ks.take (kidOf ks p.1) ++ two x ++ ks.drop (kidOf ks p.1 + 1), y ∈ ks ∨ y ∈ two x := by
        intro y hy
        rcases List.mem_append.1 hy with hy | hy
        · rcases List.mem_append.1 hy with hy | hy
          · exact .inl (List.mem_of_mem_take hy)
          · exact .inr hy
        · exact .inl (List.mem_of_mem_drop hy)
      have := shT_out_br (h := h) (r := r) (ks := ks.take (kidOf ks p.1) ++ two x ++ ks.drop (kidOf ks p.1 + 1)) (by simp only [List.length_append, List.length_take, List.length_drop]; omega) (by simp only [List.length_append, List.length_take, List.length_drop]; omega)
        (fun y hy => (hm y hy).elim (h3 y) (ih.fulls y)) (fun y hy => (hm y hy).elim (h4 y) (ih.ev y))
      have e : allL (ks.take (kidOf ks p.1) ++ two x ++ ks.drop (kidOf ks p.1 + 1)) = insP (T.mk [] ks).all p := by
        rw [allL_append, allL_append, ih.all, show (T.mk [] ks).all = allL ks by simp [T.all], all_split q1, insP_left _ a1, insP_right _ a2, List.append_assoc]
      rwa [e] at this
/-- The root behind the put. -/
def rootT (x : T × T) : T := if x.2.bare = true then x.1 else .mk [] [x.1, x.2]
theorem rootT_full {h : Nat} {l : List PB} {x : T × T} (g : PutOut h true l x) : (rootT x).full true = true ∧ (∃ h, Ev h (rootT x)) ∧ (rootT x).all = l := by
  unfold rootT
  cases e : x.2.bare with
  | true =>
    refine ⟨g.one e, ⟨h, g.ev _ (by simp [two, e])⟩, ?_⟩
    have := g.all
    rw [two, e] at this
    simpa [allL] using this
  | false =>
    obtain ⟨h1, h2⟩ := g.both e
    have ht : two x = [x.1, x.2] := by simp [two, e]
    refine ⟨full_mk_br (by simp) (by simp) (by simp; exact ⟨h1, h2⟩), ⟨h + 1, .inr ⟨by simp, fun y hy => g.ev y (by rw [ht]; exact hy)⟩⟩, ?_⟩
    have := g.all
    rw [ht] at this
    simpa [T.all] using this
theorem pOkF_of (l : List PB) (hk : ∀ x ∈ l, kOk x.1 = true ∧ vOk x.2 = true) (ha : Asc l) : ∀ f k, k + f ≤ l.length → pOkF l f k = true
  | 0, k, _ => rfl
  | f + 1, k, h => by
    have hlt : k < l.length := by omega
    have := hk (pAtB l k) (by rw [pAtB_lt hlt]; exact List.getElem_mem hlt)
    rw [pOkF, this.1, this.2, pOkF_of l hk ha f (k + 1) (by omega)]
    by_cases e : k = 0
    · simp [e]
    · have := ha.at (show k - 1 < k by omega) hlt
      simp only [klt] at this
      simp [this]
theorem pOk_of {l : List PB} (hl : l.length ≤ 200) (hk : ∀ x ∈ l, kOk x.1 = true ∧ vOk x.2 = true) (ha : Asc l) : pOk l = true := by
  simp [pOk, hl, pOkF_of l hk ha l.length 0 (by omega)]
theorem pOkF_mem (l : List PB) : ∀ f k, pOkF l f k = true → ∀ i, k ≤ i → i < k + f → kOk (pAtB l i).1 = true ∧ vOk (pAtB l i).2 = true
  | 0, k, _, i, h1, h2 => by omega
  | f + 1, k, h, i, h1, h2 => by
    rw [pOkF] at h
    simp only [Bool.and_eq_true] at h
    by_cases e : i = k
    · rw [e]; exact ⟨h.1.1.1, h.1.1.2⟩
    · exact pOkF_mem l f (k + 1) h.2 i (by omega) (by omega)
theorem pOk_mem {l : List PB} (h : pOk l = true) {x : PB} (hx : x ∈ l) : kOk x.1 = true ∧ vOk x.2 = true := by
  simp only [pOk, Bool.and_eq_true] at h
  obtain ⟨i, hi, rfl⟩ := List.mem_iff_getElem.1 hx
  rw [← pAtB_lt hi]
  exact pOkF_mem l l.length 0 h.2 i (by omega) (by omega)
theorem pOk_ins {l : List PB} {p : PB} (h : pOk l = true) (hk : kOk p.1 = true) (hv : vOk p.2 = true) (hl : (insP l p).length ≤ 200) : pOk (insP l p) = true :=
  pOk_of hl (fun _ hx => (insP_mem hx).elim (fun e => e ▸ ⟨hk, hv⟩) (fun hx => pOk_mem h hx)) (insP_asc (pOk_asc h))
end Go.Proofs.Ytkflneeifllpgaa
/-
  Rows of subs; l03Split and l03Way of the specification.
-/
namespace Go.Proofs.Ytkflneeifllpgaa
open Go.RowKit
theorem Rw.take {w : World} {S : Nat → Prop} {a : Option Addr} {n c m : Nat} {xs : List Value} (h : Rw w S (.slice a n c) n xs) (hm : m ≤ n) (s : Nat) : Rw w S (.slice a m c) m (xs.take (m * s)) := by
  obtain ⟨a', c', e, h2, h3, h4, hn, h5⟩ := h
  cases e
  refine ⟨a, c, rfl, by omega, h3, fun e => by rw [e]; simp, hn, fun hp => ?_⟩
  obtain ⟨b, off, h6, h7, h8, h9⟩ := h5 (by omega)
  refine ⟨b, off, h6, h7, h8, fun j u hu => h9 j u ?_⟩
  rw [List.getElem?_take] at hu
  split at hu
  · exact hu
  · cases hu
theorem Rw.drop {w : World} {S : Nat → Prop} {b off n c m : Nat} {xs : List Value} (h : Rw w S (.slice (some ⟨b, off, none⟩) n c) n xs) (hm : m ≤ n) (s : Nat) (h0 : n - m = 0 → xs.drop (m * s) = []) : Rw w S (.slice (some ⟨b, off + m * s, none⟩) (n - m) (c - m)) (n - m) (xs.drop (m * s)) := by
  obtain ⟨a', c', e, h2, h3, h4, hn, h5⟩ := h
  cases e
  refine ⟨_, _, rfl, by omega, by omega, h0, fun e => (by cases e), fun hp => ?_⟩
  obtain ⟨b', off', h6, h7, h8, h9⟩ := h5 (by omega)
  cases h6
  refine ⟨b, off + m * s, rfl, h7, h8, fun j u hu => ?_⟩
  rw [List.getElem?_drop] at hu
  have := h9 _ u hu
  rwa [← Nat.add_assoc] at this
theorem ncs_take (V : List V3) : ∀ m, (ncs V).take (m * 3) = ncs (V.take m) := by
  induction V with
  | nil => intro m; simp [ncs]
  | cons p V ih =>
    intro m
    cases m with
    | zero => simp [ncs]
    | succ m =>
      rw [show (m + 1) * 3 = m * 3 + 1 + 1 + 1 by omega, ncs, List.take_succ_cons, List.take_succ_cons, List.take_succ_cons, ih, List.take_succ_cons, ncs]
theorem ncs_drop (V : List V3) : ∀ m, (ncs V).drop (m * 3) = ncs (V.drop m) := by
  induction V with
  | nil => intro m; simp [ncs]
  | cons p V ih =>
    intro m
    cases m with
    | zero => simp
    | succ m =>
      rw [show (m + 1) * 3 = m * 3 + 1 + 1 + 1 by omega, ncs, List.drop_succ_cons, List.drop_succ_cons, List.drop_succ_cons, ih, List.drop_succ_cons]
theorem mkV_take (L : Nat → Bool) (P K : Nat → Value) (n m : Nat) (h : m ≤ n) : (mkV L P K n).take m = mkV L P K m := by
  apply List.ext_getElem
  · simp [mkV]; omega
  · intro i h1 h2; simp [mkV]
theorem mkV_drop (L : Nat → Bool) (P K : Nat → Value) (n m : Nat) : (mkV L P K n).drop m = mkV (fun i => L (m + i)) (fun i => P (m + i)) (fun i => K (m + i)) (n - m) := by
  apply List.ext_getElem
  · simp [mkV]
  · intro i h1 h2; simp [mkV]
theorem mkV_app (L1 L2 : Nat → Bool) (P1 K1 P2 K2 : Nat → Value) (n1 n2 : Nat) : mkV L1 P1 K1 n1 ++ mkV L2 P2 K2 n2 = mkV (fun i => if i < n1 then L1 i else L2 (i - n1)) (fun i => if i < n1 then P1 i else P2 (i - n1)) (fun i => if i < n1 then K1 i else K2 (i - n1)) (n1 + n2) := by
  apply List.ext_getElem
  · simp [mkV]
  · intro i h1 h2
    by_cases hi : i < n1
    · rw [List.getElem_append_left (by simpa [mkV] using hi)]; simp [mkV, hi]
    · rw [List.getElem_append_right (by simpa [mkV] using hi)]; simp [mkV, hi]
/-- The slice v leads to the subs ts. -/
def SubR (w : World) (S : Nat → Prop) (v : Value) (ts : List T) : Prop := ∃ L P K, Rw w S v ts.length (ncs (mkV L P K ts.length)) ∧ ∀ i, i < ts.length → Sub w S (L i) (P i) (K i) (tAt ts i)
theorem SubR.to {w w' : World} {S R : Nat → Prop} {v : Value} {ts : List T} (h : SubR w S v ts) (ho : Only R w w') (hR : ∀ x, S x → x < w.heap.size → ¬ R x) : SubR w' S v ts := by
  obtain ⟨L, P, K, h1, h2⟩ := h
  exact ⟨L, P, K, h1.to ho hR, fun i hi => (h2 i hi).to ho hR⟩
theorem SubR.kept {w w' : World} {S : Nat → Prop} {v : Value} {ts : List T} (h : SubR w S v ts) (hb : Below w.heap.size w w') : SubR w' S v ts := h.to (only_of_below hb (fun _ => False)) (fun _ _ _ h => h)
theorem SubR.mono {w : World} {S R : Nat → Prop} {v : Value} {ts : List T} (h : SubR w S v ts) (hR : ∀ x, S x → x < w.heap.size → R x) : SubR w R v ts := by
  obtain ⟨L, P, K, h1, h2⟩ := h
  exact ⟨L, P, K, h1.mono hR, fun i hi => (h2 i hi).mono hR⟩
theorem SubR.shape {w : World} {S : Nat → Prop} {v : Value} {ts : List T} (h : SubR w S v ts) : ∃ a n c, v = .slice a n c ∧ Hid (n = ts.length) := by
  obtain ⟨L, P, K, h1, h2⟩ := h
  obtain ⟨a, c, e, _⟩ := h1.shape
  exact ⟨a, _, c, e, rfl⟩
/-- A sub of kids alone. -/
theorem SubR.sub {w : World} {S : Nat → Prop} {v : Value} {ts : List T} (h : SubR w S v ts) (hne : ts ≠ []) : Sub w S false (.slice none 0 0) v (.mk [] ts) := by
  obtain ⟨L, P, K, h1, h2⟩ := h
  exact .mk false _ v [] ts L P K (by have := List.length_pos_iff.2 hne; symm; exact decide_eq_false (by omega)) (rw_nil _ _) h1 h2
theorem Sub.row {w : World} {S : Nat → Prop} {lf : Bool} {pv kv : Value} {t : T} (h : Sub w S lf pv kv t) : SubR w S kv t.ks := by
  cases h with
  | mk _ _ _ ps ks L P K hlf hP hK hk => exact ⟨L, P, K, hK, hk⟩
theorem SubR.take {w : World} {S : Nat → Prop} {a : Option Addr} {n c m : Nat} {ts : List T} (h : SubR w S (.slice a n c) ts) (hm : m ≤ n) : SubR w S (.slice a m c) (ts.take m) := by
  obtain ⟨L, P, K, h1, h2⟩ := h
  have hn := h1.len.1
  subst hn
  have hl : (ts.take m).length = m := by rw [List.length_take]; omega
  refine ⟨L, P, K, ?_, fun i hi => ?_⟩
  · have := h1.take hm 3
    rw [ncs_take, mkV_take _ _ _ _ _ hm] at this
    rw [hl]; exact this
  · rw [hl] at hi; rw [tAt_take hi]; exact h2 i (by omega)
theorem SubR.drop {w : World} {S : Nat → Prop} {b off n c m : Nat} {ts : List T} (h : SubR w S (.slice (some ⟨b, off, none⟩) n c) ts) (hm : m ≤ n) : SubR w S (.slice (some ⟨b, off + m * 3, none⟩) (n - m) (c - m)) (ts.drop m) := by
  obtain ⟨L, P, K, h1, h2⟩ := h
  have hn := h1.len.1
  subst hn
  refine ⟨fun i => L (m + i), fun i => P (m + i), fun i => K (m + i), ?_, fun i hi => ?_⟩
  · have := h1.drop hm 3 (fun e => by rw [ncs_drop, mkV_drop, e]; rfl)
    rw [ncs_drop, mkV_drop] at this
    rw [List.length_drop]; exact this
  · rw [List.length_drop] at hi; rw [tAt_drop]; exact h2 (m + i) (by omega)
def SubsPost (w : World) (S : Nat → Prop) (ts : List T) (e : Ending) (w' : World) : Prop := ∃ v, e = .returned v ∧ SubR w' (fun y => S y ∨ w.heap.size ≤ y) v ts ∧ Below w.heap.size w w'
theorem subR_two {w : World} {S : Nat → Prop} {g : Nat} {l1 l2 : Bool} {p1 k1 p2 k2 : Value} {t1 t2 : T} (hB : Bk w g 74 [.bool l1, p1, k1, .bool l2, p2, k2]) (hS : S g) (h1 : Sub w S l1 p1 k1 t1) (h2 : Sub w S l2 p2 k2 t2) : SubR w S (.slice (some ⟨g, 0, none⟩) 2 2) [t1, t2] := by
  refine ⟨fun i => if i = 0 then l1 else l2, fun i => if i = 0 then p1 else p2, fun i => if i = 0 then k1 else k2, hB.rw (Nat.le_refl _) (by omega) (fun h => by omega) _ hS, fun i hi => ?_⟩
  simp at hi
  by_cases e : i = 0
  · subst e; exact h1
  · obtain rfl : i = 1 := by omega
    exact h2
theorem subR_one {w : World} {S : Nat → Prop} {g : Nat} {l1 : Bool} {p1 k1 : Value} {t1 : T} (hB : Bk w g 74 [.bool l1, p1, k1]) (hS : S g) (h1 : Sub w S l1 p1 k1 t1) : SubR w S (.slice (some ⟨g, 0, none⟩) 1 1) [t1] := by
  refine ⟨fun _ => l1, fun _ => p1, fun _ => k1, hB.rw (Nat.le_refl _) (by omega) (fun h => by omega) _ hS, fun i hi => ?_⟩
  simp at hi; subst hi; exact h1
theorem Sub.leafOf {w : World} {S : Nat → Prop} {pv : Value} {ps : List PB} (h : Pr w S pv ps) : Sub w S true pv (.slice none 0 0) (.mk ps []) := .mk true pv _ ps [] (fun _ => false) (fun _ => .slice none 0 0) (fun _ => .slice none 0 0) rfl h (rw_nil _ _) (fun i hi => by simp at hi)
set_option maxHeartbeats 2000000 in
theorem specSplit_any (S : Nat → Prop) (lf : Bool) (ap ak : Option Addr) (np cp nk ck : Nat) (t : T) (w : World) (h : Sub w S lf (.slice ap np cp) (.slice ak nk ck) t) :
    Calls Try.prog 85 #[.agg #[.bool lf, .slice ap np cp, .slice ak nk ck]] w fun e w' => SubsPost w S (splT t) e w' := by
  obtain ⟨_, _, _, _, _, _, e1, e2, HNP, HNK, b1, b2, hlf, hP⟩ := h.shape
  cases e1
  cases e2
  have hcp := (Rw.len hP).2
  have HR := hid h.row
  have hck : nk ≤ ck ∧ ck ≤ 9223372036854775807 := by
    obtain ⟨L, P, K, h1, _⟩ := h.row
    exact h1.len.2
  have H0 := hid h
  have HP := hid hP
  have HB0 := hid (below_new (o := .cells #[.bool lf, .slice ap np cp, .slice ak nk ck] 74) (w := w) (Below.refl _ _))
  have K0 := hid (Bk.new w 74 [.bool lf, .slice ap np cp, .slice ak nk ck])
  have c0 := K0.out.cell (j := 0) rfl
  have c1 := K0.out.cell (j := 1) rfl
  have c2 := K0.out.cell (j := 2) rfl
  clear h hP
  obtain ⟨hcp1, hcp2⟩ := hcp
  obtain ⟨hck1, hck2⟩ := hck
  by_cases hk : nk = 0
  · have hlf' : lf = true := by rw [hlf, hk]; rfl
    have HKS : Hid (t.ks = []) := List.eq_nil_of_length_eq_zero (by rw [← HNK.out]; exact hk)
    subst hlf' hk
    by_cases h4 : 4 < np
    · have h4' : (4 : Int) < (np : Int) := by omega
      have h4a : (3 : Int) ≤ (np : Int) := by omega
      have h4b : (3 : Int) ≤ (cp : Int) := by omega
      have HT : Hid (splT t = [.mk (t.ps.take 3) [], .mk (t.ps.drop 3) []]) := by show _ = _; rw [splT, if_pos ⟨HKS.out, by rw [← HNP.out]; exact h4⟩]
      obtain ⟨b, off, hab, _, _, _⟩ := (HP.out).at (by omega)
      subst hab
      have hn : np = t.ps.length := HNP.out
      have HQ : Hid (Pr w S (.slice (some ⟨b, off, none⟩) 3 cp) (t.ps.take 3) ∧ Pr w S (.slice (some ⟨b, off + 3 * 2, none⟩) (np - 3) (cp - 3)) (t.ps.drop 3)) := by
        have hp := HP.out
        unfold Pr at hp
        rw [← hn] at hp
        refine ⟨?_, ?_⟩
        · have := hp.take (m := 3) (by omega) 2
          rw [pcs_take] at this
          unfold Pr
          rw [List.length_take, ← hn, Nat.min_eq_left (by omega)]
          exact this
        · have := hp.drop (m := 3) (by omega) 2 (by omega)
          rw [pcs_drop] at this
          unfold Pr
          rw [List.length_drop, ← hn]
          exact this
      have HFIN : Hid (SubsPost w S (splT t) (.returned (.slice (some ⟨w.heap.size + 1, 0, none⟩) 2 2)) ((w.alloc (.cells #[.bool true, .slice (some ⟨b, off, none⟩) np cp, .slice ak 0 ck] 74)).alloc (.cells #[.bool true, .slice (some ⟨b, off, none⟩) 3 cp, .slice none 0 0, .bool true, .slice (some ⟨b, off + 6, none⟩) (np - 3) (cp - 3), .slice none 0 0] 74)).drew) := by
        have hb : Below w.heap.size w ((w.alloc (.cells #[.bool true, .slice (some ⟨b, off, none⟩) np cp, .slice ak 0 ck] 74)).alloc (.cells #[.bool true, .slice (some ⟨b, off, none⟩) 3 cp, .slice none 0 0, .bool true, .slice (some ⟨b, off + 6, none⟩) (np - 3) (cp - 3), .slice none 0 0] 74)).drew := Below.then' (below_new (below_new (Below.refl _ _))) (below_drew _) (Nat.le_refl _)
        refine ⟨_, rfl, ?_, hb⟩
        rw [HT.out]
        have kb := (Bk.new (w.alloc (.cells #[.bool true, .slice (some ⟨b, off, none⟩) np cp, .slice ak 0 ck] 74)) 74 [.bool true, .slice (some ⟨b, off, none⟩) 3 cp, .slice none 0 0, .bool true, .slice (some ⟨b, off + 6, none⟩) (np - 3) (cp - 3), .slice none 0 0]).below (below_drew _)
        refine subR_two (by simpa using kb) (.inr (by omega)) (Sub.leafOf ((HQ.out.1.below hb).mono (fun y hy _ => .inl hy))) (Sub.leafOf ((HQ.out.2.below hb).mono (fun y hy _ => .inl hy)))
      clear hn HP HR H0 hlf
      go_enter Try.func85, Try.ntmps85
      go_wp2_with fail
      go_region
      all_goals (go_wp2_with fail)
      all_goals go_ret
      all_goals exact HFIN.out
    · have h4' : ¬ (4 : Int) < (np : Int) := by omega
      have HT : Hid (splT t = [t]) := by show _ = _; rw [splT, if_neg (fun e => by have := e.2; rw [← HNP.out] at this; omega), if_neg (by rw [HKS.out]; simp)]
      have HFIN : Hid (SubsPost w S (splT t) (.returned (.slice (some ⟨w.heap.size + 1, 0, none⟩) 1 1)) ((w.alloc (.cells #[.bool true, .slice ap np cp, .slice ak 0 ck] 74)).alloc (.cells #[.bool true, .slice ap np cp, .slice ak 0 ck] 74))) := by
        have hb : Below w.heap.size w ((w.alloc (.cells #[.bool true, .slice ap np cp, .slice ak 0 ck] 74)).alloc (.cells #[.bool true, .slice ap np cp, .slice ak 0 ck] 74)) := below_new (below_new (Below.refl _ _))
        refine ⟨_, rfl, ?_, hb⟩
        rw [HT.out]
        have kb := (Bk.new (w.alloc (.cells #[.bool true, .slice ap np cp, .slice ak 0 ck] 74)) 74 [.bool true, .slice ap np cp, .slice ak 0 ck])
        exact subR_one (by simpa using kb) (.inr (by omega)) ((H0.out.kept hb).mono (fun y hy _ => .inl hy))
      clear HP HR H0 hlf
      go_enter Try.func85, Try.ntmps85
      go_wp2
      go_ret
      exact HFIN.out
  · have hlf' : lf = false := by rw [hlf]; exact decide_eq_false hk
    subst hlf'
    have HKS : Hid (t.ks ≠ []) := fun e => hk (by rw [HNK.out, e]; rfl)
    by_cases h4 : 4 < nk
    · have h4' : (4 : Int) < (nk : Int) := by omega
      have h4a : (3 : Int) ≤ (nk : Int) := by omega
      have h4b : (3 : Int) ≤ (ck : Int) := by omega
      have HT : Hid (splT t = [.mk [] (t.ks.take 3), .mk [] (t.ks.drop 3)]) := by show _ = _; rw [splT, if_neg (fun e => HKS.out e.1), if_pos (by rw [← HNK.out]; exact h4)]
      obtain ⟨b, off, hab⟩ : ∃ b off, ak = some ⟨b, off, none⟩ := by
        obtain ⟨L, P, K, h1, _⟩ := HR.out
        obtain ⟨b, off, e, _⟩ := h1.at (by omega)
        exact ⟨b, off, e⟩
      subst hab
      have HQ : Hid (SubR w S (.slice (some ⟨b, off, none⟩) 3 ck) (t.ks.take 3) ∧ SubR w S (.slice (some ⟨b, off + 3 * 3, none⟩) (nk - 3) (ck - 3)) (t.ks.drop 3)) := ⟨HR.out.take (by omega), HR.out.drop (by omega)⟩
      have HFIN : Hid (SubsPost w S (splT t) (.returned (.slice (some ⟨w.heap.size + 1, 0, none⟩) 2 2)) ((w.alloc (.cells #[.bool false, .slice ap np cp, .slice (some ⟨b, off, none⟩) nk ck] 74)).alloc (.cells #[.bool false, .slice none 0 0, .slice (some ⟨b, off, none⟩) 3 ck, .bool false, .slice none 0 0, .slice (some ⟨b, off + 9, none⟩) (nk - 3) (ck - 3)] 74)).drew) := by
        have hb : Below w.heap.size w ((w.alloc (.cells #[.bool false, .slice ap np cp, .slice (some ⟨b, off, none⟩) nk ck] 74)).alloc (.cells #[.bool false, .slice none 0 0, .slice (some ⟨b, off, none⟩) 3 ck, .bool false, .slice none 0 0, .slice (some ⟨b, off + 9, none⟩) (nk - 3) (ck - 3)] 74)).drew := Below.then' (below_new (below_new (Below.refl _ _))) (below_drew _) (Nat.le_refl _)
        refine ⟨_, rfl, ?_, hb⟩
        rw [HT.out]
        have kb := (Bk.new (w.alloc (.cells #[.bool false, .slice ap np cp, .slice (some ⟨b, off, none⟩) nk ck] 74)) 74 [.bool false, .slice none 0 0, .slice (some ⟨b, off, none⟩) 3 ck, .bool false, .slice none 0 0, .slice (some ⟨b, off + 9, none⟩) (nk - 3) (ck - 3)]).below (below_drew _)
        have hl : t.ks.length = nk := HNK.out.symm
        refine subR_two (by simpa using kb) (.inr (by omega)) (((HQ.out.1.kept hb).mono (fun y hy _ => .inl hy)).sub ?_) (((HQ.out.2.kept hb).mono (fun y hy _ => .inl hy)).sub ?_)
        · intro e; have := congrArg List.length e; rw [List.length_take, List.length_nil] at this; omega
        · intro e; have := congrArg List.length e; rw [List.length_drop, List.length_nil] at this; omega
      clear HR H0 hlf
      go_enter Try.func85, Try.ntmps85
      go_wp2_with fail
      go_region
      all_goals (go_wp2_with fail)
      all_goals go_ret
      all_goals exact HFIN.out
    · have h4' : ¬ (4 : Int) < (nk : Int) := by omega
      have HT : Hid (splT t = [t]) := by show _ = _; rw [splT, if_neg (fun e => HKS.out e.1), if_neg (by rw [← HNK.out]; omega)]
      have HFIN : Hid (SubsPost w S (splT t) (.returned (.slice (some ⟨w.heap.size + 1, 0, none⟩) 1 1)) ((w.alloc (.cells #[.bool false, .slice ap np cp, .slice ak nk ck] 74)).alloc (.cells #[.bool false, .slice ap np cp, .slice ak nk ck] 74))) := by
        have hb : Below w.heap.size w ((w.alloc (.cells #[.bool false, .slice ap np cp, .slice ak nk ck] 74)).alloc (.cells #[.bool false, .slice ap np cp, .slice ak nk ck] 74)) := below_new (below_new (Below.refl _ _))
        refine ⟨_, rfl, ?_, hb⟩
        rw [HT.out]
        have kb := (Bk.new (w.alloc (.cells #[.bool false, .slice ap np cp, .slice ak nk ck] 74)) 74 [.bool false, .slice ap np cp, .slice ak nk ck])
        exact subR_one (by simpa using kb) (.inr (by omega)) ((H0.out.kept hb).mono (fun y hy _ => .inl hy))
      clear HR H0 hlf
      go_enter Try.func85, Try.ntmps85
      go_wp2
      go_ret
      exact HFIN.out
set_option maxHeartbeats 2000000 in
theorem specWay_any (S : Nat → Prop) (lf : Bool) (ap ak : Option Addr) (np cp nk ck : Nat) (t : T) (k : ByteArray) (w : World) (h : Sub w S lf (.slice ap np cp) (.slice ak nk ck) t) (hs : t.ks.length ≤ 1048576) :
    Calls Try.prog 86 #[.agg #[.bool lf, .slice ap np cp, .slice ak nk ck], .string k] w fun e w' => e = .returned (.int .i64 (wayOf t.ks k : Nat)) ∧ Below w.heap.size w w' := by
  obtain ⟨_, _, _, _, _, _, e1, e2, HNP, HNK, b1, b2, -, -⟩ := h.shape
  cases e1
  cases e2
  have hnk : nk ≤ 1048576 := by rw [HNK.out]; exact hs
  have HB0 := hid (below_new (o := .cells #[.bool lf, .slice ap np cp, .slice ak nk ck] 74) (w := w) (Below.refl _ _))
  have K0 := hid (Bk.new w 74 [.bool lf, .slice ap np cp, .slice ak nk ck])
  have H0 := hid h
  clear h hs b1 b2
  go_enter Try.func86, Try.ntmps86
  go_wp2_with fail
  go_loopw [5, 6] (fun x y wr => ∃ i a f : Nat, x = .int .i64 (a : Int) ∧ y = .int .i64 (i : Int) ∧ 1 ≤ i ∧ i ≤ nk + 1 ∧ Hid (wayF t.ks k f i a = wayOf t.ks k) ∧ Hid (t.ks.length ≤ i + f) ∧ Hid (Bk wr w.heap.size 74 [.bool lf, .slice ap np cp, .slice ak nk ck]) ∧ Hid (Below w.heap.size w wr)) (fun _ y _ => nk + 1 - (intOf y).toNat)
  case atStart => exact ⟨1, 0, t.ks.length, rfl, rfl, Nat.le_refl _, by omega, rfl, Nat.le_add_left _ _, K0.out, HB0.out⟩
  case round =>
    obtain ⟨i, a, f, rfl, rfl, hi1, hi2, HW, HF, HK, HB⟩ := hrel
    have c2 := HK.out.cell (j := 2) rfl
    by_cases hlt : i < nk
    · have hlt' : (i : Int) < (nk : Int) := by omega
      have hi0 : (0 : Int) ≤ (i : Int) := by omega
      obtain ⟨g, off, hak, _, _, hkid⟩ := (H0.out.kept HB.out).kids (by omega)
      subst hak
      obtain ⟨l1, ap1, np1, cp1, ak1, nk1, ck1, x0, x1, x2, hs1⟩ := hkid i hlt
      have HS1 := hid hs1
      clear hkid hs1
      go_wp2_with fail
      refine (specLeast_any _ _ l1 ap1 ak1 np1 cp1 nk1 ck1 wr HS1.out).mono ?_
      rintro e w1 ⟨rfl, hb⟩
      have HB1 := hid (Below.then' HB.out hb (Nat.le_refl _))
      have HK1 := hid (HK.out.below hb)
      obtain ⟨f, rfl⟩ : ∃ g, f = g + 1 := ⟨f - 1, by have := HF.out; have := HNK.out; omega⟩
      have HW2 : Hid (wayF t.ks k f (i + 1) (if klt k (tAt t.ks i).least = false then i else a) = wayOf t.ks k) := by
        have := HW.out
        rw [wayF, if_pos (by rw [← HNK.out]; exact hlt)] at this
        exact this
      have HF2 : Hid (t.ks.length ≤ i + 1 + f) := by have := HF.out; show _ ≤ _; omega
      clear hb HW HF x0 x1 x2 HB HK c2 HS1
      generalize (tAt t.ks i).least = z at *
      rcases tri z k with ⟨h1, h2, h3, h4⟩ | rfl | ⟨h1, h2, h3, h4⟩
      · have hz : klt k z = false := h2
        rw [if_pos hz] at HW2
        clear hz
        go_wp2
        go_roundw
        case rel => exact ⟨i + 1, i, f, rfl, by go_num, by omega, by omega, HW2.out, HF2.out, HK1.out, HB1.out⟩
        case measure => simp [intOf]; omega
      · have hz : klt z z = false := klt_irrefl z
        rw [if_pos hz] at HW2
        clear hz
        go_wp2
        go_roundw
        case rel => exact ⟨i + 1, i, f, rfl, by go_num, by omega, by omega, HW2.out, HF2.out, HK1.out, HB1.out⟩
        case measure => simp [intOf]; omega
      · have hz : klt k z = true := h2
        rw [if_neg (by rw [hz]; simp)] at HW2
        clear hz
        go_wp2
        go_roundw
        case rel => exact ⟨i + 1, a, f, rfl, by go_num, by omega, by omega, HW2.out, HF2.out, HK1.out, HB1.out⟩
        case measure => simp [intOf]; omega
    · have hlt' : ¬ (i : Int) < (nk : Int) := by omega
      have HA : Hid (wayOf t.ks k = a) := by
        show _ = _
        rw [← HW.out]
        cases f with
        | zero => rfl
        | succ f => rw [wayF, if_neg (by rw [← HNK.out]; exact hlt)]
      clear HW HF
      go_wp2
      go_ret
      exact ⟨by rw [HA.out]; rfl, HB.out⟩
end Go.Proofs.Ytkflneeifllpgaa
/-
  l03Put of the specification.
-/
namespace Go.Proofs.Ytkflneeifllpgaa
open Go.RowKit
/-- What is kept while a leaf's pairs are gone through: the pair, and the list that is made. -/
structure LeafI (w wr : World) (k v : ByteArray) (o : Value) (l : List PB) : Prop where
  p : Bk wr (w.heap.size + 1) 35 [.string k, .string v]
  o : Ow wr (w.heap.size + 2) o l
  b : Below w.heap.size w wr
  s : w.heap.size + 2 ≤ wr.heap.size
theorem LeafI.keep {w wr w1 : World} {k v : ByteArray} {o : Value} {l : List PB} (h : LeafI w wr k v o l) (hb : Below wr.heap.size wr w1) : LeafI w w1 k v o l := ⟨h.p.below hb, h.o.kept hb, Below.then' h.b hb (Nat.le_refl _), Nat.le_trans h.s hb.size⟩
theorem LeafI.push {w u w2 : World} {k v : ByteArray} {o o' : Value} {l l' : List PB} (h : LeafI w u k v o l) (hO : Ow w2 (w.heap.size + 2) o' l') (hg : u.grownBy w2 o.ownBlock) : LeafI w w2 k v o' l' := by
  have hlt := fun x e => (World.ownsRow.lt h.o x e).1
  have hon : Only (fun y => o.ownBlock = some y) u w2 := only_of_grown hg (fun _ e => e)
  exact ⟨h.p.to hon (fun e => by have := hlt _ e; omega), hO, h.b.trans (hon.below h.b.size (fun b hb e => by have := hlt _ e; omega)), Nat.le_trans h.s hg.size⟩
theorem insS_cons (x : PB) (l : List PB) (p : PB) (d : Bool) : insS (x :: l) p d = (if d = false ∧ klt x.1 p.1 = false then [p] else []) ++ ((if x.1 = p.1 then [] else [x]) ++ insS l p (d || !klt x.1 p.1)) := rfl
theorem drop_pAtB {ps : List PB} {i : Nat} (h : i < ps.length) : ps.drop i = pAtB ps i :: ps.drop (i + 1) := by rw [pAtB_lt h, List.getElem_cons_drop h]
theorem insS_len (l : List PB) (p : PB) : ∀ d, (insS l p d).length ≤ l.length + 1 + l.length := by
  induction l with
  | nil => intro d; simp only [insS]; split <;> simp
  | cons x l ih =>
    intro d
    rw [insS_cons]
    have := ih (d || !klt x.1 p.1)
    simp only [List.length_append, List.length_cons]
    split <;> split <;> simp <;> omega
/-- An owned row of subs, its subs lying in other blocks. -/
def SO (w : World) (base : Nat) (S : Nat → Prop) (v : Value) (ts : List T) : Prop := ∃ L P K, w.ownsRow base 74 3 v ts.length (ncs (mkV L P K ts.length)) ∧ (∀ i, i < ts.length → Sub w S (L i) (P i) (K i) (tAt ts i)) ∧ ∀ y, S y → v.ownBlock ≠ some y
theorem SO.to {w w' : World} {base : Nat} {S R : Nat → Prop} {v : Value} {ts : List T} (h : SO w base S v ts) (ho : Only R w w') (hv : ∀ y, v.ownBlock = some y → ¬ R y) (hR : ∀ y, S y → y < w.heap.size → ¬ R y) : SO w' base S v ts := by
  obtain ⟨L, P, K, h1, h2, h3⟩ := h
  exact ⟨L, P, K, own_kept h1 ho hv, fun i hi => (h2 i hi).to ho hR, h3⟩
theorem SO.kept {w w' : World} {base : Nat} {S : Nat → Prop} {v : Value} {ts : List T} (h : SO w base S v ts) (hb : Below w.heap.size w w') : SO w' base S v ts := h.to (only_of_below hb (fun _ => False)) (fun _ _ h => h) (fun _ _ _ h => h)
theorem SO.shape {w : World} {base : Nat} {S : Nat → Prop} {v : Value} {ts : List T} (h : SO w base S v ts) : ∃ a n c, v = .slice a n c ∧ Hid (n = ts.length) := by
  obtain ⟨L, P, K, h1, _⟩ := h
  obtain ⟨a, c, e⟩ := own_shape h1
  exact ⟨a, _, c, e, rfl⟩
theorem SO.subR {w : World} {base : Nat} {S R : Nat → Prop} {v : Value} {ts : List T} (h : SO w base S v ts) (hv : ∀ y, v.ownBlock = some y → base ≤ y → y < w.heap.size → R y) (hS : ∀ y, S y → y < w.heap.size → R y) : SubR w R v ts := by
  obtain ⟨L, P, K, h1, h2, h3⟩ := h
  exact ⟨L, P, K, rw_own h1 hv, fun i hi => (h2 i hi).mono hS⟩
theorem so_new (w : World) (base : Nat) (hb : base ≤ w.heap.size) : SO (w.alloc (.cells #[] 74)) base (fun _ => False) (.slice (some ⟨w.heap.size, 0, none⟩) 0 0) [] :=
  ⟨fun _ => false, fun _ => .slice none 0 0, fun _ => .slice none 0 0, ⟨rfl, .inr ⟨w.heap.size, 0, #[], rfl, hb, heap_alloc_new w _, Nat.le_refl _, by decide, rfl, rfl⟩⟩, fun i hi => by simp at hi, fun _ h => h.elim⟩
theorem mkV_one {w : World} {S : Nat → Prop} {L : Nat → Bool} {P K : Nat → Value} {ts : List T} (h : ∀ i, i < ts.length → Sub w S (L i) (P i) (K i) (tAt ts i)) : ∀ u ∈ ncs (mkV L P K ts.length), u.oneCell' = true := by
  intro u hu
  obtain ⟨j, hj⟩ := List.mem_iff_getElem?.1 hu
  have hl : (ncs (mkV L P K ts.length)).length = ts.length * 3 := by rw [ncs_length, mkV_length]
  have hjl := (List.getElem?_eq_some_iff.1 hj).1
  have hi : j / 3 < ts.length := by omega
  obtain ⟨c0, c1, c2⟩ := ncs_at (mkV L P K ts.length) (j / 3) (by rw [mkV_length]; exact hi)
  rw [mkV_at _ _ _ _ _ hi] at c0 c1 c2
  obtain ⟨ap, np, cp, ak, nk, ck, e1, e2, _⟩ := (h _ hi).shape
  simp only at c0 c1 c2
  rw [e1] at c1
  rw [e2] at c2
  rcases (show j = j / 3 * 3 ∨ j = j / 3 * 3 + 1 ∨ j = j / 3 * 3 + 2 by omega) with e | e | e
  · rw [e, c0] at hj; cases hj; rfl
  · rw [e, c1] at hj; cases hj; rfl
  · rw [e, c2] at hj; cases hj; rfl
/-- append(row, others...) -/
theorem run_append_subs {w : World} {ty : TypeId} (base : Nat) (S S2 : Nat → Prop) (v src : Value) (ts us : List T) (hown : SO w base S v ts) (hsrc : SubR w S2 src us) (hap : ∀ y, S2 y → v.ownBlock ≠ some y) (hb : ts.length + us.length ≤ 1048576) (hbase : base ≤ w.heap.size) :
    ∃ v' w', (Builtin.append_ #[72, 72] ty #[v, src]).run Try.prog w = .ok v' w' ∧ SO w' base (fun y => (S y ∨ S2 y) ∧ y < w.heap.size) v' (ts ++ us) ∧ w.grownBy w' v.ownBlock ∧ (v'.ownBlock = v.ownBlock ∨ v'.ownBlock = some w.heap.size) := by
  obtain ⟨i, hi, hz, hsz, hby⟩ := info_of infoSub
  obtain ⟨L, P, K, h1, h2, h3⟩ := hown
  obtain ⟨L2, P2, K2, k1, k2⟩ := hsrc
  obtain ⟨v', w', hr, ho, hg, ha⟩ := run_append_row_at (P := Try.prog) (w := w) base 72 ty 74 i _ 3 56 Try.underlying72 hi hz hsz hby rfl (by decide) v ts.length _ h1 S2 src us.length _ k1 (by rw [ncs_length, mkV_length]) (mkV_one k2) (by unfold maxLen; omega) (by omega) hbase
  have hon : Only (fun y => v.ownBlock = some y) w w' := only_of_grown hg (fun _ e => e)
  rw [← ncs_append, mkV_app] at ho
  refine ⟨v', w', hr, ⟨_, _, _, by rw [List.length_append]; exact ho, fun j hj => ?_, fun y hy => ?_⟩, hg, ha⟩
  · rw [List.length_append] at hj
    by_cases e : j < ts.length
    · simp only [e, if_true]
      rw [tAt_app1 e]
      exact ((h2 j e).mono (R := fun y => (S y ∨ S2 y) ∧ y < w.heap.size) (fun y hy hl => ⟨.inl hy, hl⟩)).to hon (fun y hy _ => hy.1.elim (h3 y) (hap y))
    · simp only [e, if_false]
      rw [tAt_app2 (by omega)]
      exact ((k2 (j - ts.length) (by omega)).mono (R := fun y => (S y ∨ S2 y) ∧ y < w.heap.size) (fun y hy hl => ⟨.inr hy, hl⟩)).to hon (fun y hy _ => hy.1.elim (h3 y) (hap y))
  · rcases ha with e | e
    · rw [e]; exact hy.1.elim (h3 y) (hap y)
    · rw [e]; intro h; cases h; exact absurd hy.2 (Nat.lt_irrefl _)
theorem wpList_append_subs {w : World} {ops : Array Oper} {rest : List Oper} {o : Oper} {a : Act} {Q : Exit → Act → World → Prop} (hgd : o.guard = none) (s x : Operand)
    (ho : o.op = .call { callee := .builtin .append, args := #[s, x], argTypes := #[72, 72] }) (base : Nat) (S S2 : Nat → Prop) (v src : Value) (ts us : List T) (hs : a.eval s = v) (hown : SO w base S v ts) (hx : a.eval x = src) (hsrc : SubR w S2 src us) (hap : ∀ y, S2 y → v.ownBlock ≠ some y) (hb : ts.length + us.length ≤ 1048576) (hbase : base ≤ w.heap.size)
    (h : ∀ v' w', SO w' base (fun y => (S y ∨ S2 y) ∧ y < w.heap.size) v' (ts ++ us) → w.grownBy w' v.ownBlock → (v'.ownBlock = v.ownBlock ∨ v'.ownBlock = some w.heap.size) → wpList Try.prog ops Q rest (a.put o.dst v') w') : wpList Try.prog ops Q (o :: rest) a w := by
  refine wpList_plain hgd fun K hK => ?_
  obtain ⟨v', w', hr, h2, h3, h4⟩ := run_append_subs (w := w) (ty := o.type) base S S2 v src ts us hown hsrc hap hb hbase
  unfold Oper.wp execOp
  simp only [ho, resolve, invoke, builtin, Sem.run_bind, Sem.run_pure, Result.andThen_ok, List.map_toArray, List.map_cons, List.map_nil, hs, hx, hr]
  exact hK _ _ (h v' w' h2 h3 h4)
theorem step_append_subs {w : World} {ops : Array Oper} {o : Oper} {a : Act} {K : Act → World → Prop} {Q : Exit → Act → World → Prop} {E : Prop} (hgd : o.guard = none) (s x : Operand)
    (ho : o.op = .call { callee := .builtin .append, args := #[s, x], argTypes := #[72, 72] }) (base : Nat) (S S2 : Nat → Prop) (v src : Value) (ts us : List T) (hs : a.eval s = v) (hown : SO w base S v ts) (hx : a.eval x = src) (hsrc : SubR w S2 src us) (hap : ∀ y, S2 y → v.ownBlock ≠ some y) (hb : ts.length + us.length ≤ 1048576) (hbase : base ≤ w.heap.size)
    (h : ∀ v' w', SO w' base (fun y => (S y ∨ S2 y) ∧ y < w.heap.size) v' (ts ++ us) → w.grownBy w' v.ownBlock → (v'.ownBlock = v.ownBlock ∨ v'.ownBlock = some w.heap.size) → K (a.put o.dst v') w') :
    if Region.wanted o (yielded ops a.tmps) = true then Oper.wp Try.prog o a w K Q else E := by
  have hw : Region.wanted o (yielded ops a.tmps) = true := by simp [Region.wanted, hgd]
  rw [if_pos hw]
  obtain ⟨v', w', hr, h2, h3, h4⟩ := run_append_subs (w := w) (ty := o.type) base S S2 v src ts us hown hsrc hap hb hbase
  unfold Oper.wp execOp
  simp only [ho, resolve, invoke, builtin, Sem.run_bind, Sem.run_pure, Result.andThen_ok, List.map_toArray, List.map_cons, List.map_nil, hs, hx, hr]
  exact h v' w' h2 h3 h4
def LeafPut (w : World) (S : Nat → Prop) (t : T) (k v : ByteArray) (lf : Bool) (ap ak : Option Addr) (np cp nk ck : Nat) : Prop := Calls Try.prog 42 #[.agg #[.bool lf, .slice ap np cp, .slice ak nk ck], .agg #[.string k, .string v]] w fun e w' => SubsPost w S (splT (.mk (insS t.ps (k, v) false) [])) e w'
set_option maxHeartbeats 2000000 in
set_option maxRecDepth 20000 in
theorem specPut_leaf (S : Nat → Prop) (ap ak : Option Addr) (np cp ck : Nat) (t : T) (k v : ByteArray) (w : World) (h : Sub w S true (.slice ap np cp) (.slice ak 0 ck) t) (hs : t.ps.length ≤ 4) :
    LeafPut w S t k v true ap ak np cp 0 ck := by
  unfold LeafPut
  obtain ⟨_, _, _, _, _, _, e1, e2, HNP, HNK, b1, b2, -, hP⟩ := h.shape
  cases e1
  cases e2
  have hnp : np ≤ 4 := by rw [HNP.out]; exact hs
  have HP := hid hP
  have HB0 : Hid (Below w.heap.size w ((w.alloc (.cells #[.bool true, .slice ap np cp, .slice ak 0 ck] 74)).alloc (.cells #[.string k, .string v] 35))) := below_new (below_new (Below.refl _ _))
  have KS : Hid (Bk ((w.alloc (.cells #[.bool true, .slice ap np cp, .slice ak 0 ck] 74)).alloc (.cells #[.string k, .string v] 35)) w.heap.size 74 [.bool true, .slice ap np cp, .slice ak 0 ck]) := (Bk.new w 74 [.bool true, .slice ap np cp, .slice ak 0 ck]).alloc _
  have KP : Hid (Bk ((w.alloc (.cells #[.bool true, .slice ap np cp, .slice ak 0 ck] 74)).alloc (.cells #[.string k, .string v] 35)) (w.heap.size + 1) 35 [.string k, .string v]) := by
    have := Bk.new (w.alloc (.cells #[.bool true, .slice ap np cp, .slice ak 0 ck] 74)) 35 [.string k, .string v]
    show Bk _ _ _ _
    simpa using this
  have HSZ : Hid (((w.alloc (.cells #[.bool true, .slice ap np cp, .slice ak 0 ck] 74)).alloc (.cells #[.string k, .string v] 35)).heap.size = w.heap.size + 2) := by show _ = _; simp
  have c0 := KS.out.cell (j := 0) rfl
  have c1 := (KS.out.alloc (.cells #[] 35)).cell (j := 1) rfl
  have HI0 : Hid (LeafI w (((w.alloc (.cells #[.bool true, .slice ap np cp, .slice ak 0 ck] 74)).alloc (.cells #[.string k, .string v] 35)).alloc (.cells #[] 35)) k v (.slice (some ⟨w.heap.size + 2, 0, none⟩) 0 0) []) := by
    refine ⟨KP.out.alloc _, ?_, Below.then' HB0.out (below_new (Below.refl _ _)) (Nat.le_refl _), by simp⟩
    have := ow_new ((w.alloc (.cells #[.bool true, .slice ap np cp, .slice ak 0 ck] 74)).alloc (.cells #[.string k, .string v] 35)) (w.heap.size + 2) (by simp)
    simpa using this
  clear h hs b1 b2 hP
  go_enter Try.func42, Try.ntmps42
  go_wp2_with fail
  go_loopw [5, 6, 17] (fun x y z wr => ∃ (i : Nat) (a : Option Addr) (n c : Nat) (d : Bool) (l : List PB), i ≤ np ∧ x = .slice a n c ∧ y = .bool d ∧ z = .int .i64 (i : Int) ∧ Hid (LeafI w wr k v (.slice a n c) l) ∧ Hid (l ++ insS (t.ps.drop i) (k, v) d = insS t.ps (k, v) false) ∧ Hid (l.length ≤ i * 2)) (fun _ _ z _ => np - (intOf z).toNat)
  case atStart => exact ⟨0, _, _, _, false, [], Nat.zero_le _, rfl, rfl, rfl, by have := HI0.out; show LeafI _ _ _ _ _ _; simpa using this, rfl, Nat.zero_le _⟩
  case round =>
    obtain ⟨i, a, n, c, d, l, hi, rfl, rfl, rfl, HI, HE, HLL⟩ := hrel
    by_cases hlt : i < np
    · have hlt' : (i : Int) < (np : Int) := by omega
      have hi0 : (0 : Int) ≤ (i : Int) := by omega
      obtain ⟨g, off, hap, _, _, hc⟩ := (HP.out.below HI.out.b).at (by omega)
      subst hap
      obtain ⟨x0, x1⟩ := hc i hlt
      have HD : Hid (t.ps.drop i = pAtB t.ps i :: t.ps.drop (i + 1)) := drop_pAtB (by rw [← HNP.out]; exact hlt)
      rw [HD.out, insS_cons] at HE
      clear hc
      generalize pAtB t.ps i = xx at *
      obtain ⟨y0, y1⟩ := xx
      simp only at x0 x1 HE
      have HIX := hid (HI.out.keep (below_new (o := .cells #[.string y0, .string y1] 35) (w := wr) (Below.refl _ _)))
      have KX := hid (Bk.new wr 35 [.string y0, .string y1])
      have HNX : Hid ((Value.slice a n c).ownBlock ≠ some wr.heap.size) := fun e => by have := (World.ownsRow.lt HI.out.o _ e).2; omega
      have q0 := HIX.out.p.cell (j := 0) rfl
      have q1 := HIX.out.p.cell (j := 1) rfl
      have k0 := KX.out.cell (j := 0) rfl
      have k1 := KX.out.cell (j := 1) rfl
      cases d with
      | false =>
        rcases tri y0 k with ⟨h1, h2, h3, h4⟩ | rfl | ⟨h1, h2, h3, h4⟩
        · -- less
          have HEQ : Hid ((l ++ [(y0, y1)]) ++ insS (t.ps.drop (i + 1)) (k, v) false = insS t.ps (k, v) false) := by
            have hk : klt y0 k = true := h1
            have := HE.out
            show _ = _
            simpa [hk, klt_ne hk] using this
          clear HE
          have HIXa := hid (HIX.out.keep (below_new (o := .cells #[.string y0, .string y1] 35) (w := (wr.alloc (.cells #[.string y0, .string y1] 35))) (Below.refl _ _)))
          have HPa2 : Hid (Pr ((wr.alloc (.cells #[.string y0, .string y1] 35)).alloc (.cells #[.string y0, .string y1] 35)) (fun _ => True) (.slice (some ⟨wr.heap.size + 1, 0, none⟩) 1 1) [(y0, y1)]) := by
            have := (Bk.new (wr.alloc (.cells #[.string y0, .string y1] 35)) 35 [.string y0, .string y1]).pr (n := 1) (ps := [(y0, y1)]) rfl (by omega) (fun _ => True) trivial
            have hz : (wr.alloc (.cells #[.string y0, .string y1] 35)).heap.size = wr.heap.size + 1 := by first | rfl | simp
            rw [hz] at this
            exact this
          go_wp2_with (at_builtin; refine wpList_append_pairs rfl _ _ rfl (w.heap.size + 2) _ _ rfl HIXa.out.o (fun _ => True) _ [(y0, y1)] rfl HPa2.out ?q1 ?q2 ?_)
          case q1 => have := HLL.out; simp; omega
          case q2 => have h9 := HI.out.s; have h8 := HIX.out.s; first | omega | (simp; omega)
          intro v2 w2 hO2 hg2
          obtain ⟨a2, n2, c2, e2, -⟩ := hO2.shape'
          subst e2
          have HI2 := hid (HIXa.out.push hO2 hg2)
          clear hO2 hg2
          go_wp2
          go_roundw
          case rel => exact ⟨i + 1, a2, n2, c2, false, _, by omega, rfl, rfl, by go_num, HI2.out, HEQ.out, by have := HLL.out; show _ ≤ _; simp; omega⟩
          case measure => simp [intOf]; omega
        · -- equal
          have HEQ : Hid ((l ++ [(y0, v)]) ++ insS (t.ps.drop (i + 1)) (y0, v) true = insS t.ps (y0, v) false) := by
            have := HE.out
            show _ = _
            simpa [klt_irrefl y0] using this
          clear HE
          have HIXa := hid (HIX.out.keep (below_new (o := .cells #[.string y0, .string v] 35) (w := (wr.alloc (.cells #[.string y0, .string y1] 35))) (Below.refl _ _)))
          have HPa2 : Hid (Pr ((wr.alloc (.cells #[.string y0, .string y1] 35)).alloc (.cells #[.string y0, .string v] 35)) (fun _ => True) (.slice (some ⟨wr.heap.size + 1, 0, none⟩) 1 1) [(y0, v)]) := by
            have := (Bk.new (wr.alloc (.cells #[.string y0, .string y1] 35)) 35 [.string y0, .string v]).pr (n := 1) (ps := [(y0, v)]) rfl (by omega) (fun _ => True) trivial
            have hz : (wr.alloc (.cells #[.string y0, .string y1] 35)).heap.size = wr.heap.size + 1 := by first | rfl | simp
            rw [hz] at this
            exact this
          go_wp2_with (at_builtin; refine wpList_append_pairs rfl _ _ rfl (w.heap.size + 2) _ _ rfl HIXa.out.o (fun _ => True) _ [(y0, v)] rfl HPa2.out ?q1 ?q2 ?_)
          case q1 => have := HLL.out; simp; omega
          case q2 => have h9 := HI.out.s; have h8 := HIX.out.s; first | omega | (simp; omega)
          intro v2 w2 hO2 hg2
          obtain ⟨a2, n2, c2, e2, -⟩ := hO2.shape'
          subst e2
          have HI2 := hid (HIXa.out.push hO2 hg2)
          have z0 := (bk_grown (KX.out.alloc (.cells #[.string y0, .string v] 35)) hg2 HNX.out).cell (j := 0) rfl
          have z1 := HI2.out.p.cell (j := 0) rfl
          clear hO2 hg2
          go_wp2
          go_roundw
          case rel => exact ⟨i + 1, a2, n2, c2, true, _, by omega, rfl, rfl, by go_num, HI2.out, HEQ.out, by have := HLL.out; show _ ≤ _; simp; omega⟩
          case measure => simp [intOf]; omega
        · -- greater
          have HEQ : Hid (l ++ [(k, v), (y0, y1)] ++ insS (t.ps.drop (i + 1)) (k, v) true = insS t.ps (k, v) false) := by
            have hk : klt y0 k = false := h1
            have hne : y0 ≠ k := fun e => by rw [e] at h2; exact absurd h2 (by rw [less_irrefl]; simp)
            have := HE.out
            show _ = _
            simpa [hk, hne] using this
          clear HE
          have HIXa := hid (HIX.out.keep (below_new (o := .cells #[.string k, .string v] 35) (w := (wr.alloc (.cells #[.string y0, .string y1] 35))) (Below.refl _ _)))
          have HPa2 : Hid (Pr ((wr.alloc (.cells #[.string y0, .string y1] 35)).alloc (.cells #[.string k, .string v] 35)) (fun _ => True) (.slice (some ⟨wr.heap.size + 1, 0, none⟩) 1 1) [(k, v)]) := by
            have := (Bk.new (wr.alloc (.cells #[.string y0, .string y1] 35)) 35 [.string k, .string v]).pr (n := 1) (ps := [(k, v)]) rfl (by omega) (fun _ => True) trivial
            have hz : (wr.alloc (.cells #[.string y0, .string y1] 35)).heap.size = wr.heap.size + 1 := by first | rfl | simp
            rw [hz] at this
            exact this
          go_wp2_with (at_builtin; refine wpList_append_pairs rfl _ _ rfl (w.heap.size + 2) _ _ rfl HIXa.out.o (fun _ => True) _ [(k, v)] rfl HPa2.out ?q1 ?q2 ?_)
          case q1 => have := HLL.out; simp; omega
          case q2 => have h9 := HI.out.s; have h8 := HIX.out.s; first | omega | (simp; omega)
          intro v2 w2 hO2 hg2
          obtain ⟨a2, n2, c2, e2, -⟩ := hO2.shape'
          subst e2
          have HI2 := hid (HIXa.out.push hO2 hg2)
          have KX2 := hid (bk_grown (KX.out.alloc (.cells #[.string k, .string v] 35)) hg2 HNX.out)
          have z0 := KX2.out.cell (j := 0) rfl
          have z2 := KX2.out.cell (j := 1) rfl
          have z1 := HI2.out.p.cell (j := 0) rfl
          clear hO2 hg2
          have HI2a := hid (HI2.out.keep (below_new (o := .cells #[.string y0, .string y1] 35) (w := w2) (Below.refl _ _)))
          have HPa3 : Hid (Pr (w2.alloc (.cells #[.string y0, .string y1] 35)) (fun _ => True) (.slice (some ⟨w2.heap.size, 0, none⟩) 1 1) [(y0, y1)]) := by
            have := (Bk.new w2 35 [.string y0, .string y1]).pr (n := 1) (ps := [(y0, y1)]) rfl (by omega) (fun _ => True) trivial
            have hz : w2.heap.size = w2.heap.size := by first | rfl | simp
            rw [hz] at this
            exact this
          go_wp2_with (at_builtin; refine wpList_append_pairs rfl _ _ rfl (w.heap.size + 2) _ _ rfl HI2a.out.o (fun _ => True) _ [(y0, y1)] rfl HPa3.out ?q1 ?q2 ?_)
          case q1 => have := HLL.out; simp; omega
          case q2 => have h9 := HI.out.s; have h8 := HI2.out.s; first | omega | (simp; omega)
          intro v3 w3 hO3 hg3
          obtain ⟨a3, n3, c3, e3, -⟩ := hO3.shape'
          subst e3
          have HI3 := hid (HI2a.out.push hO3 hg3)
          clear hO3 hg3
          go_wp2
          go_roundw
          case rel => exact ⟨i + 1, a3, n3, c3, true, _, by omega, rfl, rfl, by go_num, HI3.out, HEQ.out, by have := HLL.out; show _ ≤ _; simp; omega⟩
          case measure => simp [intOf]; omega
      | true =>
        rcases tri y0 k with ⟨h1, h2, h3, h4⟩ | rfl | ⟨h1, h2, h3, h4⟩
        · have HEQ : Hid ((l ++ [(y0, y1)]) ++ insS (t.ps.drop (i + 1)) (k, v) true = insS t.ps (k, v) false) := by
            have hk : klt y0 k = true := h1
            have := HE.out
            show _ = _
            simpa [klt_ne hk] using this
          clear HE
          have HIXa := hid (HIX.out.keep (below_new (o := .cells #[.string y0, .string y1] 35) (w := (wr.alloc (.cells #[.string y0, .string y1] 35))) (Below.refl _ _)))
          have HPa2 : Hid (Pr ((wr.alloc (.cells #[.string y0, .string y1] 35)).alloc (.cells #[.string y0, .string y1] 35)) (fun _ => True) (.slice (some ⟨wr.heap.size + 1, 0, none⟩) 1 1) [(y0, y1)]) := by
            have := (Bk.new (wr.alloc (.cells #[.string y0, .string y1] 35)) 35 [.string y0, .string y1]).pr (n := 1) (ps := [(y0, y1)]) rfl (by omega) (fun _ => True) trivial
            have hz : (wr.alloc (.cells #[.string y0, .string y1] 35)).heap.size = wr.heap.size + 1 := by first | rfl | simp
            rw [hz] at this
            exact this
          go_wp2_with (at_builtin; refine wpList_append_pairs rfl _ _ rfl (w.heap.size + 2) _ _ rfl HIXa.out.o (fun _ => True) _ [(y0, y1)] rfl HPa2.out ?q1 ?q2 ?_)
          case q1 => have := HLL.out; simp; omega
          case q2 => have h9 := HI.out.s; have h8 := HIX.out.s; first | omega | (simp; omega)
          intro v2 w2 hO2 hg2
          obtain ⟨a2, n2, c2, e2, -⟩ := hO2.shape'
          subst e2
          have HI2 := hid (HIXa.out.push hO2 hg2)
          clear hO2 hg2
          go_wp2
          go_roundw
          case rel => exact ⟨i + 1, a2, n2, c2, true, _, by omega, rfl, rfl, by go_num, HI2.out, HEQ.out, by have := HLL.out; show _ ≤ _; simp; omega⟩
          case measure => simp [intOf]; omega
        · have HEQ : Hid (l ++ insS (t.ps.drop (i + 1)) (y0, v) true = insS t.ps (y0, v) false) := by
            have := HE.out
            show _ = _
            simpa using this
          clear HE
          go_wp2
          go_roundw
          case rel => exact ⟨i + 1, a, n, c, true, l, by omega, rfl, rfl, by go_num, HIX.out, HEQ.out, by have := HLL.out; show _ ≤ _; omega⟩
          case measure => simp [intOf]; omega
        · have HEQ : Hid ((l ++ [(y0, y1)]) ++ insS (t.ps.drop (i + 1)) (k, v) true = insS t.ps (k, v) false) := by
            have hne : y0 ≠ k := fun e => by rw [e] at h2; exact absurd h2 (by rw [less_irrefl]; simp)
            have := HE.out
            show _ = _
            simpa [hne] using this
          clear HE
          have HIXa := hid (HIX.out.keep (below_new (o := .cells #[.string y0, .string y1] 35) (w := (wr.alloc (.cells #[.string y0, .string y1] 35))) (Below.refl _ _)))
          have HPa2 : Hid (Pr ((wr.alloc (.cells #[.string y0, .string y1] 35)).alloc (.cells #[.string y0, .string y1] 35)) (fun _ => True) (.slice (some ⟨wr.heap.size + 1, 0, none⟩) 1 1) [(y0, y1)]) := by
            have := (Bk.new (wr.alloc (.cells #[.string y0, .string y1] 35)) 35 [.string y0, .string y1]).pr (n := 1) (ps := [(y0, y1)]) rfl (by omega) (fun _ => True) trivial
            have hz : (wr.alloc (.cells #[.string y0, .string y1] 35)).heap.size = wr.heap.size + 1 := by first | rfl | simp
            rw [hz] at this
            exact this
          go_wp2_with (at_builtin; refine wpList_append_pairs rfl _ _ rfl (w.heap.size + 2) _ _ rfl HIXa.out.o (fun _ => True) _ [(y0, y1)] rfl HPa2.out ?q1 ?q2 ?_)
          case q1 => have := HLL.out; simp; omega
          case q2 => have h9 := HI.out.s; have h8 := HIX.out.s; first | omega | (simp; omega)
          intro v2 w2 hO2 hg2
          obtain ⟨a2, n2, c2, e2, -⟩ := hO2.shape'
          subst e2
          have HI2 := hid (HIXa.out.push hO2 hg2)
          clear hO2 hg2
          go_wp2
          go_roundw
          case rel => exact ⟨i + 1, a2, n2, c2, true, _, by omega, rfl, rfl, by go_num, HI2.out, HEQ.out, by have := HLL.out; show _ ≤ _; simp; omega⟩
          case measure => simp [intOf]; omega
    · have hlt' : ¬ (i : Int) < (np : Int) := by omega
      have HD : Hid (t.ps.drop i = []) := List.drop_eq_nil_of_le (by rw [← HNP.out]; omega)
      rw [HD.out] at HE
      have HSP := hid (fun (w3 : World) (a3 : Option Addr) (n3 c3 : Nat) (l3 : List PB) (hI3 : LeafI w w3 k v (.slice a3 n3 c3) l3) => specSplit_any (fun y => w.heap.size ≤ y) true a3 none n3 c3 0 0 (.mk l3 []) w3 (Sub.leafOf (hI3.o.pr (S := fun y => w.heap.size ≤ y) (fun y _ h1 _ => by omega))))
      have HFN : Hid (∀ (w3 w4 : World) (e : Ending) (a3 : Option Addr) (n3 c3 : Nat) (l3 : List PB), LeafI w w3 k v (.slice a3 n3 c3) l3 → SubsPost w3 (fun y => w.heap.size ≤ y) (splT (.mk l3 [])) e w4 → SubsPost w S (splT (.mk l3 [])) e w4) := by
        rintro w3 w4 e a3 n3 c3 l3 hI ⟨v4, rfl, h1, h2⟩
        have hsz := hI.b.size
        exact ⟨v4, rfl, h1.mono (fun y hy _ => hy.elim .inr (fun h => .inr (by omega))), Below.then' hI.b h2 (Nat.le_refl _)⟩
      cases d with
      | true =>
        have HEQ : Hid (insS t.ps (k, v) false = l) := by have := HE.out; show _ = _; simpa [insS] using this.symm
        clear HE HP
        go_wp2_with fail
        refine (HSP.out wr a n c l HI.out).mono ?_
        rintro e w4 hp
        have hp' := HFN.out _ _ _ _ _ _ _ HI.out hp
        obtain ⟨v4, rfl, h1, h2⟩ := hp'
        have HF := hid h1
        have HF2 := hid h2
        clear hp h1 h2
        go_wp2
        go_ret
        refine ⟨_, rfl, ?_, HF2.out⟩
        rw [HEQ.out]; exact HF.out
      | false =>
        have HEQ : Hid (insS t.ps (k, v) false = l ++ [(k, v)]) := by have := HE.out; show _ = _; simpa [insS] using this.symm
        have q0 := HI.out.p.cell (j := 0) rfl
        have q1 := HI.out.p.cell (j := 1) rfl
        clear HE HP
        have HIa := hid (HI.out.keep (below_new (o := .cells #[.string k, .string v] 35) (w := wr) (Below.refl _ _)))
        have HPa2 : Hid (Pr (wr.alloc (.cells #[.string k, .string v] 35)) (fun _ => True) (.slice (some ⟨wr.heap.size, 0, none⟩) 1 1) [(k, v)]) := by
          have := (Bk.new wr 35 [.string k, .string v]).pr (n := 1) (ps := [(k, v)]) rfl (by omega) (fun _ => True) trivial
          have hz : wr.heap.size = wr.heap.size := by first | rfl | simp
          rw [hz] at this
          exact this
        go_wp2_with (at_builtin; refine wpList_append_pairs rfl _ _ rfl (w.heap.size + 2) _ _ rfl HIa.out.o (fun _ => True) _ [(k, v)] rfl HPa2.out ?q1 ?q2 ?_)
        case q1 => have := HLL.out; simp; omega
        case q2 => have h9 := HI.out.s; have h8 := HI.out.s; first | omega | (simp; omega)
        intro v2 w2 hO2 hg2
        obtain ⟨a2, n2, c2, e2, -⟩ := hO2.shape'
        subst e2
        have HI2 := hid (HIa.out.push hO2 hg2)
        clear hO2 hg2
        go_wp2_with fail
        refine (HSP.out _ _ _ _ _ HI2.out).mono ?_
        rintro e w4 hp
        have hp' := HFN.out _ _ _ _ _ _ _ HI2.out hp
        obtain ⟨v4, rfl, h1, h2⟩ := hp'
        have HF := hid h1
        have HF2 := hid h2
        clear hp h1 h2
        go_wp2
        go_ret
        refine ⟨_, rfl, ?_, HF2.out⟩
        rw [HEQ.out]; exact HF.out
end Go.Proofs.Ytkflneeifllpgaa
/-
  l03Put of the specification: it puts as the plain function puts.
-/
namespace Go.Proofs.Ytkflneeifllpgaa
open Go.RowKit
theorem below_dq (w : World) (q : Nat) : Below w.heap.size w (w.drewN q) := ⟨rfl, rfl, rfl, Nat.le_refl _, fun _ _ => rfl⟩
structure SpB (w wr : World) (pv kv : Value) (k v : ByteArray) : Prop where
  s : Bk wr w.heap.size 74 [.bool false, pv, kv]
  p : Bk wr (w.heap.size + 1) 35 [.string k, .string v]
  b : Below w.heap.size w wr
  z : w.heap.size + 2 ≤ wr.heap.size
theorem SpB.keep {w wr w1 : World} {pv kv : Value} {k v : ByteArray} (h : SpB w wr pv kv k v) (hb : Below wr.heap.size wr w1) : SpB w w1 pv kv k v := ⟨h.s.below hb, h.p.below hb, Below.then' h.b hb (Nat.le_refl _), Nat.le_trans h.z hb.size⟩
theorem SpB.grow {w u w2 : World} {pv kv : Value} {k v : ByteArray} {o : Option Nat} (h : SpB w u pv kv k v) (hg : u.grownBy w2 o) (ho : ∀ x, o = some x → w.heap.size + 2 ≤ x) : SpB w w2 pv kv k v := by
  have hon : Only (fun y => o = some y) u w2 := only_of_grown hg (fun _ e => e)
  exact ⟨h.s.to hon (fun e => by have := ho _ e; omega), h.p.to hon (fun e => by have := ho _ e; omega), h.b.trans (hon.below h.b.size (fun b hb e => by have := ho _ e; omega)), Nat.le_trans h.z hg.size⟩
theorem SO.lo {w : World} {base : Nat} {S : Nat → Prop} {v : Value} {ts : List T} (h : SO w base S v ts) : ∀ x, v.ownBlock = some x → base ≤ x ∧ x < w.heap.size := by
  obtain ⟨L, P, K, h1, _⟩ := h
  exact fun x e => World.ownsRow.lt h1 x e
theorem SO.mono {w : World} {base : Nat} {S R : Nat → Prop} {v : Value} {ts : List T} (h : SO w base S v ts) (hS : ∀ y, S y → y < w.heap.size → R y) (hR : ∀ y, R y → v.ownBlock ≠ some y) : SO w base R v ts := by
  obtain ⟨L, P, K, h1, h2, h3⟩ := h
  exact ⟨L, P, K, h1, fun i hi => (h2 i hi).mono hS, hR⟩
theorem putS_len : ∀ (f : Nat) (t : T) (p : PB), (putS f t p).length ≤ 2
  | 0, t, p => by simp [putS]
  | f + 1, t, p => by
    have hs : ∀ t, (splT t).length ≤ 2 := by
      intro t
      unfold splT
      split
      · simp
      · split <;> simp
    rw [putS]
    split <;> exact hs _
theorem putS_ne : ∀ (f : Nat) (t : T) (p : PB), putS f t p ≠ []
  | 0, t, p => by simp [putS]
  | f + 1, t, p => by
    have hs : ∀ t, splT t ≠ [] := by
      intro t
      unfold splT
      split
      · simp
      · split <;> simp
    rw [putS]
    split <;> exact hs _
set_option maxHeartbeats 2000000 in
set_option maxRecDepth 20000 in
theorem specPut_any : ∀ (f : Nat) (r : Bool) (S : Nat → Prop) (lf : Bool) (ap ak : Option Addr) (np cp nk ck : Nat) (t : T) (k v : ByteArray) (w : World), Sub w S lf (.slice ap np cp) (.slice ak nk ck) t → PutIn f r t →
    Calls Try.prog 42 #[.agg #[.bool lf, .slice ap np cp, .slice ak nk ck], .agg #[.string k, .string v]] w fun e w' => SubsPost w S (putS f t (k, v)) e w' := by
  intro f
  induction f with
  | zero => intro r S lf ap ak np cp nk ck t k v w _ g; exact g.ev.elim
  | succ f ih =>
  intro r S lf ap ak np cp nk ck t k v w h g
  obtain ⟨_, _, _, _, _, _, e1, e2, HNP, HNK, b1, b2, hlf, -⟩ := h.shape
  cases e1
  cases e2
  by_cases hk : t.ks = []
  · have hn : nk = 0 := by rw [HNK.out, hk]; rfl
    have hl : lf = true := by rw [hlf, hn]; rfl
    have HF : putS (f + 1) t (k, v) = splT (.mk (insS t.ps (k, v) false) []) := by rw [putS, if_pos hk]
    subst hn hl
    rw [HF]
    exact specPut_leaf S ap ak np cp ck t k v w h (by obtain ⟨ps, ks⟩ := t; cases (show ks = [] from hk); exact g.leaf.2.1)
  · obtain ⟨ps, ks⟩ := t
    simp only [T.ks, T.ps] at hk HNK HNP
    obtain ⟨hp0, hl1, hl2, hf3, he4, ha5⟩ := g.kids hk
    have hn0 : nk ≠ 0 := by rw [HNK.out]; have := List.length_pos_iff.2 hk; omega
    have hl : lf = false := by rw [hlf]; exact decide_eq_false hn0
    subst hl
    obtain ⟨hq, _, _⟩ := kidOf_spec k hk
    have hw := wayOf_eq (k := k) hk hf3 ha5
    have HF : Hid (putS (f + 1) (.mk ps ks) (k, v) = splT (.mk [] (ks.take (wayOf ks k) ++ putS f (tAt ks (wayOf ks k)) (k, v) ++ ks.drop (wayOf ks k + 1)))) := by show _ = _; rw [putS]; simp only [T.ks, hk, if_false]
    have HKG := hid (g.kid hk k)
    rw [← hw] at hq HKG
    have H0 : Hid (Sub w (fun y => S y ∧ y < w.heap.size) false (.slice ap np cp) (.slice ak nk ck) (.mk ps ks)) := h.mono (fun y hy hl => ⟨hy, hl⟩)
    have hcap : nk ≤ ck ∧ ck ≤ 9223372036854775807 := by
      obtain ⟨L, P, K, h1, _⟩ := h.row
      exact h1.len.2
    obtain ⟨hc1, hc2⟩ := hcap
    have hnk : nk ≤ 4 := by rw [HNK.out]; exact hl2
    have HWY := hid (fun (w' : World) (h' : Sub w' (fun y => S y ∧ y < w.heap.size) false (.slice ap np cp) (.slice ak nk ck) (.mk ps ks)) => specWay_any _ false ap ak np cp nk ck (.mk ps ks) k w' h' (by simp only [T.ks]; omega))
    simp only [T.ks] at HWY
    have IH := hid ih
    have hqn : wayOf ks k < nk := by rw [HNK.out]; exact hq
    have HQ := hid hq
    generalize hqq : wayOf ks k = q at *
    clear hqq hw h g ih hlf b1 b2 hp0 hl1 hl2 hf3 he4 ha5 hq
    have HI0 : Hid (SpB w ((w.alloc (.cells #[.bool false, .slice ap np cp, .slice ak nk ck] 74)).alloc (.cells #[.string k, .string v] 35)) (.slice ap np cp) (.slice ak nk ck) k v) := by
      refine ⟨(Bk.new w 74 [.bool false, .slice ap np cp, .slice ak nk ck]).alloc _, ?_, below_new (below_new (Below.refl _ _)), by simp⟩
      have := Bk.new (w.alloc (.cells #[.bool false, .slice ap np cp, .slice ak nk ck] 74)) 35 [.string k, .string v]
      simpa using this
    have s0 := HI0.out.s.cell (j := 0) rfl
    have s1 := HI0.out.s.cell (j := 1) rfl
    have s2 := HI0.out.s.cell (j := 2) rfl
    have p0 := HI0.out.p.cell (j := 0) rfl
    go_enter Try.func42, Try.ntmps42
    go_wp2_with fail
    refine (HWY.out _ (H0.out.kept HI0.out.b)).mono ?_
    generalize (w.alloc (.cells #[.bool false, .slice ap np cp, .slice ak nk ck] 74)).alloc (.cells #[.string k, .string v] 35) = U at *
    rintro e w1 ⟨rfl, hb⟩
    have HI1 := hid (HI0.out.keep hb)
    have HI2 := hid (HI1.out.keep (below_new (o := .cells #[] 74) (w := w1) (Below.refl _ _)))
    have HSN := hid (so_new w1 (w.heap.size + 2) HI1.out.z)
    clear hb s0 s1 s2 p0 HWY HI0
    have hq1 : (q : Int) ≤ (ck : Int) := by omega
    have hq2 : (0 : Int) ≤ (q : Int) := by omega
    have hq3 : (q : Int) + 1 ≤ (nk : Int) := by omega
    have hq4 : (q : Int) < (nk : Int) := by omega
    have hq5 : (q : Int) ≤ 1000 := by omega
    have HS2 := hid ((H0.out.kept HI2.out.b).row)
    simp only [T.ks] at HS2
    have u2 := HI2.out.s.cell (j := 2) rfl
    go_wp2_with (at_builtin; refine wpList_append_subs rfl _ _ rfl (w.heap.size + 2) _ (fun y => S y ∧ y < w.heap.size) (.slice (some ⟨w1.heap.size, 0, none⟩) 0 0) _ [] (ks.take q) rfl HSN.out rfl (HS2.out.take (by omega)) ?q0 ?q1 ?q2 ?_)
    case q0 => intro y hy e; have e' : w1.heap.size = y := by simpa [Value.ownBlock] using e
               have := HI1.out.z; have := hy.2; omega
    case q1 => rw [List.length_take]; simp; omega
    case q2 => have := HI1.out.z; first | omega | (simp; omega)
    intro v3 w3 hO3 hg3 ha3
    obtain ⟨a3, n3, c3, e3, -⟩ := hO3.shape
    subst e3
    have hlo3 := hO3.lo
    have HI3 := hid (HI2.out.grow hg3 (fun x e => by cases e; exact HI1.out.z))
    have HS3 : Hid (SO w3 (w.heap.size + 2) (fun y => S y ∧ y < w.heap.size) (.slice a3 n3 c3) (ks.take q)) := hO3.mono (fun y hy _ => hy.1) (fun y hy e => by have := (hlo3 y e).1; have := hy.2; omega)
    have hsz3 : w1.heap.size + 1 ≤ w3.heap.size := by have := hg3.size; simpa using this
    have HZ3 := hid hsz3
    clear hO3 hg3 ha3 HSN HS2 HI2 u2 hlo3 hsz3
    have HKD := hid (H0.out.kept HI3.out.b)
    obtain ⟨g, off, hak, _, _, hkid⟩ := HKD.out.kids (by omega)
    subst hak
    obtain ⟨l9, ap9, np9, cp9, ak9, nk9, ck9, x0, x1, x2, hs9⟩ := hkid q hqn
    simp only [T.ks] at hs9
    have HS9 := hid hs9
    clear hkid hs9 HKD
    have t2 := HI3.out.s.cell (j := 2) rfl
    have p0 := HI3.out.p.cell (j := 0) rfl
    have p1 := HI3.out.p.cell (j := 1) rfl
    have HPL := hid (putS_len f (tAt ks q) (k, v))
    have HAP : Hid (∀ y, (S y ∧ y < w.heap.size) ∨ w3.drew.heap.size ≤ y → (Value.slice a3 n3 c3).ownBlock ≠ some y) := by
      rintro y (h | h) e
      · have := HS3.out.lo y e; have := h.2; omega
      · have := (HS3.out.lo y e).2
        have h2 : w3.heap.size ≤ y := h
        omega
    have HTL : Hid ((ks.take q).length + (putS f (tAt ks q) (k, v)).length ≤ 1048576) := by have := HPL.out; rw [List.length_take]; show _ ≤ _; omega
    have HST : Hid (∀ (w4 : World), Below w3.drew.heap.size w3.drew w4 → SO w4 (w.heap.size + 2) (fun y => S y ∧ y < w.heap.size) (.slice a3 n3 c3) (ks.take q)) := fun w4 hb => HS3.out.kept (Below.then' (below_drew w3) hb (Nat.le_refl _))
    have HZZ : Hid (∀ (w4 : World), Below w3.drew.heap.size w3.drew w4 → w.heap.size + 2 ≤ w4.heap.size) := fun w4 hb => Nat.le_trans HI3.out.z hb.size
    have HFIN : Hid (∀ (w4 w5 : World) (a5 : Option Addr) (n5 c5 : Nat) (R : Nat → Prop), Below w3.drew.heap.size w3.drew w4 → SO w5 (w.heap.size + 2) R (.slice a5 n5 c5) (ks.take q ++ putS f (tAt ks q) (k, v)) → (∀ y, R y → (S y ∧ y < w.heap.size) ∨ w3.heap.size ≤ y) → w4.grownBy w5 (Value.slice a3 n3 c3).ownBlock →
        SO w5 (w.heap.size + 2) (fun y => (S y ∧ y < w.heap.size) ∨ (w3.heap.size ≤ y ∧ y < w5.heap.size ∧ (Value.slice a5 n5 c5).ownBlock ≠ some y)) (.slice a5 n5 c5) (ks.take q ++ putS f (tAt ks q) (k, v)) ∧ SpB w w5 (.slice ap np cp) (.slice (some ⟨g, off, none⟩) nk ck) k v) := by
      intro w4 w5 a5 n5 c5 R hb hO hR hg
      have hlo := hO.lo
      refine ⟨?_, (HI3.out.keep (Below.then' (below_drew w3) hb (Nat.le_refl _))).grow hg (fun x e => (HS3.out.lo x e).1)⟩
      obtain ⟨L, P, K, h1, h2, h3⟩ := hO
      refine ⟨L, P, K, h1, fun i hi => (h2 i hi).mono (fun y hy hl => ?_), ?_⟩
      · rcases hR y hy with h | h
        · exact .inl h
        · exact .inr ⟨h, hl, h3 y hy⟩
      · rintro y (h | h)
        · intro e; have := (hlo y e).1; have := h.2; omega
        · exact h.2.2
    have HPT := hid (fun (w' : World) (h' : Sub w' (fun y => S y ∧ y < w.heap.size) l9 (.slice ap9 np9 cp9) (.slice ak9 nk9 ck9) (tAt ks q)) => IH.out false _ l9 ap9 ak9 np9 cp9 nk9 ck9 (tAt ks q) k v w' h' HKG.out)
    go_wp2_with fail
    go_cut [10] (fun x v2 => ∃ (a5 : Option Addr) (n5 c5 : Nat), x = .slice a5 n5 c5 ∧ Hid (SO v2 (w.heap.size + 2) (fun y => (S y ∧ y < w.heap.size) ∨ (w3.heap.size ≤ y ∧ y < v2.heap.size ∧ (Value.slice a5 n5 c5).ownBlock ≠ some y)) (.slice a5 n5 c5) (ks.take q ++ putS f (tAt ks q) (k, v))) ∧ Hid (SpB w v2 (.slice ap np cp) (.slice (some ⟨g, off, none⟩) nk ck) k v))
    case first =>
      go_region_law (first
        | (go_simp; go_at_call 42; refine (HPT.out _ (HS9.out.kept (below_drew _))).mono ?_; rintro e w4 ⟨v4, rfl, hR4, hb4⟩)
        | (refine step_append_subs rfl _ _ rfl (w.heap.size + 2) _ _ (.slice a3 n3 c3) _ (ks.take q) (putS f (tAt ks q) (k, v)) rfl (HST.out _ hb4) rfl hR4 HAP.out HTL.out (HZZ.out _ hb4) ?_; intro v5 w5 hO5 hg5 ha5; obtain ⟨a5, n5, c5, e5, -⟩ := hO5.shape; subst e5))
      all_goals (go_wp2_with fail; go_meet)
      all_goals exact ⟨a5, n5, c5, rfl, (HFIN.out _ _ _ _ _ _ hb4 hO5 (fun y hy => by rcases hy.1 with h | h | h; exact .inl h; exact .inl h; exact .inr h) hg5).1, (HFIN.out _ _ _ _ _ _ hb4 hO5 (fun y hy => by rcases hy.1 with h | h | h; exact .inl h; exact .inl h; exact .inr h) hg5).2⟩
    case rest =>
      obtain ⟨a5, n5, c5, rfl, HS5, HI5⟩ := hcut
      clear HFIN HPT HST HZZ HAP x0 x1 x2 t2 p0 p1 HS9 HTL
      have t2 := HI5.out.s.cell (j := 2) rfl
      have HS6 := hid ((H0.out.kept HI5.out.b).row)
      simp only [T.ks] at HS6
      have HDL : Hid ((ks.take q ++ putS f (tAt ks q) (k, v)).length + (ks.drop (q + 1)).length ≤ 1048576) := by
        have := HPL.out
        have := HNK.out
        rw [List.length_append, List.length_take, List.length_drop]; show _ ≤ _; omega
      have HAP : Hid (∀ y, S y ∧ y < w.heap.size → (Value.slice a5 n5 c5).ownBlock ≠ some y) := fun y hy e => by have := (HS5.out.lo y e).1; have := hy.2; omega
      have HSP := hid (fun (w6 : World) (R : Nat → Prop) (a6 : Option Addr) (n6 c6 : Nat) (L : List T) (hL : L ≠ []) (h6 : SubR w6 R (.slice a6 n6 c6) L) => specSplit_any R false none a6 0 0 n6 c6 (.mk [] L) w6 (h6.sub hL))
      have HNE : Hid (ks.take q ++ putS f (tAt ks q) (k, v) ++ ks.drop (q + 1) ≠ []) := by
        intro e
        have h1 := List.append_eq_nil_iff.1 e
        have h2 := List.append_eq_nil_iff.1 h1.1
        exact putS_ne f _ _ h2.2
      have HFN : Hid (∀ (w6 w7 : World) (R : Nat → Prop) (v6 : Value) (e : Ending), SO w6 (w.heap.size + 2) R v6 (ks.take q ++ putS f (tAt ks q) (k, v) ++ ks.drop (q + 1)) → (∀ y, R y → S y ∨ w.heap.size ≤ y) → SpB w w6 (.slice ap np cp) (.slice (some ⟨g, off, none⟩) nk ck) k v → SubsPost w6 (fun y => S y ∨ w.heap.size ≤ y) (splT (.mk [] (ks.take q ++ putS f (tAt ks q) (k, v) ++ ks.drop (q + 1)))) e w7 → SubsPost w S (putS (f + 1) (.mk ps ks) (k, v)) e w7) := by
        rintro w6 w7 R v6 e hO hR hI ⟨v7, rfl, h1, h2⟩
        have hsz := hI.b.size
        refine ⟨v7, rfl, ?_, Below.then' hI.b h2 (Nat.le_refl _)⟩
        rw [HF.out]
        exact h1.mono (fun y hy _ => hy.elim id (fun h => .inr (by omega)))
      have hz3 : w.heap.size ≤ w3.heap.size := by have := HI3.out.z; omega
      have HR5 : Hid (∀ (y z : Nat), ((S y ∧ y < w.heap.size ∨ w3.heap.size ≤ y ∧ y < wc.heap.size ∧ (Value.slice a5 n5 c5).ownBlock ≠ some y) ∨ S y ∧ y < w.heap.size) ∧ y < z → S y ∨ w.heap.size ≤ y) := by
        rintro y z ⟨(h | h) | h, -⟩
        · exact .inl h.1
        · right; omega
        · exact .inl h.1
      have HG6 : Hid (∀ (w6 : World), wc.grownBy w6 (Value.slice a5 n5 c5).ownBlock → SpB w w6 (.slice ap np cp) (.slice (some ⟨g, off, none⟩) nk ck) k v) := fun w6 hg => HI5.out.grow hg (fun x e => (HS5.out.lo x e).1)
      have HLO6 : Hid (∀ (w6 : World) (R : Nat → Prop) (v6 : Value) (L : List T), SO w6 (w.heap.size + 2) R v6 L → (∀ y, R y → S y ∨ w.heap.size ≤ y) → SubR w6 (fun y => S y ∨ w.heap.size ≤ y) v6 L) := fun w6 R v6 L h hR => h.subR (fun y _ h1 _ => .inr (by omega)) (fun y hy _ => hR y hy)
      have hstep : ∀ (src : Value), SubR wc (fun y => S y ∧ y < w.heap.size) src (ks.drop (q + 1)) → True := fun _ _ => trivial
      clear hstep
      by_cases hcap : 0 < ck - (q + 1)
      · have HDR := hid (HS6.out.drop (m := q + 1) (by omega))
        go_wp2_with (at_builtin; refine wpList_append_subs rfl _ _ rfl (w.heap.size + 2) _ (fun y => S y ∧ y < w.heap.size) (.slice a5 n5 c5) _ _ (ks.drop (q + 1)) rfl HS5.out rfl HDR.out HAP.out HDL.out HI5.out.z ?_)
        intro v6 w6 hO6 hg6 ha6
        obtain ⟨a6, n6, c6, e6, -⟩ := hO6.shape
        subst e6
        have HO6 := hid hO6
        rw [← List.append_assoc] at HO6
        have HI6 := hid (HG6.out _ hg6)
        clear hO6 hg6 ha6 HDR
        go_wp2_with fail
        refine (HSP.out _ _ _ _ _ _ HNE.out (HLO6.out _ _ _ _ HO6.out (fun y hy => HR5.out y _ hy))).mono ?_
        rintro e w7 h7
        obtain ⟨v7, rfl, h8, h9⟩ := HFN.out _ _ _ _ _ HO6.out (fun y hy => HR5.out y _ hy) HI6.out h7
        have H8 := hid h8
        have H9 := hid h9
        clear h7 h8 h9
        go_wp2
        go_ret
        exact ⟨_, rfl, H8.out, H9.out⟩
      · have hck : ck = q + 1 := by omega
        have hnk1 : nk = q + 1 := by omega
        have HDR : Hid (SubR wc (fun y => S y ∧ y < w.heap.size) (.slice (some ⟨g, off, none⟩) 0 0) (ks.drop (q + 1))) := by
          rw [List.drop_eq_nil_of_le (by rw [← HNK.out]; omega)]
          exact ⟨fun _ => false, fun _ => .slice none 0 0, fun _ => .slice none 0 0, ⟨_, 0, rfl, Nat.le_refl _, by omega, fun _ => rfl, fun h => (by cases h), fun h => (by simp at h)⟩, fun i hi => (by simp at hi)⟩
        subst hck hnk1
        go_wp2_with (at_builtin; refine wpList_append_subs rfl _ _ rfl (w.heap.size + 2) _ (fun y => S y ∧ y < w.heap.size) (.slice a5 n5 c5) _ _ (ks.drop (q + 1)) rfl HS5.out rfl HDR.out HAP.out HDL.out HI5.out.z ?_)
        intro v6 w6 hO6 hg6 ha6
        obtain ⟨a6, n6, c6, e6, -⟩ := hO6.shape
        subst e6
        have HO6 := hid hO6
        rw [← List.append_assoc] at HO6
        have HI6 := hid (HG6.out _ hg6)
        clear hO6 hg6 ha6 HDR
        go_wp2_with fail
        refine (HSP.out _ _ _ _ _ _ HNE.out (HLO6.out _ _ _ _ HO6.out (fun y hy => HR5.out y _ hy))).mono ?_
        rintro e w7 h7
        obtain ⟨v7, rfl, h8, h9⟩ := HFN.out _ _ _ _ _ HO6.out (fun y hy => HR5.out y _ hy) HI6.out h7
        have H8 := hid h8
        have H9 := hid h9
        clear h7 h8 h9
        go_wp2
        go_ret
        exact ⟨_, rfl, H8.out, H9.out⟩
end Go.Proofs.Ytkflneeifllpgaa
/-
  Cells that are stored in a row one behind the other.
-/
namespace Go.Proofs.Ytkflneeifllpgaa
open Go.RowKit
def setL : List Value → Nat → List Value → List Value
  | cl, _, [] => cl
  | cl, o, v :: vs => setL (cl.set o v) (o + 1) vs
theorem setL_length (vs : List Value) : ∀ (cl : List Value) (o : Nat), (setL cl o vs).length = cl.length := by
  induction vs with
  | nil => intro cl o; rfl
  | cons v vs ih => intro cl o; rw [setL, ih, List.length_set]
theorem setL_at (vs : List Value) : ∀ (cl : List Value) (o x : Nat), (setL cl o vs)[x]? = if o ≤ x ∧ x < o + vs.length ∧ x < cl.length then vs[x - o]? else cl[x]? := by
  induction vs with
  | nil => intro cl o x; rw [setL, if_neg]; simp; omega
  | cons v vs ih =>
    intro cl o x
    rw [setL, ih, List.length_set, List.length_cons]
    by_cases h1 : o + 1 ≤ x ∧ x < o + 1 + vs.length ∧ x < cl.length
    · rw [if_pos h1, if_pos (by omega)]
      obtain ⟨y, rfl⟩ : ∃ y, x = o + 1 + y := ⟨x - (o + 1), by omega⟩
      rw [show o + 1 + y - (o + 1) = y by omega, show o + 1 + y - o = y + 1 by omega]
      rfl
    · rw [if_neg h1, List.getElem?_set]
      by_cases h2 : o = x
      · subst h2
        rw [if_pos rfl]
        by_cases h3 : o < cl.length
        · rw [if_pos h3, if_pos (by omega), Nat.sub_self]; rfl
        · rw [if_neg h3, if_neg (by omega), List.getElem?_eq_none (by omega)]
      · rw [if_neg h2, if_neg (by omega)]
theorem bk_setL {g : Nat} {T : TypeId} (vs : List Value) : ∀ (o : Nat) (w : World) (cl : List Value), Bk w g T cl → Bk (w.setCells g o vs) g T (setL cl o vs) := by
  induction vs with
  | nil => intro o w cl h; exact h
  | cons v vs ih => intro o w cl h; rw [World.setCells, setL]; exact ih (o + 1) _ _ (h.set o v)
theorem only_setL {R : Nat → Prop} {b : Nat} (h : R b) : ∀ (vs : List Value) (o : Nat) (w : World), Only R w (w.setCells b o vs)
  | [], _, w => Only.refl _ _
  | v :: vs, o, w => by
    rw [World.setCells]
    exact (only_set h v).trans (only_setL h vs (o + 1) _)
/-- What taking the element i out of a row leaves. -/
theorem del_list (cl xs zs : List Value) (i n s : Nat) (hi : i < n) (hl : n * s ≤ cl.length) (hx : cl.take (n * s) = xs) :
    (setL (setL cl (i * s) (xs.drop ((i + 1) * s))) ((n - 1) * s) zs).take ((n - 1) * s) = xs.take (i * s) ++ xs.drop ((i + 1) * s) := by
  have hxl : xs.length = n * s := by rw [← hx, List.length_take]; omega
  have e1 : (n - 1) * s + s = n * s := by rw [← Nat.succ_mul]; congr 1; omega
  have e2 : (i + 1) * s = i * s + s := Nat.succ_mul i s
  have e3 : (i + 1) * s ≤ n * s := Nat.mul_le_mul_right s hi
  have hd : (xs.drop ((i + 1) * s)).length = n * s - (i + 1) * s := by rw [List.length_drop, hxl]
  apply List.ext_getElem?
  intro x
  rw [List.getElem?_take]
  have hin : ∀ y, y < n * s → cl[y]? = xs[y]? := by
    intro y hy
    rw [← hx, List.getElem?_take, if_pos hy]
  by_cases h1 : x < (n - 1) * s
  · rw [if_pos h1, setL_at, if_neg (by omega), setL_at, hd]
    by_cases h2 : x < i * s
    · rw [if_neg (by omega), List.getElem?_append_left (by rw [List.length_take, hxl]; omega), List.getElem?_take, if_pos h2]
      exact hin x (by omega)
    · rw [if_pos (by omega), List.getElem?_append_right (by rw [List.length_take, hxl]; omega), List.length_take, hxl, Nat.min_eq_left (by omega)]
  · rw [if_neg h1, List.getElem?_eq_none (by rw [List.length_append, List.length_take, hxl, hd]; omega)]
def DelPost (E : TypeId) (size base : Nat) (xs : List Value) (n : Nat) (v : Value) (w : World) (e : Ending) (w' : World) : Prop :=
  ∃ g c, v = .slice (some ⟨g, 0, none⟩) (n + 1) c ∧ e = .returned (.slice (some ⟨g, 0, none⟩) n c) ∧ w'.ownsRow base E size (.slice (some ⟨g, 0, none⟩) n c) n xs ∧ Only (fun y => y = g) w w'
end Go.Proofs.Ytkflneeifllpgaa
/-
  put: a pair comes in below a limb; what is too much for it comes newly behind it.
-/
namespace Go.Proofs.Ytkflneeifllpgaa
open Go.RowKit
theorem below_dn (w : World) (q : Nat) : Below w.heap.size w (w.drewN q) := ⟨rfl, rfl, rfl, Nat.le_refl _, fun _ _ => rfl⟩
def PutPost (w : World) (S : Nat → Prop) (b : Nat) (x : T × T) (e : Ending) (w' : World) : Prop := ∃ b2, e = .returned (.pointer (some ⟨b2, 0, none⟩)) ∧ TwoL w w' b b2 x.1 x.2 S
theorem limb_bare (w : World) : Limb (w.alloc (.cells #[.slice none 0 0, .slice none 0 0] 112)) (fun x => x = w.heap.size) w.heap.size bareT :=
  .mk _ _ (.slice none 0 0) (.slice none 0 0) [] [] (fun _ => 0) (fun _ _ => False) rfl (Bk.new w 112 [.slice none 0 0, .slice none 0 0]) (World.ownsRow_nil _ _ _ _) (World.ownsRow_nil _ _ _ _) (fun x hx => by cases hx) (fun x hx => by cases hx) (fun i hi => by simp at hi) (fun i j hi => by simp at hi) (fun i hi => by simp at hi)
theorem put_end {w w1 w2 : World} {b : Nat} {t1 : T} {x : T × T} {S S' : Nat → Prop} (h1 : ∀ y, S' y → (S y ∨ w.heap.size ≤ y) ∧ y < w1.heap.size) (hon : Only S w w1)
    (h : TwoL (w1.alloc (.cells #[.slice none 0 0, .slice none 0 0] 112)) w2 b w1.heap.size (shT t1 bareT).1 (shT t1 bareT).2 (fun y => S' y ∨ y = w1.heap.size)) (hx : x = shT t1 bareT) :
    PutPost w S b x (.returned (.pointer (some ⟨w1.heap.size, 0, none⟩))) w2 := by
  subst hx
  obtain ⟨S1, S2, k1, k2, k3, k4, k5⟩ := h
  have hs := hon.size
  refine ⟨_, rfl, S1, S2, k1, k2, k3, fun y hy => ⟨?_, (k4 y hy).2⟩, (hon.trans (only_alloc _ _ _)).then k5 ?_⟩
  · rcases (k4 y hy).1 with (h | h) | h
    · exact (h1 y h).1
    · right; omega
    · right; simp at h; omega
  · rintro i hi (h | h)
    · rcases (h1 i h).1 with h | h
      · exact h
      · omega
    · omega
theorem small_out {h : Nat} {r : Bool} {l : List PB} {x : T × T} (g : PutOut h r l x) : x.2.ps.length + x.2.ks.length ≤ 8 := by
  cases e : x.2.bare with
  | true => rw [bare_iff.1 e]; decide
  | false =>
    have := (g.both e).2
    clear g e
    generalize x.2 = y at *
    obtain ⟨ps, ks⟩ := y
    simp only [T.ps, T.ks]
    by_cases hk : ks = []
    · subst hk; have := full_lf this; simp; omega
    · obtain ⟨_, h2, rfl, _⟩ := full_br this hk; simp; omega
theorem PutIn.small {h : Nat} {r : Bool} {t : T} (g : PutIn h r t) : t.ps.length ≤ 4 ∧ t.ks.length ≤ 4 := by
  obtain ⟨ps, ks⟩ := t
  simp only [T.ps, T.ks]
  rcases g.full with hf | ⟨_, e⟩
  · by_cases hk : ks = []
    · subst hk; exact ⟨(full_lf hf).1, by simp⟩
    · obtain ⟨_, h2, rfl, _⟩ := full_br hf hk; exact ⟨by simp, h2⟩
  · cases e; simp
set_option maxHeartbeats 1000000 in
set_option maxRecDepth 20000 in
theorem put_any : ∀ (f : Nat) (r : Bool) (S : Nat → Prop) (b : Nat) (t : T) (k v : ByteArray) (w : World), Limb w S b t → (∀ x, S x → x < w.heap.size) → PutIn f r t →
    Calls Try.prog 76 #[.pointer (some ⟨b, 0, none⟩), .agg #[.string k, .string v]] w fun e w' => PutPost w S b (putF f t (k, v)) e w' := by
  intro f
  induction f with
  | zero => intro r S b t k v w _ _ g; exact g.ev.elim
  | succ f ih =>
  intro r S b t k v w hL hS g
  have hb := below_new (o := .cells #[.string k, .string v] 35) (w := w) (Below.refl _ _)
  have HB0 := hid hb
  have KP := hid (Bk.new w 35 [.string k, .string v])
  have HL0 := hid (hL.kept hb)
  have HS0 : Hid (∀ x, S x → x < (w.alloc (.cells #[.string k, .string v] 35)).heap.size) := fun x hx => Nat.lt_of_lt_of_le (hS x hx) hb.size
  have HSW := hid hS
  have hlv := g.small
  have HG := hid g
  have IH := hid ih
  clear hb hL hS g ih
  have p0 := KP.out.cell (j := 0) rfl
  have p1 := KP.out.cell (j := 1) rfl
  have HTG := hid (fun (S1 : Nat → Prop) (t1 : T) (w1 : World) (h1 : Limb w1 S1 b t1) (h2 : ∀ x, S1 x → x < w1.heap.size) (h3 : t1.ps.length ≤ 1000) (h4 : t1.ks.length ≤ 1000) => together_any S1 (fun x => x = w1.heap.size) b w1.heap.size t1 bareT (w1.alloc (.cells #[.slice none 0 0, .slice none 0 0] 112)) (h1.kept (below_new (Below.refl _ _))) (limb_bare w1) (fun x hx e => by have := h2 x hx; omega) (fun x hx => by have := h2 x hx; simp; omega) (fun x hx => by simp [hx]) (by show (t1.ps ++ []).length ≤ _; rw [List.append_nil]; omega) (by show (t1.ks ++ []).length ≤ _; rw [List.append_nil]; omega))
  by_cases hk : t.ks = []
  · have hlz : decide (t.ks.length = 0) = true := by simp [hk]
    have HF : Hid (putF (f + 1) t (k, v) = shT (.mk (insP t.ps (k, v)) t.ks) bareT) := by show _ = _; rw [putF, if_pos hk]
    have HA : Hid (Asc t.ps) := by
      obtain ⟨ps, ks⟩ := t
      cases (show ks = [] from hk)
      exact HG.out.leaf.2.2.2
    have HPP := hid (fun (w' : World) h1 h2 => putPair_any S b t k v w' h1 h2 HA.out (by omega))
    have HLF := hid (fun (w' : World) h1 => isLeaf_any S b t w' h1)
    rw [hlz] at HLF
    have HI3 : Hid ((insP t.ps (k, v)).length ≤ 1000) := by have := insP_len t.ps (k, v); show _ ≤ _; omega
    have HI4 : Hid (t.ks.length ≤ 1000) := by show _ ≤ _; omega
    clear hlv hlz
    go_enter Try.func76, Try.ntmps76
    go_wp2_with fail
    refine (HLF.out _ HL0.out).mono ?_
    generalize hU : w.alloc (.cells #[.string k, .string v] 35) = U at *
    clear hU
    rintro e w1 ⟨rfl, rfl⟩
    go_wp2_with fail
    refine (HPP.out _ HL0.out HS0.out).mono ?_
    rintro e w1 ⟨rfl, h1⟩
    obtain ⟨S', k1, k2, k3⟩ := h1.from HB0.out
    have H1 := hid k1
    have H2 := hid k2
    have H3 := hid k3
    clear h1 k1 k2 k3
    go_wp2_with fail
    refine (HTG.out S' _ w1 H1.out (fun x hx => (H2.out x hx).2) HI3.out HI4.out).mono ?_
    rintro e w2 ⟨rfl, h2⟩
    have H4 := hid h2
    clear h2
    go_wp2
    go_ret
    exact put_end H2.out H3.out H4.out HF.out
  · obtain ⟨ps, ks⟩ := t
    simp only [T.ks, T.ps] at hk hlv
    have hlz : decide ((T.mk ps ks).ks.length = 0) = false := decide_eq_false (by simp only [T.ks]; have := List.length_pos_iff.2 hk; omega)
    obtain ⟨hp0, hl1, hl2, hf3, he4, ha5⟩ := HG.out.kids hk
    obtain ⟨hq, _, _⟩ := kidOf_spec k hk
    have HF : Hid (putF (f + 1) (.mk ps ks) (k, v) = shT (.mk ps (insK ks (kidOf ks k) (putF f (tAt ks (kidOf ks k)) (k, v)))) bareT) := by show _ = _; rw [putF]; simp only [T.ks, T.ps, hk, if_false]
    have HOUT := hid (putF_out f false _ (k, v) (HG.out.kid hk k))
    have HKG := hid (HG.out.kid hk k)
    have HKF := hid (fun (w' : World) h1 => kidFor_any S b (.mk ps ks) k w' h1 hf3 (by simp only [T.ks]; omega))
    have HLF := hid (fun (w' : World) h1 => isLeaf_any S b (.mk ps ks) w' h1)
    rw [hlz] at HLF
    simp only [T.ks] at HKF
    have HLEN : Hid (∀ r, (insK ks (kidOf ks k) r).length ≤ 1000) := fun r => by have := insK_len ks (kidOf ks k) r; omega
    have HPL : Hid (ps.length ≤ 1000) := by show _ ≤ _; omega
    have hkl : ks.length ≤ 4 := hl2
    clear hlz hp0 hl1 hl2 hf3 he4 ha5 hlv HG
    go_enter Try.func76, Try.ntmps76
    go_wp2_with fail
    refine (HLF.out _ HL0.out).mono ?_
    generalize hU : w.alloc (.cells #[.string k, .string v] 35) = U at *
    clear hU
    rintro e w1 ⟨rfl, rfl⟩
    go_wp2_with fail
    refine (HKF.out _ HL0.out).mono ?_
    rintro e w9 ⟨rfl, n1, rfl⟩
    have HB1 := hid (Below.then' HB0.out (below_dn w1 n1) (Nat.le_refl _))
    have p0' := (KP.out.below (below_dn w1 n1)).cell (j := 0) rfl
    have p1' := (KP.out.below (below_dn w1 n1)).cell (j := 1) rfl
    have HL1 := hid (HL0.out.kept (below_dn w1 n1))
    have HS1 : Hid (∀ x, S x → x < (w1.drewN n1).heap.size) := HS0.out
    generalize hW : w1.drewN n1 = W at *
    clear hW p0 p1 HB0 HL0 HS0 KP HKF HLF
    obtain ⟨pv, kv, A, SS, lb⟩ := HL1.out.lb
    obtain ⟨ak, ck, e5⟩ := own_shape lb.hK
    subst e5
    have c1 := lb.hB.cell (j := 1) rfl
    generalize hqq : kidOf ks k = q at *
    clear hqq
    obtain ⟨g, off, hak, hSg, hgl, hcell⟩ := (rw_own lb.hK (S := fun _ => True) (fun _ _ _ _ => trivial)).at (by omega)
    subst hak
    have cq := hcell q _ (ptrs_at A _ q hq)
    have HLB := hid lb
    have hq' : (q : Int) < (ks.length : Int) := by omega
    have hq0 : (0 : Int) ≤ (q : Int) := by omega
    have HLK := hid (lb.hk q hq)
    have HSK : Hid (∀ x, SS q x → x < W.heap.size) := fun x hx => HS1.out x (lb.hSS q hq x hx).1
    have HQ := hid hq
    have HKL := hid hkl
    simp only [ptr] at cq
    generalize hbq : A q = bq at *
    have HBQ := hid hbq
    clear hcell hSg hgl lb hbq hkl hq
    generalize hnk : ks.length = nk at *
    have HNK := hid hnk
    clear hnk
    go_wp2_with fail
    have HTW : Hid (∀ (w2 : World) (b2 : Nat), TwoL W.drew w2 bq b2 (putF f (tAt ks q) (k, v)).1 (putF f (tAt ks q) (k, v)).2 (SS q) → TwoL W w2 bq b2 (putF f (tAt ks q) (k, v)).1 (putF f (tAt ks q) (k, v)).2 (SS q)) := by
      rintro w2 b2 ⟨S1, S2, k1, k2, k3, k4, k5⟩
      exact ⟨S1, S2, k1, k2, k3, k4, (only_of_below (below_drew W) _).trans k5⟩
    go_cut [6] (fun x v2 => ∃ b2, x = .pointer (some ⟨b2, 0, none⟩) ∧ Hid (TwoL W v2 bq b2 (putF f (tAt ks q) (k, v)).1 (putF f (tAt ks q) (k, v)).2 (SS q)))
    case first =>
      go_region_with (go_at_call 76; refine (IH.out false (SS q) bq (tAt ks q) k v _ (HLK.out.kept (below_drew _)) HSK.out HKG.out).mono ?_; rintro e w2 ⟨b2, rfl, htwo⟩)
      all_goals (go_wp2_with fail; go_meet)
      all_goals exact ⟨_, rfl, HTW.out _ _ htwo⟩
    case rest =>
      obtain ⟨b2, rfl, HT⟩ := hcut
      clear c1 cq p0' p1' HTW
      obtain ⟨S1, S2, hT1, hT2, hT3, hT4, hT5⟩ := HT.out
      clear HT
      have HBR := hid (HOUT.out)
      have HBA := hid (fun (w' : World) h1 => isBare_any S2 b2 (putF f (tAt ks q) (k, v)).2 w' h1 (Nat.le_trans (small_out HOUT.out) (by omega)))
      generalize hrr : putF f (tAt ks q) (k, v) = rr at *
      clear hrr
      have HK := hid (HLB.out.kid HS1.out (by rw [HNK.out]; exact HQ.out) (by rw [HBQ.out]; exact hT1) (fun x hx => hT4 x (.inl hx)) hT5)
      have HON : Hid (Only S w wc) := (only_of_below HB1.out S).then hT5 (fun x hx h => (HLB.out.hSS q (by rw [HNK.out]; exact HQ.out) x h).1)
      have HSL : Hid (∀ y, S y ∨ S1 y → (S y ∨ w.heap.size ≤ y) ∧ y < wc.heap.size) := by
        have hsz1 := HB1.out.size
        have hsz2 := hT5.size
        rintro y (h | h)
        · have := HSW.out y h; exact ⟨.inl h, by omega⟩
        · refine ⟨?_, (hT4 y (.inl h)).2⟩
          rcases (hT4 y (.inl h)).1 with h2 | h2
          · exact .inl (HLB.out.hSS q (by rw [HNK.out]; exact HQ.out) y h2).1
          · right; omega
      have HF2 : Hid (∀ y, S2 y → (S y ∨ w.heap.size ≤ y) ∧ y < wc.heap.size) := by
        have hsz1 := HB1.out.size
        intro y h
        refine ⟨?_, (hT4 y (.inr h)).2⟩
        rcases (hT4 y (.inr h)).1 with h2 | h2
        · exact .inl (HLB.out.hSS q (by rw [HNK.out]; exact HQ.out) y h2).1
        · right; omega
      have HAP : Hid (∀ y, S2 y → y ≠ b ∧ pv.ownBlock ≠ some y ∧ (Value.slice (some ⟨g, off, none⟩) nk ck).ownBlock ≠ some y) := by
        intro y h
        rcases (hT4 y (.inr h)).1 with h2 | h2
        · exact (HLB.out.hSS q (by rw [HNK.out]; exact HQ.out) y h2).2
        · refine ⟨fun e => ?_, fun e => ?_, fun e => ?_⟩
          · have := HLB.out.hB.lt; omega
          · have := HS1.out y (HLB.out.hPS y e).1; omega
          · have := HS1.out y (HLB.out.hKS y e).1; omega
      have HAK : Hid (∀ i, i < (ks.set q rr.1).length → ∀ y, (if i = q then S1 else SS i) y → ¬ S2 y) := by
        intro i hi y hy h
        rw [List.length_set] at hi
        by_cases e : i = q
        · rw [if_pos e] at hy; exact hT3 y hy h
        · rw [if_neg e] at hy
          rcases (hT4 y (.inr h)).1 with h2 | h2
          · exact HLB.out.hD i q hi (by rw [HNK.out]; exact HQ.out) e y hy h2
          · have := HS1.out y (HLB.out.hSS i hi y hy).1; omega
      have HT2 := hid hT2
      clear hT1 hT2 hT3 hT4 hT5 HLB HS1 HSK HLK HL1 HB1 IH HKG
      go_wp2_with fail
      refine (HBA.out _ HT2.out).mono ?_
      rintro e w9 ⟨rfl, n2, rfl⟩
      have HK2 := hid (HK.out.kept (below_dn wc n2))
      have HT3 := hid (HT2.out.kept (below_dn wc n2))
      have HON2 : Hid (Only S w (wc.drewN n2)) := HON.out.trans (only_of_below (below_dn wc n2) _)
      have HSL2 : Hid (∀ y, S y ∨ S1 y → (S y ∨ w.heap.size ≤ y) ∧ y < (wc.drewN n2).heap.size) := HSL.out
      have HF3 : Hid (∀ y, S2 y → (S y ∨ w.heap.size ≤ y) ∧ y < (wc.drewN n2).heap.size) := HF2.out
      generalize hX : wc.drewN n2 = X at *
      clear hX HK HT2 HON HSL HF2 HBA
      have x1 := HK2.out.hB.cell (j := 1) rfl
      cases hbr : rr.2.bare with
      | true =>
        have HKS : Hid (insK ks q rr = ks.set q rr.1) := by show _ = _; rw [insK, if_pos hbr]
        have HTG2 := hid (HTG.out (fun y => S y ∨ S1 y) (.mk ps (ks.set q rr.1)) X HK2.out.limb (fun x hx => (HSL2.out x hx).2) HPL.out (by have := HLEN.out rr; rw [HKS.out] at this; exact this))
        clear hbr
        go_wp2_with fail
        refine HTG2.out.mono ?_
        rintro e w2 ⟨rfl, h2⟩
        have H4 := hid h2
        clear h2
        go_wp2
        go_ret
        exact put_end HSL2.out HON2.out H4.out (by rw [HF.out, HKS.out])
      | false =>
        have HKS : Hid (insK ks q rr = (ks.set q rr.1).take (q + 1) ++ [rr.2] ++ (ks.set q rr.1).drop (q + 1)) := by show _ = _; rw [insK, if_neg (by rw [hbr]; simp)]
        have hsl : (ks.set q rr.1).length = nk := by rw [List.length_set, HNK.out]
        have HK3 := hid HK2.out.hK
        rw [hsl] at HK3
        have hbn := below_new (o := .cells #[ptr b2] 66) (w := X) (Below.refl _ _)
        have HBN := hid hbn
        have hne1 : (Value.slice (some ⟨g, off, none⟩) nk ck).ownBlock ≠ some b := fun e => (HK2.out.hKS b e).2.1 rfl
        have HNE := hid hne1
        have HIN := hid (insertL_any (.slice (some ⟨g, off, none⟩) nk ck) nk (q + 1) X.heap.size 0 (ptrs A nk) [ptr b2] (X.alloc (.cells #[ptr b2] 66)) (own_kept HK3.out (only_of_below hbn (fun _ => False)) (fun _ _ h => h)) (Nat.zero_le _) (by have := HQ.out; omega) (by have := HKL.out; omega) (Bk.new X 66 [ptr b2]) rfl (ptrs_one A nk) (by intro u hu; simp at hu; subst hu; rfl) (fun e => by have := (World.ownsRow.lt HK3.out _ e).2; omega))
        rw [show ((q + 1 : Nat) : Int) = (q : Int) + 1 by omega] at HIN
        have KB := hid (HK2.out.hB.below hbn)
        have HFIN : Hid (∀ (a3 : Option Addr) (c3 : Nat) (w3 : World), w3.ownsRow 0 66 1 (.slice a3 (nk + 1) c3) (nk + 1) ((ptrs A nk).take (q + 1) ++ [ptr b2] ++ (ptrs A nk).drop (q + 1)) → (X.alloc (.cells #[ptr b2] 66)).grownBy w3 (Value.slice (some ⟨g, off, none⟩) nk ck).ownBlock →
            ((Value.slice a3 (nk + 1) c3).ownBlock = (Value.slice (some ⟨g, off, none⟩) nk ck).ownBlock ∨ ∃ z, (Value.slice a3 (nk + 1) c3).ownBlock = some z ∧ (X.alloc (.cells #[ptr b2] 66)).heap.size ≤ z) → OneL X (w3.setCell ⟨b, 1, none⟩ (.slice a3 (nk + 1) c3)) b (.mk ps (insK ks q rr)) (fun y => (S y ∨ S1 y) ∨ S2 y)) := by
          intro a3 c3 w3 hO3 hg3 hw3
          have hbl := HK2.out.hB.lt
          have hne3 : (Value.slice a3 (nk + 1) c3).ownBlock ≠ some b := by
            rcases hw3 with e | ⟨z, e, hz⟩
            · rw [e]; exact hne1
            · rw [e]; intro h; cases h; simp at hz; omega
          rw [HKS.out]
          refine HK2.out.ins (fun x hx => (HSL2.out x hx).2) (by rw [hsl]; have := HQ.out; omega) HT3.out (fun x hx => ⟨(HAP.out x hx).1, (HAP.out x hx).2.1, (HAP.out x hx).2.2, (HF3.out x hx).2⟩) HAK.out ((bk_grown KB.out hg3 hne1).set 1 _) ?_ ?_ ?_
          · rw [hsl]; exact own_kept hO3 (only_set (R := fun y => y = b) rfl _) (fun z e h => hne3 (h ▸ e))
          · exact ((only_of_below hbn _).trans (only_of_grown hg3 (R := fun y => y = b ∨ (Value.slice (some ⟨g, off, none⟩) nk ck).ownBlock = some y) (fun z e => .inr e))).trans (only_set (R := fun y => y = b ∨ (Value.slice (some ⟨g, off, none⟩) nk ck).ownBlock = some y) (.inl rfl) _)
          · rcases hw3 with e | ⟨z, e, hz⟩
            · exact .inl e
            · exact .inr ⟨z, e, Nat.le_trans hbn.size hz⟩
        simp only [ptr] at HIN HFIN KB
        clear hbn hne1 hsl HK3 hbr
        have hq9 : (q : Int) ≤ 1000 := by have := HKL.out; omega
        go_wp2_with fail
        refine HIN.out.mono ?_
        rintro e w3 ⟨a3, c3, rfl, hO3, hg3, hw3⟩
        have e0 := (bk_grown KB.out hg3 HNE.out).cell (j := 1) rfl
        have e1 := (bk_grown KB.out hg3 HNE.out).free 1
        obtain ⟨S', k1, k2, k3⟩ := HFIN.out a3 c3 w3 hO3 hg3 hw3
        have HE1 := hid k1
        have HE2 : Hid (∀ y, S' y → (S y ∨ w.heap.size ≤ y) ∧ y < (w3.setCell ⟨b, 1, none⟩ (.slice a3 (nk + 1) c3)).heap.size) := by
          have hsz := HON2.out.size
          intro y hy
          refine ⟨?_, (k2 y hy).2⟩
          rcases (k2 y hy).1 with (h | h) | h
          · exact (HSL2.out y h).1
          · exact (HF3.out y h).1
          · right; omega
        have HE3 : Hid (Only S w (w3.setCell ⟨b, 1, none⟩ (.slice a3 (nk + 1) c3))) := by
          refine HON2.out.then k3 ?_
          rintro y hy (h | h)
          · rcases (HSL2.out y h).1 with h | h
            · exact h
            · omega
          · rcases (HF3.out y h).1 with h | h
            · exact h
            · omega
        have HTG2 := hid (HTG.out S' _ _ k1 (fun x hx => (k2 x hx).2) HPL.out (HLEN.out rr))
        have HZ : Hid ((w3.setCell ⟨b, 1, none⟩ (.slice a3 (nk + 1) c3)).heap.size = w3.heap.size) := by show _ = _; simp [World.setCell]
        rw [HZ.out] at HTG2
        clear k1 k2 k3 hO3 hg3 hw3 HFIN HIN
        go_wp2_with fail
        refine HTG2.out.mono ?_
        rintro e w2 ⟨rfl, h2⟩
        have H4 := hid h2
        clear h2
        go_wp2
        go_ret
        have H5 := put_end HE2.out HE3.out (by rw [HZ.out]; exact H4.out) HF.out
        rw [HZ.out] at H5
        exact H5
end Go.Proofs.Ytkflneeifllpgaa
/-
  mend: two neighbouring kids are put together.
-/
namespace Go.Proofs.Ytkflneeifllpgaa
open Go.RowKit
/-- Two kids have turned; all else is as it was. -/
theorem LB.kid2 {w w' : World} {S : Nat → Prop} {b : Nat} {pv kv : Value} {ps : List PB} {ks : List T} {A : Nat → Nat} {SS : Nat → Nat → Prop} (h : LB w S b pv kv ps ks A SS) (hS : ∀ x, S x → x < w.heap.size) {p q : Nat} (hp : p < ks.length) (hq : q < ks.length) (hpq : p ≠ q) {S1 S2 : Nat → Prop} {t1 t2 : T} (hL1 : Limb w' S1 (A p) t1) (hL2 : Limb w' S2 (A q) t2) (h12 : ∀ x, S1 x → ¬ S2 x)
    (h1 : ∀ x, S1 x ∨ S2 x → ((SS p x ∨ SS q x) ∨ w.heap.size ≤ x) ∧ x < w'.heap.size) (hon : Only (fun x => SS p x ∨ SS q x) w w') :
    LB w' (fun x => S x ∨ S1 x ∨ S2 x) b pv kv ps ((ks.set p t1).set q t2) A (fun i => if i = q then S2 else if i = p then S1 else SS i) := by
  obtain ⟨hb, hB, hP, hK, hPS, hKS, hSS, hD, hk⟩ := h
  have hPl := World.ownsRow.lt hP
  have hKl := World.ownsRow.lt hK
  have hin : ∀ x, SS p x ∨ SS q x → S x ∧ x ≠ b ∧ pv.ownBlock ≠ some x ∧ kv.ownBlock ≠ some x := fun x h => h.elim (hSS p hp x) (hSS q hq x)
  have hnew : ∀ x, S1 x ∨ S2 x → x ≠ b ∧ pv.ownBlock ≠ some x ∧ kv.ownBlock ≠ some x := by
    intro x hx
    rcases (h1 x hx).1 with h | h
    · exact (hin x h).2
    · refine ⟨fun h' => ?_, fun h' => ?_, fun h' => ?_⟩
      · have := hS b hb; omega
      · have := (hPl x h').2; omega
      · have := (hKl x h').2; omega
  have hfar : ∀ i, i < ks.length → i ≠ p → i ≠ q → ∀ x, SS i x → ¬ (S1 x ∨ S2 x) := by
    intro i hi e1 e2 x hx hy
    rcases (h1 x hy).1 with (h | h) | h
    · exact hD i p hi hp e1 x hx h
    · exact hD i q hi hq e2 x hx h
    · have := hS x (hSS i hi x hx).1; omega
  have hl : ((ks.set p t1).set q t2).length = ks.length := by rw [List.length_set, List.length_set]
  refine ⟨.inl hb, hB.to hon (fun h => (hin b h).2.1 rfl), own_kept hP hon (fun k e h => (hin k h).2.2.1 e), by rw [hl]; exact own_kept hK hon (fun k e h => (hin k h).2.2.2 e), fun x hx => ⟨.inl (hPS x hx).1, (hPS x hx).2⟩, fun x hx => ⟨.inl (hKS x hx).1, (hKS x hx).2⟩, ?_, ?_, ?_⟩
  · intro i hi x hx
    rw [hl] at hi
    by_cases e : i = q
    · rw [if_pos e] at hx; exact ⟨.inr (.inr hx), hnew x (.inr hx)⟩
    · rw [if_neg e] at hx
      by_cases e2 : i = p
      · rw [if_pos e2] at hx; exact ⟨.inr (.inl hx), hnew x (.inl hx)⟩
      · rw [if_neg e2] at hx; exact ⟨.inl (hSS i hi x hx).1, (hSS i hi x hx).2⟩
  · intro i j hi hj hij x hx hy
    rw [hl] at hi hj
    by_cases e : i = q
    · rw [if_pos e] at hx
      rw [if_neg (by omega)] at hy
      by_cases e2 : j = p
      · rw [if_pos e2] at hy; exact h12 x hy hx
      · rw [if_neg e2] at hy; exact hfar j hj e2 (by omega) x hy (.inr hx)
    · rw [if_neg e] at hx
      by_cases e2 : i = p
      · rw [if_pos e2] at hx
        by_cases e3 : j = q
        · rw [if_pos e3] at hy; exact h12 x hx hy
        · rw [if_neg e3, if_neg (by omega)] at hy; exact hfar j hj (by omega) e3 x hy (.inl hx)
      · rw [if_neg e2] at hx
        by_cases e3 : j = q
        · rw [if_pos e3] at hy; exact hfar i hi e2 e x hx (.inr hy)
        · rw [if_neg e3] at hy
          by_cases e4 : j = p
          · rw [if_pos e4] at hy; exact hfar i hi e2 e x hx (.inl hy)
          · rw [if_neg e4] at hy; exact hD i j hi hj hij x hx hy
  · intro i hi
    rw [hl] at hi
    by_cases e : i = q
    · subst e
      rw [if_pos rfl, show tAt ((ks.set p t1).set i t2) i = t2 by simp [tAt, hi]]
      exact hL2
    · rw [if_neg e, show tAt ((ks.set p t1).set q t2) i = tAt (ks.set p t1) i by simp [tAt, Ne.symm e]]
      by_cases e2 : i = p
      · subst e2
        rw [if_pos rfl, show tAt (ks.set i t1) i = t1 by simp [tAt, hi]]
        exact hL1
      · rw [if_neg e2, show tAt (ks.set p t1) i = tAt ks i by simp [tAt, Ne.symm e2]]
        exact (hk i hi).to hon (fun x hx h => h.elim (hD i p hi hp e2 x hx) (hD i q hi hq e x hx))
theorem ptrs_del (A : Nat → Nat) (n p : Nat) (h : p ≤ n) : (ptrs A (n + 1)).take p ++ (ptrs A (n + 1)).drop (p + 1) = ptrs (fun i => if i < p then A i else A (i + 1)) n := by
  apply List.ext_getElem?
  intro i
  by_cases hi : i < p
  · rw [List.getElem?_append_left (by simp [ptrs]; omega), List.getElem?_take, if_pos hi, ptrs_at _ _ _ (by omega), ptrs_at _ _ _ (by omega), if_pos hi]
  · rw [List.getElem?_append_right (by simp [ptrs]; omega), List.getElem?_drop]
    have : p + 1 + (i - (List.take p (ptrs A (n + 1))).length) = i + 1 := by simp [ptrs]; omega
    rw [this]
    by_cases hn : i < n
    · rw [ptrs_at _ _ _ (by omega), ptrs_at _ _ _ hn, if_neg hi]
    · rw [List.getElem?_eq_none (by simp [ptrs]; omega), List.getElem?_eq_none (by simp [ptrs]; omega)]
theorem tAt_del (ks : List T) (p : Nat) (h : p < ks.length) (i : Nat) : tAt (ks.take p ++ ks.drop (p + 1)) i = if i < p then tAt ks i else tAt ks (i + 1) := by
  have hl : (ks.take p).length = p := by rw [List.length_take]; omega
  by_cases hi : i < p
  · rw [tAt_app1 (by omega), tAt_take hi, if_pos hi]
  · rw [tAt_app2 (by omega), tAt_drop, hl, if_neg hi]
    congr 1; omega
/-- A kid is taken out. -/
theorem LB.del {w w' : World} {S : Nat → Prop} {b g c n : Nat} {pv : Value} {ps : List PB} {ks : List T} {A : Nat → Nat} {SS : Nat → Nat → Prop} (h : LB w S b pv (.slice (some ⟨g, 0, none⟩) (n + 1) c) ps ks A SS) (hS : ∀ x, S x → x < w.heap.size) {p : Nat} (hp : p < ks.length) (hn : ks.length = n + 1) (hB' : Bk w' b 112 [pv, .slice (some ⟨g, 0, none⟩) n c])
    (hK' : w'.ownsRow 0 66 1 (.slice (some ⟨g, 0, none⟩) n c) n ((ptrs A (n + 1)).take p ++ (ptrs A (n + 1)).drop (p + 1))) (hon : Only (fun y => y = b ∨ y = g) w w') :
    OneL w w' b (.mk ps (ks.take p ++ ks.drop (p + 1))) S := by
  obtain ⟨hb, hB, hP, hK, hPS, hKS, hSS, hD, hk⟩ := h
  have hl : (ks.take p ++ ks.drop (p + 1)).length = n := by rw [List.length_append, List.length_take, List.length_drop]; omega
  have hg := hKS g rfl
  rw [ptrs_del _ _ _ (by omega)] at hK'
  have hsz := hon.size
  have hin : ∀ i, i < n → (if i < p then i else i + 1) < ks.length := by intro i hi; split <;> omega
  refine ⟨S, .mk S b pv (.slice (some ⟨g, 0, none⟩) n c) ps _ (fun i => if i < p then A i else A (i + 1)) (fun i => SS (if i < p then i else i + 1)) hb hB' (own_kept hP hon ?_) (by rw [hl]; exact hK') hPS (fun x hx => hKS x hx) ?_ ?_ ?_, fun x hx => ⟨.inl hx, by have := hS x hx; omega⟩, hon.mono ?_⟩
  · rintro k e (h | h)
    · exact (hPS k e).2 h
    · exact hg.2.2 (h ▸ e)
  · intro i hi x hx
    rw [hl] at hi
    exact hSS _ (hin i hi) x hx
  · intro i j hi hj hij x hx hy
    rw [hl] at hi hj
    exact hD _ _ (hin i hi) (hin j hj) (by split <;> split <;> omega) x hx hy
  · intro i hi
    rw [hl] at hi
    rw [tAt_del _ _ hp]
    have key := hk _ (hin i hi)
    have h2 := hSS _ (hin i hi)
    by_cases c1 : i < p
    · simp only [c1, if_true] at key h2 ⊢
      exact key.to hon (fun x hx h => h.elim (h2 x hx).2.1 (fun e => (h2 x hx).2.2.2 (by rw [e]; rfl)))
    · simp only [c1, if_false] at key h2 ⊢
      exact key.to hon (fun x hx h => h.elim (h2 x hx).2.1 (fun e => (h2 x hx).2.2.2 (by rw [e]; rfl)))
  · rintro x - (h | h)
    · exact h ▸ hb
    · exact h ▸ hg.1
/-- The kid at i is put together with the one ahead of it; the first with the second. -/
def mendK (ks : List T) (i : Nat) : List T :=
  if (shT (tAt ks (max i 1 - 1)) (tAt ks (max i 1))).2.bare = true then ((ks.set (max i 1 - 1) (shT (tAt ks (max i 1 - 1)) (tAt ks (max i 1))).1).set (max i 1) (shT (tAt ks (max i 1 - 1)) (tAt ks (max i 1))).2).take (max i 1) ++ ((ks.set (max i 1 - 1) (shT (tAt ks (max i 1 - 1)) (tAt ks (max i 1))).1).set (max i 1) (shT (tAt ks (max i 1 - 1)) (tAt ks (max i 1))).2).drop (max i 1 + 1)
  else (ks.set (max i 1 - 1) (shT (tAt ks (max i 1 - 1)) (tAt ks (max i 1))).1).set (max i 1) (shT (tAt ks (max i 1 - 1)) (tAt ks (max i 1))).2
end Go.Proofs.Ytkflneeifllpgaa
/-
  drop: a key is taken out below a limb.
-/
namespace Go.Proofs.Ytkflneeifllpgaa
open Go.RowKit
def delP (l : List PB) (k : ByteArray) : List PB := if there l k = true then l.take (pos l k) ++ l.drop (pos l k + 1) else l
def T.poor (t : T) : Bool := decide (t.ps.length + t.ks.length < 2)
def dropF : Nat → T → ByteArray → T
  | 0, t, _ => t
  | f + 1, t, k => if t.ks = [] then .mk (delP t.ps k) t.ks else
    if (dropF f (tAt t.ks (kidOf t.ks k)) k).poor = true then .mk t.ps (mendK (t.ks.set (kidOf t.ks k) (dropF f (tAt t.ks (kidOf t.ks k)) k)) (kidOf t.ks k)) else .mk t.ps (t.ks.set (kidOf t.ks k) (dropF f (tAt t.ks (kidOf t.ks k)) k))
theorem delP_len (l : List PB) (k : ByteArray) : (delP l k).length ≤ l.length := by
  unfold delP
  split
  · rw [List.length_append, List.length_take, List.length_drop]; omega
  · exact Nat.le_refl _
theorem mendK_len (ks : List T) (i : Nat) : (mendK ks i).length ≤ ks.length := by
  unfold mendK
  split
  · rw [List.length_append, List.length_take, List.length_drop, List.length_set, List.length_set]; omega
  · rw [List.length_set, List.length_set]; exact Nat.le_refl _
theorem dropF_len : ∀ (f : Nat) (t : T) (k : ByteArray), (dropF f t k).ps.length ≤ t.ps.length ∧ (dropF f t k).ks.length ≤ t.ks.length
  | 0, t, k => ⟨Nat.le_refl _, Nat.le_refl _⟩
  | f + 1, t, k => by
    rw [dropF]
    split
    · exact ⟨delP_len _ _, Nat.le_refl _⟩
    · split
      · refine ⟨Nat.le_refl _, ?_⟩
        show (mendK _ _).length ≤ _
        have := mendK_len (t.ks.set (kidOf t.ks k) (dropF f (tAt t.ks (kidOf t.ks k)) k)) (kidOf t.ks k)
        rw [List.length_set] at this
        exact this
      · refine ⟨Nat.le_refl _, ?_⟩
        show (t.ks.set _ _).length ≤ _
        rw [List.length_set]; exact Nat.le_refl _
theorem full_small {x : T} {r : Bool} (h : x.full r = true) : x.ps.length ≤ 4 ∧ x.ks.length ≤ 4 := by
  obtain ⟨ps, ks⟩ := x
  simp only [T.ps, T.ks]
  by_cases hk : ks = []
  · subst hk; exact ⟨(full_lf h).1, by simp⟩
  · obtain ⟨_, h2, rfl, _⟩ := full_br h hk; exact ⟨by simp, h2⟩
theorem pcs_del (ps : List PB) (p : Nat) : (pcs ps).take (p * 2) ++ (pcs ps).drop ((p + 1) * 2) = pcs (ps.take p ++ ps.drop (p + 1)) := by
  rw [pcs_take, pcs_drop, pcs_append]
end Go.Proofs.Ytkflneeifllpgaa
/-
  Taking a key out, as plain data: the program's way and the specification's come to the same; what comes of it is full, even and in order.
-/
namespace Go.Proofs.Ytkflneeifllpgaa
open Go.RowKit
theorem delP_nil (k : ByteArray) : delP [] k = [] := by simp [delP, there, pos]
theorem delP_lt {x : PB} {l : List PB} {k : ByteArray} (h : klt x.1 k = true) : delP (x :: l) k = x :: delP l k := by
  obtain ⟨h1, h2⟩ := there_cons_lt (x := x) (p := (k, k)) (l := l) h
  simp only at h1 h2
  unfold delP
  rw [h1, h2]
  split <;> simp
theorem delP_eq {x : PB} {l : List PB} {k : ByteArray} (h : x.1 = k) : delP (x :: l) k = l := by
  have h0 : klt x.1 k = false := by rw [h]; exact klt_irrefl _
  have h1 := pos_cons_ge (x := x) (p := (k, k)) (l := l) h0
  simp only at h1
  have h2 : there (x :: l) k = true := by unfold there; rw [h1]; simp [pAtB, h]
  unfold delP
  rw [h2, h1]; simp
theorem delP_gt {x : PB} {l : List PB} {k : ByteArray} (h : klt x.1 k = false) (hne : x.1 ≠ k) : delP (x :: l) k = x :: l := by
  have h1 := pos_cons_ge (x := x) (p := (k, k)) (l := l) h
  simp only at h1
  have h2 : there (x :: l) k = false := by unfold there; rw [h1]; simp [pAtB, hne]
  unfold delP
  rw [h2]; simp
theorem delP_left (A : List PB) {B : List PB} {k : ByteArray} (h : ∀ x ∈ A, klt x.1 k = true) : delP (A ++ B) k = A ++ delP B k := by
  induction A with
  | nil => rfl
  | cons a A ih => rw [List.cons_append, delP_lt (h a (by simp)), ih (fun x hx => h x (by simp [hx])), List.cons_append]
theorem delP_right (A : List PB) {B : List PB} {k : ByteArray} (h : ∀ x ∈ B, klt k x.1 = true) : delP (A ++ B) k = delP A k ++ B := by
  induction A with
  | nil =>
    rw [List.nil_append, delP_nil]
    cases B with
    | nil => rw [delP_nil]; rfl
    | cons b B =>
      have := h b (by simp)
      rw [delP_gt (klt_asymm this) (klt_ne this).symm]; rfl
  | cons a A ih =>
    rw [List.cons_append]
    cases hk : klt a.1 k with
    | true => rw [delP_lt hk, delP_lt hk, ih]; rfl
    | false =>
      by_cases e : a.1 = k
      · rw [delP_eq e, delP_eq e]
      · rw [delP_gt hk e, delP_gt hk e]; rfl
theorem delP_mem {l : List PB} {k : ByteArray} {x : PB} (h : x ∈ delP l k) : x ∈ l := by
  unfold delP at h
  split at h
  · rcases List.mem_append.1 h with h | h
    · exact List.mem_of_mem_take h
    · exact List.mem_of_mem_drop h
  · exact h
theorem delP_asc {l : List PB} {k : ByteArray} (h : Asc l) : Asc (delP l k) := by
  unfold delP
  split
  · refine List.Pairwise.sublist ?_ h
    rw [← List.eraseIdx_eq_take_drop_succ]
    exact List.eraseIdx_sublist _ _
  · exact h
theorem delP_ge (l : List PB) (k : ByteArray) : l.length ≤ (delP l k).length + 1 := by
  unfold delP
  split
  · rw [List.length_append, List.length_take, List.length_drop]; omega
  · omega
/-- The specification's way. -/
def delS (l : List PB) (k : ByteArray) : List PB := l.filter fun x => decide (x.1 ≠ k)
theorem delS_eq {l : List PB} {k : ByteArray} (h : Asc l) : delS l k = delP l k := by
  induction l with
  | nil => rw [delP_nil]; rfl
  | cons a l ih =>
    obtain ⟨h1, h2⟩ := List.pairwise_cons.1 h
    unfold delS at ih ⊢
    cases hk : klt a.1 k with
    | true => rw [delP_lt hk, List.filter_cons, if_pos (by simpa using klt_ne hk), ih h2]
    | false =>
      by_cases e : a.1 = k
      · rw [delP_eq e, List.filter_cons, if_neg (by simp [e]), List.filter_eq_self]
        intro x hx
        simpa using fun he => (klt_ne (h1 x hx)) (by rw [e, he])
      · rw [delP_gt hk e, List.filter_cons, if_pos (by simpa using e)]
        congr 1
        rw [List.filter_eq_self]
        intro x hx
        have hlt : klt k a.1 = true := by
          cases hq : klt k a.1 with
          | true => rfl
          | false => exact absurd (key_eq hk hq) e
        simpa using fun he => (klt_ne (klt_trans hlt (h1 x hx))) he.symm
theorem shT_bareT (a b : T) : shT a b = shT (.mk (a.ps ++ b.ps) (a.ks ++ b.ks)) bareT := by simp [shT, bareT, T.ps, T.ks]
theorem mendK_two (ks : List T) (s : Nat) (i : Nat) (hs : max i 1 = s + 1) (h : s + 1 < ks.length) : mendK ks i = ks.take s ++ two (shT (tAt ks s) (tAt ks (s + 1))) ++ ks.drop (s + 2) := by
  unfold mendK
  rw [hs, Nat.add_sub_cancel]
  generalize shT (tAt ks s) (tAt ks (s + 1)) = r
  have e : (ks.set s r.1).set (s + 1) r.2 = ks.take s ++ r.1 :: r.2 :: ks.drop (s + 2) := by
    apply List.ext_getElem?
    intro x
    rw [List.getElem?_set, List.getElem?_set, List.length_set]
    by_cases h1 : s + 1 = x
    · subst h1
      rw [if_pos rfl, if_pos h, List.getElem?_append_right (by rw [List.length_take]; omega), List.length_take, Nat.min_eq_left (by omega), show s + 1 - s = 1 by omega]; rfl
    · rw [if_neg h1]
      by_cases h2 : s = x
      · subst h2
        rw [if_pos rfl, if_pos (by omega), List.getElem?_append_right (by rw [List.length_take]; omega), List.length_take, Nat.min_eq_left (by omega), Nat.sub_self]; rfl
      · rw [if_neg h2]
        by_cases h3 : x < s
        · rw [List.getElem?_append_left (by rw [List.length_take]; omega), List.getElem?_take, if_pos h3]
        · rw [List.getElem?_append_right (by rw [List.length_take]; omega), List.length_take, Nat.min_eq_left (by omega)]
          obtain ⟨y, rfl⟩ : ∃ y, x = s + 2 + y := ⟨x - (s + 2), by omega⟩
          rw [show s + 2 + y - s = y + 1 + 1 by omega, List.getElem?_cons_succ, List.getElem?_cons_succ, List.getElem?_drop]
  rw [e]
  have hl : (ks.take s).length = s := by rw [List.length_take]; omega
  unfold two
  split
  · rw [List.take_append, hl, List.take_of_length_le (show (ks.take s).length ≤ s + 1 by omega), show s + 1 - s = 1 by omega, List.drop_append, hl, List.drop_of_length_le (show (ks.take s).length ≤ s + 1 + 1 by omega), show s + 1 + 1 - s = 2 by omega]; simp
  · simp
/-- What dropping leaves, but for its own fullness. -/
structure Near (h : Nat) (t : T) (l : List PB) : Prop where
  ev : Ev h t
  all : t.all = l
  leaf : t.ks = [] → t.ps.length ≤ 4
  br : t.ks ≠ [] → t.ps = [] ∧ t.ks.length ≤ 4 ∧ ∀ x ∈ t.ks, x.full false = true
theorem Near.full {h : Nat} {t : T} {l : List PB} (g : Near h t l) (hp : t.poor = false) : t.full false = true := by
  have hp : ¬ (t.ps.length + t.ks.length < 2) := of_decide_eq_false hp
  obtain ⟨ps, ks⟩ := t
  by_cases hk : ks = []
  · subst hk; exact full_mk_leaf (g.leaf rfl) (.inl (by simp [T.ps, T.ks] at hp; omega))
  · obtain ⟨h1, h2, h3⟩ := g.br hk
    have h1 : ps = [] := h1
    subst h1
    exact full_mk_br (by simp [T.ps, T.ks] at hp; omega) h2 h3
theorem near_of_full {h : Nat} {t : T} {r : Bool} (he : Ev h t) (hf : t.full r = true) : Near h t t.all := by
  obtain ⟨ps, ks⟩ := t
  refine ⟨he, rfl, fun hk => ?_, fun hk => ?_⟩
  · cases (show ks = [] from hk); exact (full_lf hf).1
  · obtain ⟨_, h2, h3, h4⟩ := full_br hf hk; exact ⟨h3, h2, h4⟩
/-- Two neighbours of one depth, one of them full, one with something: together they are one full node or two. -/
theorem shT_out2 {h : Nat} {a b : T} {la lb : List PB} (ga : Near h a la) (gb : Near h b lb) (hs : 3 ≤ a.ps.length + a.ks.length + (b.ps.length + b.ks.length)) (hs5 : a.ps.length + a.ks.length + (b.ps.length + b.ks.length) ≤ 5) : PutOut h false (la ++ lb) (shT a b) := by
  rw [shT_bareT]
  obtain ⟨pa, ka⟩ := a
  obtain ⟨pb, kb⟩ := b
  simp only [T.ps, T.ks] at hs hs5 ⊢
  cases h with
  | zero => exact ga.ev.elim
  | succ h =>
    rcases ga.ev with ⟨rfl, rfl⟩ | ⟨hka, hea⟩
    · rcases gb.ev with ⟨rfl, _⟩ | ⟨hkb, heb⟩
      · have e : la ++ lb = pa ++ pb := by rw [← ga.all, ← gb.all]; simp [T.all, allL]
        rw [e, List.append_nil]
        refine shT_out_leaf (by simp at hs5 ⊢; omega) (by simp at hs ⊢; omega) (fun _ => by simp at hs ⊢; omega)
      · obtain ⟨x, hx⟩ := List.exists_mem_of_ne_nil kb hkb
        exact (heb x hx).elim
    · rcases gb.ev with ⟨rfl, rfl⟩ | ⟨hkb, heb⟩
      · obtain ⟨x, hx⟩ := List.exists_mem_of_ne_nil ka hka
        exact (hea x hx).elim
      · obtain ⟨a1, _, a3⟩ := ga.br hka
        obtain ⟨b1, _, b3⟩ := gb.br hkb
        have a1 : pa = [] := a1
        have b1 : pb = [] := b1
        subst a1 b1
        have e : la ++ lb = allL (ka ++ kb) := by rw [← ga.all, ← gb.all, allL_append]; simp [T.all]
        rw [e]
        simp only [List.append_nil]
        refine shT_out_br (by simp at hs5 ⊢; omega) (by simp at hs ⊢; omega) (fun x hx => ?_) (fun x hx => ?_)
        · rcases List.mem_append.1 hx with hx | hx
          · exact a3 x hx
          · exact b3 x hx
        · rcases List.mem_append.1 hx with hx | hx
          · exact hea x hx
          · exact heb x hx
theorem full_count {x : T} (h : x.full false = true) : 2 ≤ x.ps.length + x.ks.length ∧ x.ps.length + x.ks.length ≤ 4 := by
  obtain ⟨ps, ks⟩ := x
  simp only [T.ps, T.ks]
  by_cases hk : ks = []
  · subst hk; have := full_lf h; simp at this ⊢; omega
  · obtain ⟨h1, h2, rfl, _⟩ := full_br h hk; simp; omega
theorem dropF_out : ∀ (h : Nat) (r : Bool) (t : T) (k : ByteArray), PutIn h r t → Near h (dropF h t k) (delP t.all k) ∧ t.ps.length + t.ks.length ≤ (dropF h t k).ps.length + (dropF h t k).ks.length + 1
  | 0, r, t, k, g => g.ev.elim
  | h + 1, r, .mk ps ks, k, g => by
    by_cases hk : ks = []
    · subst hk
      obtain ⟨hh, hl, hr, ha⟩ := g.leaf
      obtain rfl : h = 0 := by omega
      rw [dropF]
      simp only [T.ks, T.ps, if_true]
      refine ⟨⟨.inl ⟨rfl, rfl⟩, by simp [T.all, allL], fun _ => ?_, fun h => absurd rfl h⟩, ?_⟩
      · show (delP ps k).length ≤ 4
        have := delP_len ps k; omega
      · show ps.length + 0 ≤ (delP ps k).length + 0 + 1
        have := delP_ge ps k; omega
    · obtain ⟨rfl, h1, h2, h3, h4, h5⟩ := g.kids hk
      obtain ⟨q1, q2, q3⟩ := kidOf_spec k hk
      obtain ⟨a1, a2, a3⟩ := kid_apart h3 h5 q1 q2 q3
      obtain ⟨ih, ihn⟩ := dropF_out h false _ k (g.kid hk k)
      have hkf := full_count (h3 _ (tAt_mem q1))
      have HF : dropF (h + 1) (.mk [] ks) k = if (dropF h (tAt ks (kidOf ks k)) k).poor = true then .mk [] (mendK (ks.set (kidOf ks k) (dropF h (tAt ks (kidOf ks k)) k)) (kidOf ks k)) else .mk [] (ks.set (kidOf ks k) (dropF h (tAt ks (kidOf ks k)) k)) := by rw [dropF]; simp only [T.ks, T.ps, hk, if_false]; rfl
      rw [HF]
      clear HF
      generalize hq : kidOf ks k = q at *
      generalize hrr : dropF h (tAt ks q) k = rr at *
      have hset : ks.set q rr = ks.take q ++ rr :: ks.drop (q + 1) := List.set_eq_take_append_cons_drop.trans (by rw [if_pos q1])
      have hall : allL (ks.set q rr) = delP (T.mk [] ks).all k := by
        rw [hset, allL_append, allL, ih.all, show (T.mk [] ks).all = allL ks by simp [T.all], all_split q1, delP_left _ a1, delP_right _ a2]
      have hmem : ∀ x ∈ ks.set q rr, x = rr ∨ x ∈ ks := fun x hx => (List.mem_or_eq_of_mem_set hx).symm
      have hev : ∀ x ∈ ks.set q rr, Ev h x := fun x hx => (hmem x hx).elim (fun e => e ▸ ih.ev) (h4 x)
      have hln : (ks.set q rr).length = ks.length := List.length_set
      cases hpo : rr.poor with
      | false =>
        rw [if_neg (by simp)]
        refine ⟨⟨.inr ⟨fun e => by rw [e] at hln; simp at hln; omega, hev⟩, by simpa [T.all] using hall, fun e => ?_, fun _ => ⟨rfl, by show (ks.set q rr).length ≤ 4; omega, fun x hx => (hmem x hx).elim (fun e => e ▸ ih.full hpo) (h3 x)⟩⟩, by show 0 + ks.length ≤ 0 + (ks.set q rr).length + 1; omega⟩
        have e : ks.set q rr = [] := e
        rw [e] at hln; simp at hln; omega
      | true =>
        rw [if_pos rfl]
        obtain ⟨s, hs⟩ : ∃ s, max q 1 = s + 1 := ⟨max q 1 - 1, by omega⟩
        have hsl : s + 1 < ks.length := by omega
        have hpoor : rr.ps.length + rr.ks.length < 2 := of_decide_eq_true hpo
        have hrr1 : rr.ps.length + rr.ks.length = 1 := by omega
        rw [mendK_two _ s q hs (by omega)]
        have hat : ∀ i, i < ks.length → tAt (ks.set q rr) i = if i = q then rr else tAt ks i := by
          intro i hi
          by_cases e : i = q
          · subst e; simp [tAt, hi]
          · rw [if_neg e]; simp [tAt, Ne.symm e]
        have hn : ∀ i, i < ks.length → Near h (tAt (ks.set q rr) i) (tAt (ks.set q rr) i).all := by
          intro i hi
          rw [hat i hi]
          by_cases e : i = q
          · rw [if_pos e]; exact ⟨ih.ev, rfl, ih.leaf, ih.br⟩
          · rw [if_neg e]; exact near_of_full (h4 _ (tAt_mem hi)) (h3 _ (tAt_mem hi))
        have hcnt : (tAt (ks.set q rr) s).ps.length + (tAt (ks.set q rr) s).ks.length + ((tAt (ks.set q rr) (s + 1)).ps.length + (tAt (ks.set q rr) (s + 1)).ks.length) ≤ 5 ∧ 3 ≤ (tAt (ks.set q rr) s).ps.length + (tAt (ks.set q rr) s).ks.length + ((tAt (ks.set q rr) (s + 1)).ps.length + (tAt (ks.set q rr) (s + 1)).ks.length) := by
          rw [hat s (by omega), hat (s + 1) hsl]
          rcases (show (s = q ∧ s + 1 ≠ q) ∨ (s ≠ q ∧ s + 1 = q) by omega) with ⟨e1, e2⟩ | ⟨e1, e2⟩
          · rw [if_pos e1, if_neg e2]; have := full_count (h3 _ (tAt_mem hsl)); omega
          · rw [if_neg e1, if_pos e2]; have := full_count (h3 _ (tAt_mem (show s < ks.length by omega))); omega
        have out := shT_out2 (hn s (by omega)) (hn (s + 1) hsl) hcnt.2 hcnt.1
        have hsp : ks.set q rr = (ks.set q rr).take s ++ tAt (ks.set q rr) s :: tAt (ks.set q rr) (s + 1) :: (ks.set q rr).drop (s + 2) := by
          have e1 := ks_split (ks := ks.set q rr) (q := s) (by omega)
          have e2 := drop_tAt (ks := ks.set q rr) (k := s + 1) (by omega)
          rw [e2] at e1
          exact e1
        generalize ks.set q rr = kz at *
        generalize shT (tAt kz s) (tAt kz (s + 1)) = rx at *
        have hsm : ∀ x ∈ kz.take s ++ two rx ++ kz.drop (s + 2), (x ∈ two rx) ∨ (x ∈ kz ∧ (x ∈ kz.take s ∨ x ∈ kz.drop (s + 2))) := by
          intro x hx
          rcases List.mem_append.1 hx with hx | hx
          · rcases List.mem_append.1 hx with hx | hx
            · exact .inr ⟨List.mem_of_mem_take hx, .inl hx⟩
            · exact .inl hx
          · exact .inr ⟨List.mem_of_mem_drop hx, .inr hx⟩
        have hfar : ∀ x, x ∈ kz.take s ∨ x ∈ kz.drop (s + 2) → x.full false = true := by
          intro x hx
          have key : ∃ i, i < ks.length ∧ i ≠ q ∧ x = tAt kz i := by
            rcases hx with hx | hx
            · obtain ⟨i, hi⟩ := List.mem_iff_getElem?.1 hx
              rw [List.getElem?_take] at hi
              split at hi
              · rename_i h9; exact ⟨i, by omega, by omega, by simp [tAt, hi]⟩
              · cases hi
            · obtain ⟨i, hi⟩ := List.mem_iff_getElem?.1 hx
              rw [List.getElem?_drop] at hi
              have := (List.getElem?_eq_some_iff.1 hi).1
              exact ⟨s + 2 + i, by omega, by omega, by simp [tAt, hi]⟩
          obtain ⟨i, hi, hne, rfl⟩ := key
          rw [hat i hi, if_neg hne]
          exact h3 _ (tAt_mem hi)
        have htl := two_len rx
        have hlen : (kz.take s ++ two rx ++ kz.drop (s + 2)).length = s + (two rx).length + (ks.length - (s + 2)) := by simp only [List.length_append, List.length_take, List.length_drop]; omega
        refine ⟨⟨.inr ⟨fun e => by have := congrArg List.length e; rw [hlen, List.length_nil] at this; omega, fun x hx => ?_⟩, ?_, fun e => ?_, fun _ => ⟨rfl, by show (kz.take s ++ two rx ++ kz.drop (s + 2)).length ≤ 4; omega, fun x hx => ?_⟩⟩, by show 0 + ks.length ≤ 0 + (kz.take s ++ two rx ++ kz.drop (s + 2)).length + 1; omega⟩
        · rcases hsm x hx with h | h
          · exact out.ev x h
          · exact hev x h.1
        · rw [← hall]
          show [] ++ allL _ = _
          rw [List.nil_append, allL_append, allL_append, out.all]
          conv => rhs; rw [hsp]
          rw [allL_append, allL, allL]
          simp
        · have e : kz.take s ++ two rx ++ kz.drop (s + 2) = [] := e
          have := congrArg List.length e; rw [hlen, List.length_nil] at this; omega
        · rcases hsm x hx with h | h
          · exact out.fulls x h
          · exact hfar x h.2
theorem full_up {x : T} (h : x.full false = true) : x.full true = true := by
  obtain ⟨ps, ks⟩ := x
  by_cases hk : ks = []
  · subst hk; have := full_lf h; exact full_mk_leaf this.1 (.inl (by simpa using this.2))
  · obtain ⟨h1, h2, rfl, h3⟩ := full_br h hk; exact full_mk_br h1 h2 h3
/-- The root behind the drop. -/
def rootD (t : T) : T := if t.ks.length = 1 then tAt t.ks 0 else t
theorem rootD_out {h : Nat} {t : T} {k : ByteArray} (g : PutIn h true t) : ((rootD (dropF h t k)).full true = true ∨ rootD (dropF h t k) = bareT) ∧ (∃ h', Ev h' (rootD (dropF h t k))) ∧ (rootD (dropF h t k)).all = delP t.all k := by
  obtain ⟨h1, h2⟩ := dropF_out h true t k g
  generalize dropF h t k = y at *
  obtain ⟨ps, ks⟩ := y
  have er : rootD (.mk ps ks) = if ks.length = 1 then tAt ks 0 else .mk ps ks := rfl
  rw [er]
  clear er
  by_cases hk : ks = []
  · subst hk
    rw [if_neg (by simp)]
    refine ⟨?_, ⟨h, h1.ev⟩, h1.all⟩
    by_cases hp : ps = []
    · subst hp; exact .inr rfl
    · have := h1.leaf rfl
      have hl := List.length_pos_iff.2 hp
      refine .inl (full_mk_leaf this ?_)
      by_cases e : ps.length = 1
      · exact .inr ⟨rfl, e⟩
      · exact .inl (by omega)
  · obtain ⟨b1, b2, b3⟩ := h1.br hk
    have b1 : ps = [] := b1
    subst b1
    have b2 : ks.length ≤ 4 := b2
    cases h with
    | zero => exact h1.ev.elim
    | succ h =>
      rcases h1.ev with ⟨e, _⟩ | ⟨_, he⟩
      · exact absurd e hk
      · by_cases e : ks.length = 1
        · rw [if_pos e]
          have hm := tAt_mem (ks := ks) (show 0 < ks.length by omega)
          refine ⟨.inl (full_up (b3 _ hm)), ⟨h, he _ hm⟩, ?_⟩
          rw [← h1.all]
          obtain ⟨x, rfl⟩ := List.length_eq_one_iff.1 e
          simp [tAt, T.all, allL]
        · rw [if_neg e]
          have := List.length_pos_iff.2 hk
          exact ⟨.inl (full_mk_br (by omega) b2 b3), ⟨h + 1, h1.ev⟩, h1.all⟩
theorem pOk_del {l : List PB} {k : ByteArray} (h : pOk l = true) : pOk (delP l k) = true :=
  pOk_of (Nat.le_trans (delP_len l k) (pOk_len h)) (fun _ hx => pOk_mem h (delP_mem hx)) (delP_asc (pOk_asc h))
/-- The specification's way down. -/
def togS (a b : T) : List T := splT (.mk (a.ps ++ b.ps) (a.ks ++ b.ks))
def dropS : Nat → T → ByteArray → T
  | 0, t, _ => t
  | f + 1, t, k => if t.ks = [] then .mk (delS t.ps k) [] else
    if (dropS f (tAt t.ks (wayOf t.ks k)) k).poor = true then .mk [] ((t.ks.set (wayOf t.ks k) (dropS f (tAt t.ks (wayOf t.ks k)) k)).take (max (wayOf t.ks k) 1 - 1) ++ togS (tAt (t.ks.set (wayOf t.ks k) (dropS f (tAt t.ks (wayOf t.ks k)) k)) (max (wayOf t.ks k) 1 - 1)) (tAt (t.ks.set (wayOf t.ks k) (dropS f (tAt t.ks (wayOf t.ks k)) k)) (max (wayOf t.ks k) 1)) ++ (t.ks.set (wayOf t.ks k) (dropS f (tAt t.ks (wayOf t.ks k)) k)).drop (max (wayOf t.ks k) 1 + 1))
    else .mk [] (t.ks.set (wayOf t.ks k) (dropS f (tAt t.ks (wayOf t.ks k)) k))
theorem togS_two {h : Nat} {a b : T} {la lb : List PB} (ga : Near h a la) (gb : Near h b lb) : togS a b = two (shT a b) := by
  rw [shT_bareT]
  unfold togS
  obtain ⟨pa, ka⟩ := a
  obtain ⟨pb, kb⟩ := b
  simp only [T.ps, T.ks]
  cases h with
  | zero => exact ga.ev.elim
  | succ h =>
    rcases ga.ev with ⟨rfl, rfl⟩ | ⟨hka, hea⟩
    · rcases gb.ev with ⟨rfl, _⟩ | ⟨hkb, heb⟩
      · rw [List.append_nil, two_leaf]
      · obtain ⟨x, hx⟩ := List.exists_mem_of_ne_nil kb hkb
        exact (heb x hx).elim
    · obtain ⟨a1, _, _⟩ := ga.br hka
      have a1 : pa = [] := a1
      rcases gb.ev with ⟨rfl, rfl⟩ | ⟨hkb, heb⟩
      · obtain ⟨x, hx⟩ := List.exists_mem_of_ne_nil ka hka
        exact (hea x hx).elim
      · obtain ⟨b1, _, _⟩ := gb.br hkb
        have b1 : pb = [] := b1
        subst a1 b1
        rw [List.append_nil, two_branch (by simp [hka])]
theorem dropS_eq : ∀ (h : Nat) (r : Bool) (t : T) (k : ByteArray), PutIn h r t → dropS h t k = dropF h t k
  | 0, r, t, k, g => rfl
  | h + 1, r, .mk ps ks, k, g => by
    by_cases hk : ks = []
    · subst hk
      obtain ⟨_, _, _, ha⟩ := g.leaf
      rw [dropS, dropF]
      simp only [T.ks, T.ps, if_true]
      rw [delS_eq ha]
    · obtain ⟨rfl, h1, h2, h3, h4, h5⟩ := g.kids hk
      obtain ⟨q1, _, _⟩ := kidOf_spec k hk
      obtain ⟨ih, _⟩ := dropF_out h false _ k (g.kid hk k)
      have e1 : dropS (h + 1) (.mk [] ks) k = if (dropS h (tAt ks (wayOf ks k)) k).poor = true then .mk [] ((ks.set (wayOf ks k) (dropS h (tAt ks (wayOf ks k)) k)).take (max (wayOf ks k) 1 - 1) ++ togS (tAt (ks.set (wayOf ks k) (dropS h (tAt ks (wayOf ks k)) k)) (max (wayOf ks k) 1 - 1)) (tAt (ks.set (wayOf ks k) (dropS h (tAt ks (wayOf ks k)) k)) (max (wayOf ks k) 1)) ++ (ks.set (wayOf ks k) (dropS h (tAt ks (wayOf ks k)) k)).drop (max (wayOf ks k) 1 + 1)) else .mk [] (ks.set (wayOf ks k) (dropS h (tAt ks (wayOf ks k)) k)) := by
        rw [dropS, if_neg (show ¬ (T.mk [] ks).ks = [] from hk)]; rfl
      have e2 : dropF (h + 1) (.mk [] ks) k = if (dropF h (tAt ks (kidOf ks k)) k).poor = true then .mk [] (mendK (ks.set (kidOf ks k) (dropF h (tAt ks (kidOf ks k)) k)) (kidOf ks k)) else .mk [] (ks.set (kidOf ks k) (dropF h (tAt ks (kidOf ks k)) k)) := by
        rw [dropF, if_neg (show ¬ (T.mk [] ks).ks = [] from hk)]; rfl
      rw [e1, e2, wayOf_eq hk h3 h5, dropS_eq h false _ k (g.kid hk k)]
      clear e1 e2
      generalize hq : kidOf ks k = q at *
      generalize hrr : dropF h (tAt ks q) k = rr at *
      cases hpo : rr.poor with
      | false => rfl
      | true =>
        simp only [if_true]
        obtain ⟨s, hs⟩ : ∃ s, max q 1 = s + 1 := ⟨max q 1 - 1, by omega⟩
        have hsl : s + 1 < ks.length := by omega
        have hat : ∀ i, i < ks.length → tAt (ks.set q rr) i = if i = q then rr else tAt ks i := by
          intro i hi
          by_cases e : i = q
          · subst e; simp [tAt, hi]
          · rw [if_neg e]; simp [tAt, Ne.symm e]
        have hn : ∀ i, i < ks.length → Near h (tAt (ks.set q rr) i) (tAt (ks.set q rr) i).all := by
          intro i hi
          rw [hat i hi]
          by_cases e : i = q
          · rw [if_pos e]; exact ⟨ih.ev, rfl, ih.leaf, ih.br⟩
          · rw [if_neg e]; exact near_of_full (h4 _ (tAt_mem hi)) (h3 _ (tAt_mem hi))
        rw [mendK_two _ s q hs (by rw [List.length_set]; omega), hs, Nat.add_sub_cancel, togS_two (hn s (by omega)) (hn (s + 1) hsl)]
end Go.Proofs.Ytkflneeifllpgaa
/-
  l03Few and l03Together of the specification.
-/
namespace Go.Proofs.Ytkflneeifllpgaa
open Go.RowKit
set_option maxHeartbeats 1000000 in
theorem specFew_any (S : Nat → Prop) (lf : Bool) (ap ak : Option Addr) (np cp nk ck : Nat) (t : T) (w : World) (h : Sub w S lf (.slice ap np cp) (.slice ak nk ck) t) (hb : t.ks ≠ [] → t.ps = []) :
    Calls Try.prog 152 #[.agg #[.bool lf, .slice ap np cp, .slice ak nk ck]] w fun e w' => e = .returned (.bool t.poor) ∧ Below w.heap.size w w' := by
  obtain ⟨_, _, _, _, _, _, e1, e2, HNP, HNK, b1, b2, hlf, -⟩ := h.shape
  cases e1
  cases e2
  have HB0 := hid (below_new (o := .cells #[.bool lf, .slice ap np cp, .slice ak nk ck] 74) (w := w) (Below.refl _ _))
  have K0 := hid (Bk.new w 74 [.bool lf, .slice ap np cp, .slice ak nk ck])
  have c0 := K0.out.cell (j := 0) rfl
  have c1 := K0.out.cell (j := 1) rfl
  have c2 := K0.out.cell (j := 2) rfl
  clear h
  by_cases hk : nk = 0
  · have hlf' : lf = true := by rw [hlf, hk]; rfl
    have HE : Hid (t.poor = decide ((np : Int) < 2)) := by
      show decide (t.ps.length + t.ks.length < 2) = decide ((np : Int) < 2)
      rw [← HNK.out, ← HNP.out, hk, decide_eq_decide]; omega
    subst hlf' hk
    clear hlf hb
    by_cases h2 : np < 2
    · have h2' : (np : Int) < 2 := by omega
      have HE2 : Hid (t.poor = true) := by show _ = _; rw [HE.out]; exact decide_eq_true h2'
      go_enter Try.func152, Try.ntmps152
      go_wp2
      go_ret
      exact ⟨by rw [HE2.out]; rfl, HB0.out⟩
    · have h2' : ¬ (np : Int) < 2 := by omega
      have HE2 : Hid (t.poor = false) := by show _ = _; rw [HE.out]; exact decide_eq_false h2'
      go_enter Try.func152, Try.ntmps152
      go_wp2
      go_ret
      exact ⟨by rw [HE2.out]; rfl, HB0.out⟩
  · have hlf' : lf = false := by rw [hlf]; exact decide_eq_false hk
    have hps : t.ps = [] := hb (fun e => hk (by rw [HNK.out, e]; rfl))
    have HE : Hid (t.poor = decide ((nk : Int) < 2)) := by
      show decide (t.ps.length + t.ks.length < 2) = decide ((nk : Int) < 2)
      rw [← HNK.out, hps, decide_eq_decide]; simp; omega
    subst hlf'
    clear hlf hb hps
    by_cases h2 : nk < 2
    · have h2' : (nk : Int) < 2 := by omega
      have HE2 : Hid (t.poor = true) := by show _ = _; rw [HE.out]; exact decide_eq_true h2'
      go_enter Try.func152, Try.ntmps152
      go_wp2
      go_ret
      exact ⟨by rw [HE2.out]; rfl, HB0.out⟩
    · have h2' : ¬ (nk : Int) < 2 := by omega
      have HE2 : Hid (t.poor = false) := by show _ = _; rw [HE.out]; exact decide_eq_false h2'
      go_enter Try.func152, Try.ntmps152
      go_wp2
      go_ret
      exact ⟨by rw [HE2.out]; rfl, HB0.out⟩
structure TgI (w wr : World) (xa xb xs : List Value) : Prop where
  a : Bk wr w.heap.size 74 xa
  b : Bk wr (w.heap.size + 1) 74 xb
  s : Bk wr (w.heap.size + 1 + 1) 74 xs
  bel : Below w.heap.size w wr
  z : w.heap.size + 3 ≤ wr.heap.size
theorem TgI.keep {w wr w1 : World} {xa xb xs : List Value} (h : TgI w wr xa xb xs) (hb : Below wr.heap.size wr w1) : TgI w w1 xa xb xs := ⟨h.a.below hb, h.b.below hb, h.s.below hb, Below.then' h.bel hb (Nat.le_refl _), Nat.le_trans h.z hb.size⟩
theorem TgI.grow {w u w2 : World} {xa xb xs : List Value} {o : Option Nat} (h : TgI w u xa xb xs) (hg : u.grownBy w2 o) (ho : ∀ x, o = some x → w.heap.size + 3 ≤ x) : TgI w w2 xa xb xs := by
  have hon : Only (fun y => o = some y) u w2 := only_of_grown hg (fun _ e => e)
  exact ⟨h.a.to hon (fun e => by have := ho _ e; omega), h.b.to hon (fun e => by have := ho _ e; omega), h.s.to hon (fun e => by have := ho _ e; omega), h.bel.trans (hon.below h.bel.size (fun b hb e => by have := ho _ e; omega)), Nat.le_trans h.z hg.size⟩
theorem TgI.put {w u : World} {xa xb xs : List Value} (h : TgI w u xa xb xs) (j : Nat) (v : Value) : TgI w (u.setCell ⟨w.heap.size + 1 + 1, j, none⟩ v) xa xb (xs.set j v) := by
  have hon : Only (fun y => y = w.heap.size + 1 + 1) u (u.setCell ⟨w.heap.size + 1 + 1, j, none⟩ v) := only_set (R := fun y => y = w.heap.size + 1 + 1) rfl _
  exact ⟨h.a.to hon (by omega), h.b.to hon (by omega), h.s.set j v, h.bel.trans (hon.below h.bel.size (fun b hb e => by omega)), Nat.le_trans h.z hon.size⟩
theorem SubR.subP {w : World} {S : Nat → Prop} {lf : Bool} {pv kv : Value} {ps : List PB} {ts : List T} (h : SubR w S kv ts) (hP : Pr w S pv ps) (hlf : lf = decide (ts.length = 0)) : Sub w S lf pv kv (.mk ps ts) := by
  obtain ⟨L, P, K, h1, h2⟩ := h
  exact .mk lf pv kv ps ts L P K hlf hP h1 h2
set_option maxHeartbeats 2000000 in
set_option maxRecDepth 20000 in
theorem specTogether_any (S : Nat → Prop) (l1 l2 : Bool) (ap1 ak1 ap2 ak2 : Option Addr) (np1 cp1 nk1 ck1 np2 cp2 nk2 ck2 : Nat) (t1 t2 : T) (w : World) (h1 : Sub w S l1 (.slice ap1 np1 cp1) (.slice ak1 nk1 ck1) t1) (h2 : Sub w S l2 (.slice ap2 np2 cp2) (.slice ak2 nk2 ck2) t2)
    (hab : t1.ks = [] ↔ t2.ks = []) (hs : t1.ps.length + t2.ps.length ≤ 1000) (hs2 : t1.ks.length + t2.ks.length ≤ 1000) :
    Calls Try.prog 153 #[.agg #[.bool l1, .slice ap1 np1 cp1, .slice ak1 nk1 ck1], .agg #[.bool l2, .slice ap2 np2 cp2, .slice ak2 nk2 ck2]] w fun e w' => SubsPost w S (togS t1 t2) e w' := by
  obtain ⟨_, _, _, _, _, _, e1, e2, HNP1, HNK1, -, -, hl1, hP1⟩ := h1.shape
  cases e1
  cases e2
  obtain ⟨_, _, _, _, _, _, e1, e2, HNP2, HNK2, -, -, -, hP2⟩ := h2.shape
  cases e1
  cases e2
  have HLF : Hid (l1 = decide ((t1.ks ++ t2.ks).length = 0)) := by
    show _ = _
    rw [hl1, HNK1.out, decide_eq_decide, List.length_append]
    constructor
    · intro h
      have := hab.1 (List.eq_nil_of_length_eq_zero h)
      rw [this]; simp; exact List.eq_nil_of_length_eq_zero h
    · intro h; omega
  have H1 : Hid (Sub w (fun y => S y ∧ y < w.heap.size) l1 (.slice ap1 np1 cp1) (.slice ak1 nk1 ck1) t1) := h1.mono (fun y hy hl => ⟨hy, hl⟩)
  have H2 : Hid (Sub w (fun y => S y ∧ y < w.heap.size) l2 (.slice ap2 np2 cp2) (.slice ak2 nk2 ck2) t2) := h2.mono (fun y hy hl => ⟨hy, hl⟩)
  have HP1 : Hid (Pr w (fun y => S y ∧ y < w.heap.size) (.slice ap1 np1 cp1) t1.ps) := Rw.mono hP1 (fun y hy hl => ⟨hy, hl⟩)
  have HP2 : Hid (Pr w (fun y => S y ∧ y < w.heap.size) (.slice ap2 np2 cp2) t2.ps) := Rw.mono hP2 (fun y hy hl => ⟨hy, hl⟩)
  have HSP : Hid (t1.ps.length + t2.ps.length ≤ 1000 ∧ t1.ks.length + t2.ks.length ≤ 1000) := ⟨hs, hs2⟩
  clear h1 h2 hP1 hP2 hab hl1 hs hs2
  have HI0 : Hid (TgI w (((w.alloc (.cells #[.bool l1, .slice ap1 np1 cp1, .slice ak1 nk1 ck1] 74)).alloc (.cells #[.bool l2, .slice ap2 np2 cp2, .slice ak2 nk2 ck2] 74)).alloc (.cells #[.bool l1, .slice none 0 0, .slice none 0 0] 74)) [.bool l1, .slice ap1 np1 cp1, .slice ak1 nk1 ck1] [.bool l2, .slice ap2 np2 cp2, .slice ak2 nk2 ck2] [.bool l1, .slice none 0 0, .slice none 0 0]) := by
    refine ⟨((Bk.new w 74 [.bool l1, .slice ap1 np1 cp1, .slice ak1 nk1 ck1]).alloc _).alloc _, ?_, ?_, below_new (below_new (below_new (Below.refl _ _))), by simp⟩
    · have := (Bk.new (w.alloc (.cells #[.bool l1, .slice ap1 np1 cp1, .slice ak1 nk1 ck1] 74)) 74 [.bool l2, .slice ap2 np2 cp2, .slice ak2 nk2 ck2]).alloc (.cells #[.bool l1, .slice none 0 0, .slice none 0 0] 74)
      simpa using this
    · have := Bk.new ((w.alloc (.cells #[.bool l1, .slice ap1 np1 cp1, .slice ak1 nk1 ck1] 74)).alloc (.cells #[.bool l2, .slice ap2 np2 cp2, .slice ak2 nk2 ck2] 74)) 74 [.bool l1, .slice none 0 0, .slice none 0 0]
      simpa using this
  have q0 := ((Bk.new w 74 [.bool l1, .slice ap1 np1 cp1, .slice ak1 nk1 ck1]).alloc (.cells #[.bool l2, .slice ap2 np2 cp2, .slice ak2 nk2 ck2] 74)).cell (j := 0) rfl
  go_enter Try.func153, Try.ntmps153
  go_wp2_with fail
  generalize ((w.alloc (.cells #[.bool l1, .slice ap1 np1 cp1, .slice ak1 nk1 ck1] 74)).alloc (.cells #[.bool l2, .slice ap2 np2 cp2, .slice ak2 nk2 ck2] 74)).alloc (.cells #[.bool l1, .slice none 0 0, .slice none 0 0] 74) = U at *
  clear q0
  have a1 := HI0.out.a.cell (j := 1) rfl
  have b1 := HI0.out.b.cell (j := 1) rfl
  have s1 := HI0.out.s.cell (j := 1) rfl
  have sf := HI0.out.s.free 1
  have HIb := hid (HI0.out.keep (below_new (o := .cells #[] 35) (w := U) (Below.refl _ _)))
  have HIa := hid (HIb.out.keep (below_drew _))
  have a1' := HIb.out.a.cell (j := 1) rfl
  have b1' := HIb.out.b.cell (j := 1) rfl
  have HO0 := hid ((ow_new U (w.heap.size + 3) HI0.out.z).kept (below_drew _))
  have HW1 : Hid (∀ (v2 : Value) (w2 : World), Ow w2 (w.heap.size + 3) v2 ([] ++ t1.ps) → (U.alloc (.cells #[] 35)).drew.grownBy w2 (Value.slice (some ⟨U.heap.size, 0, none⟩) 0 0).ownBlock → TgI w w2 [.bool l1, .slice ap1 np1 cp1, .slice ak1 nk1 ck1] [.bool l2, .slice ap2 np2 cp2, .slice ak2 nk2 ck2] [.bool l1, .slice none 0 0, .slice none 0 0]) := fun v2 w2 _ hg => HIa.out.grow hg (fun x e => by have := HI0.out.z; have e' : U.heap.size = x := (by simpa [Value.ownBlock] using e); omega)
  have HFIN : Hid (∀ (w2 w3 : World) (a2 a3 : Option Addr) (n2 c2 n3 c3 : Nat), TgI w w2 [.bool l1, .slice ap1 np1 cp1, .slice ak1 nk1 ck1] [.bool l2, .slice ap2 np2 cp2, .slice ak2 nk2 ck2] [.bool l1, .slice none 0 0, .slice none 0 0] → Ow w2 (w.heap.size + 3) (.slice a2 n2 c2) ([] ++ t1.ps) → w2.grownBy w3 (Value.slice a2 n2 c2).ownBlock → Ow w3 (w.heap.size + 3) (.slice a3 n3 c3) (([] ++ t1.ps) ++ t2.ps) →
      TgI w (w3.setCell ⟨w.heap.size + 1 + 1, 1, none⟩ (.slice a3 n3 c3)) [.bool l1, .slice ap1 np1 cp1, .slice ak1 nk1 ck1] [.bool l2, .slice ap2 np2 cp2, .slice ak2 nk2 ck2] [.bool l1, .slice a3 n3 c3, .slice none 0 0] ∧ Ow (w3.setCell ⟨w.heap.size + 1 + 1, 1, none⟩ (.slice a3 n3 c3)) (w.heap.size + 3) (.slice a3 n3 c3) (t1.ps ++ t2.ps)) := by
    intro w2 w3 a2 a3 n2 c2 n3 c3 hI hO2 hg hO3
    refine ⟨(hI.grow hg (fun x e => (World.ownsRow.lt hO2 x e).1)).put 1 _, ?_⟩
    exact Ow.to hO3 (only_set (R := fun y => y = w.heap.size + 1 + 1) rfl _) (fun x e h => by have := (World.ownsRow.lt hO3 x e).1; omega)
  have hl1 : ([] : List PB).length + t1.ps.length ≤ 2097154 := by have := HSP.out.1; simp; omega
  have hl2 : (([] : List PB) ++ t1.ps).length + t2.ps.length ≤ 2097154 := by have := HSP.out.1; simp; omega
  go_cut [15] (fun x v => ∃ (a3 : Option Addr) (n3 c3 : Nat), x = x ∧ Hid (TgI w v [.bool l1, .slice ap1 np1 cp1, .slice ak1 nk1 ck1] [.bool l2, .slice ap2 np2 cp2, .slice ak2 nk2 ck2] [.bool l1, .slice a3 n3 c3, .slice none 0 0]) ∧ Hid (Ow v (w.heap.size + 3) (.slice a3 n3 c3) (t1.ps ++ t2.ps)))
  case first =>
    go_region_law (first
      | (refine step_append_pairs rfl _ _ rfl (w.heap.size + 3) (.slice (some ⟨U.heap.size, 0, none⟩) 0 0) [] rfl HO0.out _ _ t1.ps rfl (HP1.out.below HIa.out.bel) hl1 HIa.out.z ?_; intro v2 w2 hO2 hg2; obtain ⟨a2, n2, c2, e2, -⟩ := hO2.shape'; subst e2; have hI2 := HW1.out _ _ hO2 hg2; have b2' := hI2.b.cell (j := 1) rfl)
      | (refine step_append_pairs rfl _ _ rfl (w.heap.size + 3) (.slice a2 n2 c2) ([] ++ t1.ps) rfl hO2 _ _ t2.ps rfl (HP2.out.below hI2.bel) hl2 hI2.z ?_; intro v3 w3 hO3 hg3; obtain ⟨a3, n3, c3, e3, -⟩ := hO3.shape'; subst e3; have hI3 := hI2.grow hg3 (fun x e => (World.ownsRow.lt hO2 x e).1); have s3 := hI3.s.cell (j := 1) rfl; have s3f := hI3.s.free 1))
    all_goals (go_wp2_with fail; go_meet)
    all_goals exact ⟨_, _, _, trivial, (HFIN.out _ _ _ _ _ _ _ _ hI2 hO2 hg3 hO3).1, (HFIN.out _ _ _ _ _ _ _ _ hI2 hO2 hg3 hO3).2⟩
  case rest =>
    obtain ⟨a3, n3, c3, -, HI3, HO3⟩ := hcut
    clear HFIN HW1 HO0 HIa HIb a1 b1 s1 sf a1' b1' HI0 hl1 hl2
    have a1 := HI3.out.a.cell (j := 2) rfl
    have b1 := HI3.out.b.cell (j := 2) rfl
    have s1 := HI3.out.s.cell (j := 2) rfl
    have sf := HI3.out.s.free 2
    have HIb := hid (HI3.out.keep (below_new (o := .cells #[] 74) (w := wc) (Below.refl _ _)))
    have HIa := hid (HIb.out.keep (below_drew _))
    have a1' := HIb.out.a.cell (j := 2) rfl
    have b1' := HIb.out.b.cell (j := 2) rfl
    have HS0 := hid ((so_new wc wc.heap.size (Nat.le_refl _)).kept (below_drew _))
    have HZ := hid HI3.out.z
    have HAP : Hid (∀ y, S y ∧ y < w.heap.size → (Value.slice (some ⟨wc.heap.size, 0, none⟩) 0 0).ownBlock ≠ some y) := fun y hy e => by have := HZ.out; have e' : wc.heap.size = y := (by simpa [Value.ownBlock] using e); have := hy.2; omega
    have HAQ : Hid (∀ (w4 : World) (R : Nat → Prop) (v4 : Value) (L : List T), SO w4 wc.heap.size R v4 L → ∀ y, S y ∧ y < w.heap.size → v4.ownBlock ≠ some y) := fun w4 R v4 L h y hy e => by have := HZ.out; have := (h.lo y e).1; have := hy.2; omega
    have hl1 : ([] : List T).length + t1.ks.length ≤ 1048576 := by have := HSP.out.2; simp; omega
    have hl2 : (([] : List T) ++ t1.ks).length + t2.ks.length ≤ 1048576 := by have := HSP.out.2; simp; omega
    have HZA : Hid (wc.heap.size ≤ (wc.alloc (.cells #[] 74)).drew.heap.size) := by show wc.heap.size ≤ (wc.alloc (.cells #[] 74)).heap.size; simp
    have HGR : Hid (∀ (w4 : World) (R : Nat → Prop) (v4 : Value) (L : List T), (wc.alloc (.cells #[] 74)).drew.grownBy w4 (Value.slice (some ⟨wc.heap.size, 0, none⟩) 0 0).ownBlock → TgI w w4 [.bool l1, .slice ap1 np1 cp1, .slice ak1 nk1 ck1] [.bool l2, .slice ap2 np2 cp2, .slice ak2 nk2 ck2] [.bool l1, .slice a3 n3 c3, .slice none 0 0] ∧ wc.heap.size ≤ w4.heap.size ∧ Ow w4 (w.heap.size + 3) (.slice a3 n3 c3) (t1.ps ++ t2.ps)) := by
      intro w4 R v4 L hg
      have hon : Only (fun y => wc.heap.size ≤ y) (wc.alloc (.cells #[] 74)).drew w4 := only_of_grown hg (fun k e => by have e' : wc.heap.size = k := (by simpa [Value.ownBlock] using e); omega)
      refine ⟨HIa.out.grow hg (fun x e => by have := HZ.out; have e' : wc.heap.size = x := (by simpa [Value.ownBlock] using e); omega), Nat.le_trans HZA.out hg.size, ?_⟩
      exact ((HO3.out.kept (below_new (Below.refl _ _))).kept (below_drew _)).to hon (fun x e h => by have := (World.ownsRow.lt HO3.out x e).2; omega)
    have HFIN : Hid (∀ (w4 w5 : World) (a4 a5 : Option Addr) (n4 c4 n5 c5 : Nat) (R4 R5 : Nat → Prop), TgI w w4 [.bool l1, .slice ap1 np1 cp1, .slice ak1 nk1 ck1] [.bool l2, .slice ap2 np2 cp2, .slice ak2 nk2 ck2] [.bool l1, .slice a3 n3 c3, .slice none 0 0] → SO w4 wc.heap.size R4 (.slice a4 n4 c4) ([] ++ t1.ks) → w4.grownBy w5 (Value.slice a4 n4 c4).ownBlock → SO w5 wc.heap.size R5 (.slice a5 n5 c5) (([] ++ t1.ks) ++ t2.ks) → (∀ y, R5 y → S y ∧ y < w.heap.size) → Ow w4 (w.heap.size + 3) (.slice a3 n3 c3) (t1.ps ++ t2.ps) →
        TgI w (w5.setCell ⟨w.heap.size + 1 + 1, 2, none⟩ (.slice a5 n5 c5)) [.bool l1, .slice ap1 np1 cp1, .slice ak1 nk1 ck1] [.bool l2, .slice ap2 np2 cp2, .slice ak2 nk2 ck2] [.bool l1, .slice a3 n3 c3, .slice a5 n5 c5] ∧ Sub (w5.setCell ⟨w.heap.size + 1 + 1, 2, none⟩ (.slice a5 n5 c5)) (fun y => S y ∨ w.heap.size ≤ y) l1 (.slice a3 n3 c3) (.slice a5 n5 c5) (.mk (t1.ps ++ t2.ps) (t1.ks ++ t2.ks))) := by
      intro w4 w5 a4 a5 n4 c4 n5 c5 R4 R5 hI hO4 hg hO5 hR hOw
      have hz := HZ.out
      have hon : Only (fun y => y = w.heap.size + 1 + 1) w5 (w5.setCell ⟨w.heap.size + 1 + 1, 2, none⟩ (.slice a5 n5 c5)) := only_set (R := fun y => y = w.heap.size + 1 + 1) rfl _
      have hon4 : Only (fun y => wc.heap.size ≤ y) w4 w5 := only_of_grown hg (fun k e => (hO4.lo k e).1)
      have hlt3 := World.ownsRow.lt HO3.out
      have hw5 := hOw.to hon4 (fun x e h => by have := (hlt3 x e).2; omega)
      have hwf := hw5.to hon (fun x e h => by have := (hlt3 x e).1; omega)
      refine ⟨(hI.grow hg (fun x e => by have := (hO4.lo x e).1; omega)).put 2 _, ?_⟩
      have hSO := hO5.to hon (fun y e h => by have := (hO5.lo y e).1; omega) (fun y hy _ h => by have := (hR y hy).2; omega)
      refine (hSO.subR (R := fun y => S y ∨ w.heap.size ≤ y) (fun y _ h1 _ => .inr (by omega)) (fun y hy _ => .inl (hR y hy).1)).subP (hwf.pr (fun k _ h1 _ => .inr (by omega))) ?_
      have := HLF.out
      simpa using this
    go_wp2_with fail
    go_cut [23] (fun x v => ∃ (a5 : Option Addr) (n5 c5 : Nat), x = x ∧ Hid (TgI w v [.bool l1, .slice ap1 np1 cp1, .slice ak1 nk1 ck1] [.bool l2, .slice ap2 np2 cp2, .slice ak2 nk2 ck2] [.bool l1, .slice a3 n3 c3, .slice a5 n5 c5]) ∧ Hid (Sub v (fun y => S y ∨ w.heap.size ≤ y) l1 (.slice a3 n3 c3) (.slice a5 n5 c5) (.mk (t1.ps ++ t2.ps) (t1.ks ++ t2.ks))))
    case first =>
      go_region_law (first
        | (refine step_append_subs rfl _ _ rfl wc.heap.size _ (fun y => S y ∧ y < w.heap.size) (.slice (some ⟨wc.heap.size, 0, none⟩) 0 0) _ [] t1.ks rfl HS0.out rfl ((H1.out.kept HIa.out.bel).row) HAP.out hl1 HZA.out ?_; intro v4 w4 hO4 hg4 ha4; obtain ⟨a4, n4, c4, e4, -⟩ := hO4.shape; subst e4; obtain ⟨hI4, hz4, hw4⟩ := HGR.out w4 (fun _ => True) (.slice none 0 0) [] hg4; have b2' := hI4.b.cell (j := 2) rfl)
        | (refine step_append_subs rfl _ _ rfl wc.heap.size _ (fun y => S y ∧ y < w.heap.size) (.slice a4 n4 c4) _ ([] ++ t1.ks) t2.ks rfl hO4 rfl ((H2.out.kept hI4.bel).row) (HAQ.out _ _ _ _ hO4) hl2 hz4 ?_; intro v5 w5 hO5 hg5 ha5; obtain ⟨a5, n5, c5, e5, -⟩ := hO5.shape; subst e5; have hI5 := hI4.grow hg5 (fun x e => Nat.le_trans HZ.out (hO4.lo x e).1); have s3 := hI5.s.cell (j := 2) rfl; have s3f := hI5.s.free 2))
      all_goals (go_wp2_with fail; go_meet)
      all_goals exact ⟨_, _, _, trivial, (HFIN.out _ _ _ _ _ _ _ _ _ _ hI4 hO4 hg5 hO5 (fun y hy => by rcases hy.1 with ⟨h | h, _⟩ | h; exact h.elim; exact h; exact h) hw4).1, (HFIN.out _ _ _ _ _ _ _ _ _ _ hI4 hO4 hg5 hO5 (fun y hy => by rcases hy.1 with ⟨h | h, _⟩ | h; exact h.elim; exact h; exact h) hw4).2⟩
    case rest =>
      obtain ⟨a5, n5, c5, -, HI5, HS5⟩ := hcut
      clear HFIN HGR HAQ HAP HS0 HIa HIb a1 b1 s1 sf a1' b1' HI3 HO3
      have q0 := HI5.out.s.cell (j := 0) rfl
      have q1 := HI5.out.s.cell (j := 1) rfl
      have q2 := HI5.out.s.cell (j := 2) rfl
      rename_i wc2
      have HSP2 := hid (specSplit_any _ l1 a3 a5 n3 c3 n5 c5 _ _ HS5.out)
      go_wp2_with fail
      refine HSP2.out.mono ?_
      rintro e w7 ⟨v7, rfl, h8, h9⟩
      have H8 : Hid (SubR w7 (fun y => S y ∨ w.heap.size ≤ y) v7 (togS t1 t2)) := h8.mono (fun y hy _ => hy.elim id (fun h => .inr (by have := HI5.out.z; omega)))
      have H9 := hid (Below.then' HI5.out.bel h9 (Nat.le_refl _))
      clear h8 h9 HSP2
      go_wp2
      go_ret
      exact ⟨_, rfl, H8.out, H9.out⟩
end Go.Proofs.Ytkflneeifllpgaa
/-
  A list of nodes whose rows are all apart from each other.
-/
namespace Go.Proofs.Ytkflneeifllpgaa
open Go.RowKit
structure NA (w : World) (v : Value) (V : List V3) (ns : List NB) : Prop where
  len : V.length = ns.length
  row : w.ownsRow 0 106 3 v ns.length (ncs V)
  own : ∀ i, i < ns.length → OwN w (vAt V i) (nAt ns i) ∧ ap3 (vAt V i)
  apart : ∀ i j, i < ns.length → j < ns.length → i ≠ j → ∀ y, bl (vAt V i) y → ¬ bl (vAt V j) y
  off : ∀ i, i < ns.length → ∀ y, bl (vAt V i) y → v.ownBlock ≠ some y
theorem NA.to {w w' : World} {R : Nat → Prop} {v : Value} {V : List V3} {ns : List NB} (h : NA w v V ns) (ho : Only R w w') (hv : ∀ y, v.ownBlock = some y → ¬ R y) (hR : ∀ i, i < ns.length → ∀ y, bl (vAt V i) y → ¬ R y) : NA w' v V ns :=
  ⟨h.len, own_kept h.row ho hv, fun i hi => ⟨(h.own i hi).1.to ho (hR i hi), (h.own i hi).2⟩, h.apart, h.off⟩
theorem NA.kept {w w' : World} {v : Value} {V : List V3} {ns : List NB} (h : NA w v V ns) (hb : Below w.heap.size w w') : NA w' v V ns := h.to (only_of_below hb (fun _ => False)) (fun _ _ h => h) (fun _ _ _ _ h => h)
theorem na_nil (w : World) : NA w (.slice none 0 0) [] [] := ⟨rfl, World.ownsRow_nil _ _ _ _, fun i hi => by simp at hi, fun i j hi => by simp at hi, fun i hi => by simp at hi⟩
theorem NA.nr {w : World} {v : Value} {V : List V3} {ns : List NB} (h : NA w v V ns) {S : Nat → Prop} (hS : ∀ y, y < w.heap.size → S y) : Nr w S v ns :=
  ⟨V, h.len, rw_own h.row (fun k _ _ h => hS k h), fun i hi => ⟨rw_own (h.own i hi).1.1 (fun k _ _ h => hS k h), rw_own (h.own i hi).1.2.1 (fun k _ _ h => hS k h), rw_own (h.own i hi).1.2.2 (fun k _ _ h => hS k h)⟩⟩
/-- append(nodes, a node). -/
theorem NA.push {u w2 : World} {v v' : Value} {V : List V3} {ns : List NB} (h : NA u v V ns) (x : NB) (p : V3) (hx : OwN u p x) (hap : ap3 p) (hd : ∀ y, bl p y → v.ownBlock ≠ some y ∧ ∀ i, i < ns.length → ¬ bl (vAt V i) y)
    (ho : w2.ownsRow 0 106 3 v' (ns.length + 1) (ncs V ++ [p.1, p.2.1, p.2.2])) (hg : u.grownBy w2 v.ownBlock) (ha : v'.ownBlock = v.ownBlock ∨ v'.ownBlock = some u.heap.size) :
    NA w2 v' (V ++ [p]) (ns ++ [x]) := by
  have o : Only (fun y => v.ownBlock = some y) u w2 := only_of_grown hg (fun k e => e)
  have hl := h.len
  have hat : ∀ i, i < (ns ++ [x]).length → (i < ns.length ∧ vAt (V ++ [p]) i = vAt V i ∧ nAt (ns ++ [x]) i = nAt ns i) ∨ (i = ns.length ∧ vAt (V ++ [p]) i = p ∧ nAt (ns ++ [x]) i = x) := by
    intro i hi
    simp at hi
    by_cases e : i < ns.length
    · exact .inl ⟨e, vAt_append_left (by omega), nAt_append_left e⟩
    · obtain rfl : i = ns.length := by omega
      exact .inr ⟨rfl, by rw [← hl, vAt_append_at], nAt_append_at _ _ _⟩
  refine ⟨by simp [hl], by rw [ncs_append, List.length_append]; exact ho, fun i hi => ?_, fun i j hi hj hij y hy hz => ?_, fun i hi y hy hv => ?_⟩
  · rcases hat i hi with ⟨e, e1, e2⟩ | ⟨e, e1, e2⟩
    · rw [e1, e2]; exact ⟨(h.own i e).1.to o (h.off i e), (h.own i e).2⟩
    · rw [e1, e2]; exact ⟨hx.to o (fun y hy => (hd y hy).1), hap⟩
  · rcases hat i hi with ⟨e, e1, _⟩ | ⟨e, e1, _⟩
    · rw [e1] at hy
      rcases hat j hj with ⟨d, d1, _⟩ | ⟨d, d1, _⟩
      · rw [d1] at hz; exact h.apart i j e d hij y hy hz
      · rw [d1] at hz; exact (hd y hz).2 i e hy
    · rw [e1] at hy
      rcases hat j hj with ⟨d, d1, _⟩ | ⟨d, d1, _⟩
      · rw [d1] at hz; exact (hd y hy).2 j d hz
      · omega
  · have : y < u.heap.size ∧ v.ownBlock ≠ some y := by
      rcases hat i hi with ⟨e, e1, _⟩ | ⟨e, e1, _⟩
      · rw [e1] at hy; exact ⟨(h.own i e).1.lt hy, h.off i e y hy⟩
      · rw [e1] at hy; exact ⟨hx.lt hy, (hd y hy).1⟩
    rcases ha with ha | ha
    · rw [ha] at hv; exact this.2 hv
    · rw [ha] at hv; cases hv; omega
theorem nAt_other (ms : List NB) (z x : NB) (l : List NB) {i : Nat} (h : i ≠ ms.length) : nAt (ms ++ x :: l) i = nAt (ms ++ z :: l) i := by
  by_cases hi2 : i < ms.length
  · rw [nAt_append_left hi2, nAt_append_left hi2]
  · obtain ⟨j, rfl⟩ : ∃ j, i = ms.length + 1 + j := ⟨i - ms.length - 1, by omega⟩
    simp only [nAt]
    rw [List.getElem?_append_right (by omega), List.getElem?_append_right (by omega), show ms.length + 1 + j - ms.length = j + 1 by omega]
    rfl
/-- One node has turned. -/
theorem NA.upd {u w2 w3 : World} {v : Value} {V : List V3} {ms l : List NB} {z z' : NB} {p' : V3} {g : Nat} (h : NA u v V (ms ++ z :: l)) (hv : v.ownBlock = some g) (ho : Only (bl (vAt V ms.length)) u w2) (hown : OwN w2 p' z') (hap : ap3 p')
    (hbl : ∀ y, bl p' y → bl (vAt V ms.length) y ∨ u.heap.size ≤ y) (o3 : Only (fun y => y = g) w2 w3) (hrow : w3.ownsRow 0 106 3 v (ms ++ z :: l).length (ncs (V.set ms.length p'))) : NA w3 v (V.set ms.length p') (ms ++ z' :: l) := by
  have hl2 : (ms ++ z' :: l).length = (ms ++ z :: l).length := by simp
  have hlt : ms.length < (ms ++ z :: l).length := by simp
  have hl := h.len
  have hg : g < u.heap.size := (World.ownsRow.lt h.row g hv).2
  have hoff : ∀ y, bl p' y → y ≠ g := by
    intro y hy e
    rcases hbl y hy with h1 | h1
    · exact h.off _ hlt y h1 (by rw [hv, e])
    · omega
  have hat : ∀ i, i ≠ ms.length → vAt (V.set ms.length p') i = vAt V i := fun i hi => vAt_other _ _ _ _ hi
  have hat0 : vAt (V.set ms.length p') ms.length = p' := vAt_set _ _ _ (by omega)
  refine ⟨by rw [List.length_set, hl, hl2], by rw [hl2]; exact hrow, fun i hi => ?_, fun i j hi hj hij y hy hz => ?_, fun i hi y hy hv' => ?_⟩
  · rw [hl2] at hi
    by_cases e : i = ms.length
    · subst e
      rw [hat0, nAt_append_at]
      exact ⟨hown.to o3 (fun y hy => hoff y hy), hap⟩
    · rw [hat i e, nAt_other ms z z' l e]
      exact ⟨((h.own i hi).1.to ho (fun y hy hz => h.apart i ms.length hi hlt e y hy hz)).to o3 (fun y hy e2 => h.off i hi y hy (by rw [hv, e2])), (h.own i hi).2⟩
  · rw [hl2] at hi hj
    have key : ∀ i, i < (ms ++ z :: l).length → i ≠ ms.length → ∀ y, bl (vAt V i) y → ¬ bl p' y := by
      intro i hi e y hy hz
      rcases hbl y hz with h1 | h1
      · exact h.apart i ms.length hi hlt e y hy h1
      · have := (h.own i hi).1.lt hy; omega
    by_cases e : i = ms.length
    · rw [e, hat0] at hy
      have hj' : j ≠ ms.length := by omega
      rw [hat j hj'] at hz
      exact key j hj hj' y hz hy
    · rw [hat i e] at hy
      by_cases e2 : j = ms.length
      · rw [e2, hat0] at hz; exact key i hi e y hy hz
      · rw [hat j e2] at hz; exact h.apart i j hi hj hij y hy hz
  · rw [hl2] at hi
    rw [hv] at hv'
    cases hv'
    by_cases e : i = ms.length
    · rw [e, hat0] at hy; exact hoff _ hy rfl
    · rw [hat i e] at hy; exact h.off i hi _ hy hv
theorem row_set {w : World} {E : TypeId} {s g n c m : Nat} {xs : List Value} (h : w.ownsRow 0 E s (.slice (some ⟨g, 0, none⟩) n c) m xs) (j : Nat) (u : Value) : (w.setCell ⟨g, j, none⟩ u).ownsRow 0 E s (.slice (some ⟨g, 0, none⟩) n c) m (xs.set j u) := by
  obtain ⟨k1, k2⟩ := h
  rcases k2 with ⟨k2, _⟩ | ⟨g', cap, cur, e, k3, k4, k5, k6, k7, k8⟩
  · cases k2
  · cases e
    refine ⟨by simpa using k1, .inr ⟨g, c, cur.setIfInBounds j u, rfl, k3, ?_, k5, k6, by simpa using k7, ?_⟩⟩
    · simp [World.setCell, Array.getElem?_modify, k4]
    · rw [← k8]
      simp only [Array.toList_setIfInBounds, List.take_set]
theorem set_same {xs : List Value} {j : Nat} {u : Value} (h : xs[j]? = some u) : xs.set j u = xs := by
  apply List.ext_getElem?
  intro i
  rw [List.getElem?_set]
  split
  · rename_i e; subst e
    split
    · exact h.symm
    · rename_i hl; rw [List.getElem?_eq_none (by omega)]
  · rfl
theorem ncs_set1 (V : List V3) (j : Nat) (x : Value) (h : j < V.length) : ncs (V.set j ((vAt V j).1, x, (vAt V j).2.2)) = (ncs V).set (j * 3 + 1) x := by
  obtain ⟨c0, c1, c2⟩ := ncs_at V j h
  rw [ncs_set _ _ _ h]
  simp only
  rw [set_same c0]
  apply set_same
  rw [List.getElem?_set, if_neg (by omega)]
  exact c2
theorem ncs_set2 (V : List V3) (j : Nat) (x : Value) (h : j < V.length) : ncs (V.set j ((vAt V j).1, (vAt V j).2.1, x)) = (ncs V).set (j * 3 + 2) x := by
  obtain ⟨c0, c1, c2⟩ := ncs_at V j h
  rw [ncs_set _ _ _ h]
  simp only
  rw [set_same c0, set_same c1]
/-- l[at].Keys = append(l[at].Keys, s) -/
theorem NA.addKey {u w2 : World} {g n c : Nat} {V : List V3} {ms l : List NB} {z : NB} {kx' : Value} {s : ByteArray} (h : NA u (.slice (some ⟨g, 0, none⟩) n c) V (ms ++ z :: l)) (hO : w2.ownsRow 0 9 1 kx' (z.keys.length + 1) (z.keys.map Value.string ++ [.string s])) (hg : u.grownBy w2 (vAt V ms.length).2.1.ownBlock)
    (ha : kx'.ownBlock = (vAt V ms.length).2.1.ownBlock ∨ ∃ k, kx'.ownBlock = some k ∧ u.heap.size ≤ k) :
    NA (w2.setCell ⟨g, ms.length * 3 + 1, none⟩ kx') (.slice (some ⟨g, 0, none⟩) n c) (V.set ms.length ((vAt V ms.length).1, kx', (vAt V ms.length).2.2)) (ms ++ ⟨z.ps, z.keys ++ [s], z.kids⟩ :: l) := by
  have hlt : ms.length < (ms ++ z :: l).length := by simp
  obtain ⟨h1, h2⟩ := h.own _ hlt
  rw [nAt_append_at] at h1
  have o : Only (fun y => (vAt V ms.length).2.1.ownBlock = some y) u w2 := only_of_grown hg (fun k e => e)
  have hl := h.len
  have hnew : ∀ y, kx'.ownBlock = some y → (vAt V ms.length).2.1.ownBlock = some y ∨ u.heap.size ≤ y := by
    intro y hy
    rcases ha with e | ⟨k, e, hk⟩
    · exact .inl (e ▸ hy)
    · rw [e] at hy; cases hy; exact .inr hk
  refine h.upd rfl (o.mono (fun y _ e => .inr (.inl e))) ⟨?_, ?_, ?_⟩ ?_ ?_ (only_set (R := fun y => y = g) rfl _) ?_
  · exact own_kept h1.1 o (fun y e e2 => ((h2 y).1 e).1 e2)
  · simpa using hO
  · exact own_kept h1.2.2 o (fun y e e2 => (h2 y).2 e2 e)
  · intro y
    refine ⟨fun e => ⟨fun e2 => ?_, ((h2 y).1 e).2⟩, fun e e2 => ?_⟩
    · rcases hnew y e2 with h3 | h3
      · exact ((h2 y).1 e).1 h3
      · have := h1.lt (.inl e); omega
    · rcases hnew y e with h3 | h3
      · exact (h2 y).2 h3 e2
      · have := h1.lt (.inr (.inr e2)); omega
  · rintro y (e | e | e)
    · exact .inl (.inl e)
    · exact (hnew y e).imp (fun h => .inr (.inl h)) id
    · exact .inl (.inr (.inr e))
  · rw [ncs_set1 _ _ _ (by omega)]
    exact row_set (own_kept h.row o (fun y e e2 => h.off _ hlt y (.inr (.inl e2)) e)) _ _
/-- l[at].Kids = append(l[at].Kids, s) -/
theorem NA.addKid {u w2 : World} {g n c : Nat} {V : List V3} {ms l : List NB} {z : NB} {ki' : Value} {s : Int} (h : NA u (.slice (some ⟨g, 0, none⟩) n c) V (ms ++ z :: l)) (hO : w2.ownsRow 0 3 1 ki' (z.kids.length + 1) (z.kids.map (Value.int .i64) ++ [.int .i64 s])) (hg : u.grownBy w2 (vAt V ms.length).2.2.ownBlock)
    (ha : ki'.ownBlock = (vAt V ms.length).2.2.ownBlock ∨ ∃ k, ki'.ownBlock = some k ∧ u.heap.size ≤ k) :
    NA (w2.setCell ⟨g, ms.length * 3 + 2, none⟩ ki') (.slice (some ⟨g, 0, none⟩) n c) (V.set ms.length ((vAt V ms.length).1, (vAt V ms.length).2.1, ki')) (ms ++ ⟨z.ps, z.keys, z.kids ++ [s]⟩ :: l) := by
  have hlt : ms.length < (ms ++ z :: l).length := by simp
  obtain ⟨h1, h2⟩ := h.own _ hlt
  rw [nAt_append_at] at h1
  have o : Only (fun y => (vAt V ms.length).2.2.ownBlock = some y) u w2 := only_of_grown hg (fun k e => e)
  have hl := h.len
  have hnew : ∀ y, ki'.ownBlock = some y → (vAt V ms.length).2.2.ownBlock = some y ∨ u.heap.size ≤ y := by
    intro y hy
    rcases ha with e | ⟨k, e, hk⟩
    · exact .inl (e ▸ hy)
    · rw [e] at hy; cases hy; exact .inr hk
  refine h.upd rfl (o.mono (fun y _ e => .inr (.inr e))) ⟨?_, ?_, ?_⟩ ?_ ?_ (only_set (R := fun y => y = g) rfl _) ?_
  · exact own_kept h1.1 o (fun y e e2 => ((h2 y).1 e).2 e2)
  · exact own_kept h1.2.1 o (fun y e e2 => (h2 y).2 e e2)
  · simpa using hO
  · intro y
    refine ⟨fun e => ⟨((h2 y).1 e).1, fun e2 => ?_⟩, fun e e2 => ?_⟩
    · rcases hnew y e2 with h3 | h3
      · exact ((h2 y).1 e).2 h3
      · have := h1.lt (.inl e); omega
    · rcases hnew y e2 with h3 | h3
      · exact (h2 y).2 e h3
      · have := h1.lt (.inr (.inl e)); omega
  · rintro y (e | e | e)
    · exact .inl (.inl e)
    · exact .inl (.inr (.inl e))
    · exact (hnew y e).imp (fun h => .inr (.inr h)) id
  · rw [ncs_set2 _ _ _ (by omega)]
    exact row_set (own_kept h.row o (fun y e e2 => h.off _ hlt y (.inr (.inr e2)) e)) _ _
/-- How far nodes has come: L stands there, ns stood there at the start; new rows lie in blocks of P or in new ones. -/
structure NI (w wr : World) (v vv : Value) (V0 V : List V3) (ns L : List NB) (P : Nat → Prop) : Prop where
  na : NA wr vv V L
  old : ∀ i, i < ns.length → vAt V i = vAt V0 i
  new : ∀ i, ns.length ≤ i → i < L.length → ∀ y, bl (vAt V i) y → P y ∨ w.heap.size ≤ y
  only : Only (fun y => v.ownBlock = some y) w wr
  vb : ∀ y, vv.ownBlock = some y → v.ownBlock = some y ∨ w.heap.size ≤ y
theorem NI.keep {w wr w1 : World} {v vv : Value} {V0 V : List V3} {ns L : List NB} {P : Nat → Prop} (h : NI w wr v vv V0 V ns L P) (hb : Below wr.heap.size wr w1) : NI w w1 v vv V0 V ns L P :=
  ⟨h.na.kept hb, h.old, h.new, h.only.trans (only_of_below hb _), h.vb⟩
theorem NI.mono {w wr : World} {v vv : Value} {V0 V : List V3} {ns L : List NB} {P Q : Nat → Prop} (h : NI w wr v vv V0 V ns L P) (hq : ∀ y, P y → Q y) : NI w wr v vv V0 V ns L Q :=
  ⟨h.na, h.old, fun i h1 h2 y hy => (h.new i h1 h2 y hy).imp (hq y) id, h.only, h.vb⟩
/-- Behind a kid's nodes. -/
theorem NI.then {w wr w' : World} {v vv v' : Value} {V0 V V' : List V3} {ns L M : List NB} {P Q : Nat → Prop} (h : NI w wr v vv V0 V ns L P) (hns : ns.length ≤ L.length) (k : NI wr w' vv v' V V' L M Q) : NI w w' v v' V0 V' ns M (fun y => P y ∨ Q y) := by
  have hs := h.only.size
  refine ⟨k.na, fun i hi => (k.old i (by omega)).trans (h.old i hi), fun i h1 h2 y hy => ?_, h.only.then k.only (fun i hi e => ?_), fun y hy => ?_⟩
  · by_cases e : i < L.length
    · rw [k.old i e] at hy
      exact (h.new i h1 e y hy).imp .inl id
    · rcases k.new i (by omega) h2 y hy with h3 | h3
      · exact .inl (.inr h3)
      · right; omega
  · rcases h.vb i e with h3 | h3
    · exact h3
    · omega
  · rcases k.vb y hy with h3 | h3
    · exact h.vb y h3
    · right; omega
theorem NI.addKey {w u w2 : World} {v : Value} {g n c : Nat} {V0 V : List V3} {ns l : List NB} {z : NB} {P : Nat → Prop} {kx' : Value} {s : ByteArray} (h : NI w u v (.slice (some ⟨g, 0, none⟩) n c) V0 V ns (ns ++ z :: l) P) (hO : w2.ownsRow 0 9 1 kx' (z.keys.length + 1) (z.keys.map Value.string ++ [.string s])) (hg : u.grownBy w2 (vAt V ns.length).2.1.ownBlock)
    (ha : kx'.ownBlock = (vAt V ns.length).2.1.ownBlock ∨ ∃ k, kx'.ownBlock = some k ∧ u.heap.size ≤ k) (hfr : ∀ y, (vAt V ns.length).2.1.ownBlock = some y → w.heap.size ≤ y) :
    NI w (w2.setCell ⟨g, ns.length * 3 + 1, none⟩ kx') v (.slice (some ⟨g, 0, none⟩) n c) V0 (V.set ns.length ((vAt V ns.length).1, kx', (vAt V ns.length).2.2)) ns (ns ++ ⟨z.ps, z.keys ++ [s], z.kids⟩ :: l) P := by
  have hs := h.only.size
  have hlt : ns.length < (ns ++ z :: l).length := by simp
  have hl := h.na.len
  refine ⟨h.na.addKey hO hg ha, fun i hi => (vAt_other _ _ _ _ (by omega)).trans (h.old i hi), fun i h1 h2 y hy => ?_, ?_, h.vb⟩
  · have h2' : i < (ns ++ z :: l).length := by simpa using h2
    by_cases e : i = ns.length
    · rw [e, vAt_set _ _ _ (by omega)] at hy
      rcases hy with hy | hy | hy
      · exact h.new _ (Nat.le_refl _) hlt y (.inl hy)
      · rcases ha with e | ⟨k, e, hk⟩
        · exact .inr (hfr y (e ▸ hy))
        · rw [e] at hy; cases hy; right; omega
      · exact h.new _ (Nat.le_refl _) hlt y (.inr (.inr hy))
    · rw [vAt_other _ _ _ _ e] at hy
      exact h.new i h1 h2' y hy
  · refine (h.only.then (only_of_grown hg (R := fun y => (vAt V ns.length).2.1.ownBlock = some y) (fun k e => e)) (fun i hi e => ?_)).then (only_set (R := fun y => y = g) rfl _) (fun i hi e => ?_)
    · have := hfr i e; omega
    · rcases h.vb i (by rw [e]; rfl) with h3 | h3
      · exact h3
      · omega
theorem NI.addKid {w u w2 : World} {v : Value} {g n c : Nat} {V0 V : List V3} {ns l : List NB} {z : NB} {P : Nat → Prop} {kx' : Value} {s : Int} (h : NI w u v (.slice (some ⟨g, 0, none⟩) n c) V0 V ns (ns ++ z :: l) P) (hO : w2.ownsRow 0 3 1 kx' (z.kids.length + 1) (z.kids.map (Value.int .i64) ++ [.int .i64 s])) (hg : u.grownBy w2 (vAt V ns.length).2.2.ownBlock)
    (ha : kx'.ownBlock = (vAt V ns.length).2.2.ownBlock ∨ ∃ k, kx'.ownBlock = some k ∧ u.heap.size ≤ k) (hfr : ∀ y, (vAt V ns.length).2.2.ownBlock = some y → w.heap.size ≤ y) :
    NI w (w2.setCell ⟨g, ns.length * 3 + 2, none⟩ kx') v (.slice (some ⟨g, 0, none⟩) n c) V0 (V.set ns.length ((vAt V ns.length).1, (vAt V ns.length).2.1, kx')) ns (ns ++ ⟨z.ps, z.keys, z.kids ++ [s]⟩ :: l) P := by
  have hs := h.only.size
  have hlt : ns.length < (ns ++ z :: l).length := by simp
  have hl := h.na.len
  refine ⟨h.na.addKid hO hg ha, fun i hi => (vAt_other _ _ _ _ (by omega)).trans (h.old i hi), fun i h1 h2 y hy => ?_, ?_, h.vb⟩
  · have h2' : i < (ns ++ z :: l).length := by simpa using h2
    by_cases e : i = ns.length
    · rw [e, vAt_set _ _ _ (by omega)] at hy
      rcases hy with hy | hy | hy
      · exact h.new _ (Nat.le_refl _) hlt y (.inl hy)
      · exact h.new _ (Nat.le_refl _) hlt y (.inr (.inl hy))
      · rcases ha with e | ⟨k, e, hk⟩
        · exact .inr (hfr y (e ▸ hy))
        · rw [e] at hy; cases hy; right; omega
    · rw [vAt_other _ _ _ _ e] at hy
      exact h.new i h1 h2' y hy
  · refine (h.only.then (only_of_grown hg (R := fun y => (vAt V ns.length).2.2.ownBlock = some y) (fun k e => e)) (fun i hi e => ?_)).then (only_set (R := fun y => y = g) rfl _) (fun i hi e => ?_)
    · have := hfr i e; omega
    · rcases h.vb i (by rw [e]; rfl) with h3 | h3
      · exact h3
      · omega
end Go.Proofs.Ytkflneeifllpgaa
