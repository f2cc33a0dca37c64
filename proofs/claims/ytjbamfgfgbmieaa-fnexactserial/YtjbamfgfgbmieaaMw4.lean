/-
  The asks of a transaction in the program's log.
-/
import Derived.Test.YtjbamfgfgbmieaaMw2
import Derived.Test.YtjbamfgfgbmieaaMw3
import Derived.Test.YtjbamfgfgbmieaaMw1
import Derived.Deep.DeepCutAuto
import Derived.Laws.IdiomStrings
import Derived.Deep.SlicePairs
import Derived.WideShapes
import Derived.ChangeSame
import Derived.ProofKit
import Derived.OpenShut
import Derived.Deep.Strs
import Derived.Deep.Slices
import Derived.ChangeSlices
namespace Go.Proofs.Ytjbamfgfgbmieaa
open Go.RowKit
set_option linter.unusedVariables false
/-- A row of replies of one's own; their pairs lie where they lie. -/
def yW (w : World) (B : Nat) (v : Value) (V : List RV) : Prop := w.ownsRow B 87 13 v V.length (rycs V)
theorem infoReplyI' : (Try.prog.info? 87).map (fun i => (i.zero, i.size, i.bytes)) = some (some (.agg #[.int .i64 0, .int .i64 0, .int .i64 0, .int .i64 0, .int .i64 0, .string ⟨#[]⟩, .string ⟨#[]⟩, .string ⟨#[]⟩, .string ⟨#[]⟩, .int .i64 0, .bool false, .int .i64 0, .slice none 0 0]), 13, 152) := by kernel_rfl
theorem wpList_append_ry1 {w : World} {ops : Array Oper} {rest : List Oper} {o : Oper} {a : Act} {Q : Exit → Act → World → Prop} (hgd : o.guard = none) (s x : Operand)
    (ho : o.op = .call { callee := .builtin .append, args := #[s, x], argTypes := #[46, 46] }) (B : Nat) (v : Value) (V : List RV) (hs : a.eval s = v) (hown : yW w B v V)
    (g : Nat) (q : RV) (hq : ∃ a n c, q.2 = .slice a n c) (hx : a.eval x = .slice (some ⟨g, 0, none⟩) 1 1) (hB : Bk w g 87 (q.1.cs q.2)) (hb : V.length ≤ 1048576) (hbase : B ≤ w.heap.size)
    (h : ∀ a' n' c' w', yW w' B (.slice a' n' c') (V ++ [q]) → w.grownBy w' v.ownBlock → wpList Try.prog ops Q rest (a.put o.dst (.slice a' n' c')) w') : wpList Try.prog ops Q (o :: rest) a w := by
  obtain ⟨i, hi, hz, hsz, hby⟩ := info_of infoReplyI'
  have h1 := rycs_one [q] (fun p hp => by rw [List.mem_singleton] at hp; subst hp; exact hq)
  have e1 : rycs [q] = q.1.cs q.2 := by simp [rycs]
  rw [e1] at h1
  refine wpList_append_row hgd s x 46 ho B 87 i _ 13 152 Try.underlying46 hi hz hsz hby rfl (by decide) v V.length (rycs V) hs hown (fun _ => True) _ 1 (q.1.cs q.2) hx (hB.rw (Nat.le_refl _) (by omega) (fun h => by omega) _ trivial) rfl h1 (by unfold maxLen; omega) (by omega) hbase ?_
  intro v' w' k1 k2
  obtain ⟨a', c', rfl⟩ := own_shape k1
  refine h a' _ c' w' ?_ k2
  unfold yW
  rw [List.length_append, rycs_append, e1]
  exact k1
theorem yW.lt {w : World} {B : Nat} {v : Value} {V : List RV} (h : yW w B v V) (y : Nat) (hy : v.ownBlock = some y) : B ≤ y ∧ y < w.heap.size := World.ownsRow.lt h y hy
theorem yW.below {w w' : World} {B : Nat} {v : Value} {V : List RV} (h : yW w B v V) (hb : Below w.heap.size w w') : yW w' B v V := own_kept h (only_of_below hb (fun _ => False)) (fun _ _ h => h)
theorem yw_nil (w : World) (B : Nat) : yW w B (.slice none 0 0) [] := World.ownsRow_nil _ _ _ _
theorem dn_step {t : TX} {V : List RV} {k : Nat} (h : k < V.length) : (V.take (k + 1)).filter (fun p => dnR t p.1) = (V.take k).filter (fun p => dnR t p.1) ++ (if dnR t (rvAt V k).1 = true then [rvAt V k] else []) := by
  have e : V.take (k + 1) = V.take k ++ [rvAt V k] := by rw [List.take_succ_eq_append_getElem h]; simp [rvAt, h]
  rw [e, List.filter_append]
  by_cases hd : dnR t (rvAt V k).1 = true <;> simp [hd]
theorem dn_le (t : TX) (V : List RV) (k : Nat) : ((V.take k).filter (fun p => dnR t p.1)).length ≤ k := Nat.le_trans (List.length_filter_le _ _) (by rw [List.length_take]; omega)
set_option maxHeartbeats 4000000 in
set_option maxRecDepth 20000 in
theorem doneAsks_any (S : Nat → Prop) (a : Option Addr) (n c : Nat) (V : List RV) (tc te tn : Int) (w : World) (h : Rw w S (.slice a n c) V.length (rycs V)) (hsl : ∀ p ∈ V, ∃ a n c, p.2 = .slice a n c) (hnm : n ≤ 1048576) :
    Calls Try.prog 49 #[.slice a n c, .agg #[.int .i64 tc, .int .i64 te, .int .i64 tn]] w fun e w' => ∃ a' n' c', e = .returned (.slice a' n' c') ∧ yW w' w.heap.size (.slice a' n' c') (V.filter (fun p => dnR (tc, te, tn) p.1)) ∧ Below w.heap.size w w' := by
  have hnc := (Rw.len h).2.1
  have hcc := (Rw.len h).2.2
  have HN := hid (Rw.len h).1
  have hb0 := below_new (o := .cells #[.int .i64 tc, .int .i64 te, .int .i64 tn] 48) (w := w) (Below.refl _ _)
  have HB0 := hid hb0
  have K0 := hid (Bk.new w 48 [.int .i64 tc, .int .i64 te, .int .i64 tn])
  have H0 := hid (Rw.to h (only_of_below hb0 (fun _ => False)) (fun _ _ _ h => h))
  have HSL := hid hsl
  clear h hb0 hsl
  go_enter Try.func49, Try.ntmps49
  go_wp2_with fail
  generalize hU : w.alloc (.cells #[.int .i64 tc, .int .i64 te, .int .i64 tn] 48) = U at *
  clear hU
  go_loopw [5, 7, 10] (fun x y i wr => ∃ (k : Nat) (av : Option Addr) (nv cv : Nat), k ≤ n ∧ i = .int .i64 k ∧ x = .slice av nv cv ∧ Hid (yW wr U.heap.size (.slice av nv cv) ((V.take k).filter (fun p => dnR (tc, te, tn) p.1))) ∧ Hid (Below U.heap.size U wr)) (fun _ _ i _ => n - (intOf i).toNat)
  case atStart => exact ⟨0, none, 0, 0, Nat.zero_le _, rfl, rfl, by show yW _ _ _ _; simpa using yw_nil U U.heap.size, Below.refl _ _⟩
  case round =>
    obtain ⟨k, av, nv, cv, hk, rfl, rfl, HO, HB⟩ := hrel
    by_cases hlt : k < n
    · have hlt' : (k : Int) < (n : Int) := by omega
      have hk0 : (0 : Int) ≤ (k : Int) := by omega
      have hkr : k < V.length := by rw [← HN.out]; exact hlt
      have H1 := hid (Rw.to H0.out (only_of_below HB.out (fun _ => False)) (fun _ _ _ h => h))
      obtain ⟨b, off, rfl, _, _, hcell⟩ := Rw.at H1.out (by omega)
      have hr : wr.rangeAt b (off + k * 13) ((rvAt V k).1.cs (rvAt V k).2) := fun j u hu => by rw [Nat.add_assoc]; exact hcell _ _ (rycs_at V k hkr j u hu)
      obtain ⟨pa, pn, pc, hps⟩ := HSL.out (rvAt V k) (by simp [rvAt, hkr])
      have HSD := hid (dn_step (t := (tc, te, tn)) hkr)
      have HLE := hid (dn_le (tc, te, tn) V k)
      generalize hqq : rvAt V k = qq at *
      clear hqq
      obtain ⟨ry, vv⟩ := qq
      simp only at hps
      subst hps
      obtain ⟨rk, rc, re, rn, ra, ky, vl, lo, hi, mo, bk, co, ps⟩ := ry
      simp only [RY.cs] at hr
      have HR := hid hr
      clear hcell hr H1
      have hbp := below_new (o := .cells #[.int .i64 rk, .int .i64 rc, .int .i64 re, .int .i64 rn, .int .i64 ra, .string ky, .string vl, .string lo, .string hi, .int .i64 mo, .bool bk, .int .i64 co, .slice pa pn pc] 87) (w := wr) (Below.refl _ _)
      have KP := hid (Bk.new wr 87 [.int .i64 rk, .int .i64 rc, .int .i64 re, .int .i64 rn, .int .i64 ra, .string ky, .string vl, .string lo, .string hi, .int .i64 mo, .bool bk, .int .i64 co, .slice pa pn pc])
      have HB1 := hid (HB.out.trans (hbp.mono HB.out.size))
      have HO1 := hid (HO.out.below hbp)
      clear hbp HO
      have q0 := KP.out.cell (j := 0) rfl
      have q1 := KP.out.cell (j := 1) rfl
      have q2 := KP.out.cell (j := 2) rfl
      have q3 := KP.out.cell (j := 3) rfl
      have q11 := KP.out.cell (j := 11) rfl
      have x0 := (K0.out.below HB1.out).cell (j := 0) rfl
      have x1 := (K0.out.below HB1.out).cell (j := 1) rfl
      have x2 := (K0.out.below HB1.out).cell (j := 2) rfl
      go_upto_region 5 with (first
          | (refine wpList_load_mid rfl 87 _ rfl b (off + k * 13) rfl _ _ HR.out Try.underlying87 rfl (by kernel_rfl) ?_)
          | (refine wpList_store_new ?hg 87 _ _ ?ho 87 _ _ ?hx ?hy ?hi ?hold ?h1 ?rest; (case hg => rfl); (case ho => rfl); (case hx => rfl); (case hy => rfl); (case hi => kernel_rfl); (case hold => rfl); (case h1 => kernel_rfl)))
      generalize wr.alloc (.cells #[.int .i64 rk, .int .i64 rc, .int .i64 re, .int .i64 rn, .int .i64 ra, .string ky, .string vl, .string lo, .string hi, .int .i64 mo, .bool bk, .int .i64 co, .slice pa pn pc] 87) = VV at *
      have hq := eql_tx rc re rn tc te tn
      have hg := guard_tx .eql
      by_cases h2 : rk = 2
      · subst h2
        by_cases ht : (rc, re, rn) = (tc, te, tn)
        · have hd : decide ((rc, re, rn) = (tc, te, tn)) = true := decide_eq_true ht
          rw [hd] at hq
          by_cases hc0 : co = 0
          · subst hc0
            have HDN : Hid (dnR (tc, te, tn) ⟨2, rc, re, rn, ra, ky, vl, lo, hi, mo, bk, 0, ps⟩ = true) := by show _ = _; simp [dnR, RY.tx, ht]
            have hb := below_new (o := .cells #[.int .i64 2, .int .i64 rc, .int .i64 re, .int .i64 rn, .int .i64 ra, .string ky, .string vl, .string lo, .string hi, .int .i64 mo, .bool bk, .int .i64 0, .slice pa pn pc] 87) (w := VV) (Below.refl _ _)
            have KS := hid (Bk.new VV 87 [.int .i64 2, .int .i64 rc, .int .i64 re, .int .i64 rn, .int .i64 ra, .string ky, .string vl, .string lo, .string hi, .int .i64 mo, .bool bk, .int .i64 0, .slice pa pn pc])
            have HOa := hid (HO1.out.below hb)
            have HBa := hid (HB1.out.trans (hb.mono HB1.out.size))
            clear hb HO1
            go_wp2_with (first
                | (refine wpList_load_row rfl 87 _ rfl wr.heap.size rfl 87 _ (0, 0) _ KP.out Try.underlying87 rfl (by kernel_rfl) ?_; go_frame)
                | (at_builtin; refine wpList_append_ry1 rfl _ _ rfl U.heap.size _ _ rfl HOa.out VV.heap.size (⟨2, rc, re, rn, ra, ky, vl, lo, hi, mo, bk, 0, ps⟩, .slice pa pn pc) ⟨_, _, _, rfl⟩ rfl KS.out (by have := HLE.out; omega) ?q2 ?_))
            case q2 => first | exact HBa.out.size | (have h := HBa.out.size; simp at h; omega)
            intro a7 n7 c7 w7 hO hg7
            have HO7 : Hid (yW w7 U.heap.size (.slice a7 n7 c7) ((V.take (k + 1)).filter (fun p => dnR (tc, te, tn) p.1))) := by show yW _ _ _ _; rw [HSD.out, if_pos HDN.out]; exact hO
            have HB7 : Hid (Below U.heap.size U w7) := HBa.out.trans ((Below.refl _ _).grown hg7 HBa.out.size (fun q hq => (HOa.out.lt q hq).1))
            clear hO hg7 HOa HBa KS HSD KP q0 q1 q2 q3 q11 x0 x1 x2 hq hg
            go_wp2
            go_roundw
            case rel => exact ⟨k + 1, a7, n7, c7, by omega, by go_num, rfl, HO7.out, HB7.out⟩
            case measure => simp [intOf]; omega
          · have HC := hid hc0
            have HS1 : Hid (yW VV U.heap.size (.slice av nv cv) ((V.take (k + 1)).filter (fun p => dnR (tc, te, tn) p.1))) := by
              show yW _ _ _ _
              rw [HSD.out, if_neg (by simp [dnR, RY.tx, HC.out]), List.append_nil]
              exact HO1.out
            clear HSD HO1
            go_wp2
            go_roundw
            case rel => exact ⟨k + 1, av, nv, cv, by omega, by go_num, rfl, HS1.out, HB1.out⟩
            case measure => simp [intOf]; omega
        · have hd : decide ((rc, re, rn) = (tc, te, tn)) = false := decide_eq_false ht
          rw [hd] at hq
          have HT := hid ht
          clear ht
          have HS1 : Hid (yW VV U.heap.size (.slice av nv cv) ((V.take (k + 1)).filter (fun p => dnR (tc, te, tn) p.1))) := by
            show yW _ _ _ _
            rw [HSD.out, if_neg (by simp [dnR, RY.tx, HT.out]), List.append_nil]
            exact HO1.out
          clear HSD HO1
          go_wp2
          go_roundw
          case rel => exact ⟨k + 1, av, nv, cv, by omega, by go_num, rfl, HS1.out, HB1.out⟩
          case measure => simp [intOf]; omega
      · have H2 := hid h2
        have HS1 : Hid (yW VV U.heap.size (.slice av nv cv) ((V.take (k + 1)).filter (fun p => dnR (tc, te, tn) p.1))) := by
          show yW _ _ _ _
          rw [HSD.out, if_neg (by simp [dnR, RY.tx, H2.out]), List.append_nil]
          exact HO1.out
        clear HSD HO1
        go_wp2
        go_roundw
        case rel => exact ⟨k + 1, av, nv, cv, by omega, by go_num, rfl, HS1.out, HB1.out⟩
        case measure => simp [intOf]; omega
    · have hlt' : ¬ (k : Int) < (n : Int) := by omega
      have HO1 : Hid (yW wr w.heap.size (.slice av nv cv) (V.filter (fun p => dnR (tc, te, tn) p.1))) := by
        have h2 := HO.out
        rw [List.take_of_length_le (by rw [← HN.out]; omega)] at h2
        refine ⟨h2.1, h2.2.imp id ?_⟩
        rintro ⟨g, cap, cur, k1, k2, k3⟩
        exact ⟨g, cap, cur, k1, Nat.le_trans HB0.out.size k2, k3⟩
      clear HO
      go_wp2
      go_ret
      exact ⟨_, _, _, rfl, HO1.out, HB0.out.trans (HB.out.mono HB0.out.size)⟩
end Go.Proofs.Ytjbamfgfgbmieaa
/-
  slices.Equal of ints, texts and pairs; nodes, trees and ints that are the same, on both sides.
-/
namespace Go.Proofs.Ytjbamfgfgbmieaa
open Go.RowKit
set_option linter.unusedVariables false
set_option maxHeartbeats 2000000 in
theorem equalP_any (S S' : Nat → Prop) (a a' : Option Addr) (n n' c c' : Nat) (l l' : List PB) (w : World) (h : Pr w S (.slice a n c) l) (h' : Pr w S' (.slice a' n' c') l') :
    Calls Try.prog 50 #[.slice a n c, .slice a' n' c'] w fun e w' => e = .returned (.bool (decide (l = l'))) ∧ Below w.heap.size w w' := by
  obtain ⟨hn, hnc, hcc⟩ := Rw.len h
  obtain ⟨hn', hnc', hcc'⟩ := Rw.len h'
  have HN := hid hn
  have HN' := hid hn'
  have H0 := hid h
  have H0' := hid h'
  clear h h' hn hn'
  by_cases hne : n = n'
  · subst hne
    have hz : ((n : Int) != (n : Int)) = false := by simp
    go_enter Try.func50, Try.ntmps50
    go_wp2
    go_loopw [13] (fun i wr => ∃ k : Nat, k ≤ n ∧ i = .int .i64 k ∧ Hid (Below w.heap.size w wr) ∧ Hid (l.take k = l'.take k)) (fun i _ => n - (intOf i).toNat)
    case atStart => exact ⟨0, Nat.zero_le _, rfl, Below.refl _ _, rfl⟩
    case round =>
      obtain ⟨k, hk, rfl, HB, HT⟩ := hrel
      by_cases hlt : k < n
      · have hlt' : (k : Int) < (n : Int) := by omega
        have HP := hid (H0.out.below HB.out)
        have HP' := hid (H0'.out.below HB.out)
        obtain ⟨b, off, rfl, _, hbw, hcell⟩ := HP.out.at (by omega)
        obtain ⟨b', off', rfl, _, hbw', hcell'⟩ := HP'.out.at (by omega)
        obtain ⟨hc0, hc1⟩ := hcell k hlt
        obtain ⟨hd0, hd1⟩ := hcell' k hlt
        have HS : Hid (pAtB l k = pAtB l' k → l.take (k + 1) = l'.take (k + 1)) := by
          intro e
          have hl : k < l.length := by rw [← HN.out]; exact hlt
          have hl' : k < l'.length := by rw [← HN'.out]; exact hlt
          rw [List.take_succ_eq_append_getElem hl, List.take_succ_eq_append_getElem hl', HT.out]
          simp [pAtB, hl, hl'] at e
          rw [e]
        have HF : Hid (pAtB l k ≠ pAtB l' k → decide (l = l') = false) := by
          intro e
          rw [decide_eq_false_iff_not]
          intro e'
          exact e (by rw [e'])
        clear hcell hcell' hbw hbw' HP HP' HT
        generalize pAtB l k = ck at *
        generalize pAtB l' k = ck' at *
        obtain ⟨k1, v1⟩ := ck
        obtain ⟨k2, v2⟩ := ck'
        have hnq := neq_pair k1 v1 k2 v2
        by_cases he : (k1, v1) = (k2, v2)
        · have HS1 := hid (HS.out he)
          rw [decide_eq_true he] at hnq
          clear he
          clear HS HF
          go_wp2
          go_quiet (fail)
          go_wp2
          go_roundw
          case rel => exact ⟨k + 1, by omega, by go_num, Below.drewN' HB.out _, HS1.out⟩
          case measure => simp [intOf]; omega
        · have HF1 := hid (HF.out he)
          rw [decide_eq_false he] at hnq
          clear he HS HF
          go_wp2
          go_quiet (fail)
          go_wp2
          go_ret
          exact ⟨by rw [HF1.out]; rfl, Below.drewN' HB.out _⟩
      · have HF : Hid (decide (l = l') = true) := by
          show decide (l = l') = true
          have hk' : k = n := by omega
          have e := HT.out
          have e1 : l.length ≤ k := by rw [← HN.out]; omega
          have e2 : l'.length ≤ k := by rw [← HN'.out]; omega
          rw [List.take_of_length_le e1, List.take_of_length_le e2] at e
          simp [e]
        clear HT
        go_wp2
        go_ret
        exact ⟨by rw [HF.out]; rfl, HB.out⟩
  · have hz : ((n : Int) != (n' : Int)) = true := by simp; omega
    have HF : Hid (decide (l = l') = false) := by
      show decide (l = l') = false
      rw [decide_eq_false_iff_not]
      intro e
      exact hne (by rw [HN.out, HN'.out, e])
    clear hne
    go_enter Try.func50, Try.ntmps50
    go_wp2
    go_ret
    exact ⟨by rw [HF.out]; rfl, Below.refl _ _⟩
end Go.Proofs.Ytjbamfgfgbmieaa
/-
  RunTx of the program.
-/
namespace Go.Proofs.Ytjbamfgfgbmieaa
open Go.RowKit
set_option linter.unusedVariables false
theorem rx_yes {ds : List RY} {k : Nat} (h : k < ds.length) (l : List PB) (g : Bool) (hk : (ryAt ds k).ok = true) : rxF (ds.drop k) l g = rxF (ds.drop (k + 1)) ((ryAt ds k).D l) (g && decide ((ryAt ds k).T l = (ryAt ds k).ps)) := by
  rw [ry_drop h]; exact if_pos hk
theorem rx_bad {ds : List RY} {k : Nat} (h : k < ds.length) (l : List PB) (g : Bool) (hk : (ryAt ds k).ok = false) : rxF (ds.drop k) l g = ([], false) := by
  rw [ry_drop h]; exact if_neg (by rw [hk]; simp)
theorem rb8 {u : World} {rb : Nat} {rk rc re rn ra mo co : Int} {ky vl lo hi : ByteArray} {bk : Bool} {pa : Option Addr} {pn pc : Nat} (h : Bk u rb 87 [.int .i64 rk, .int .i64 rc, .int .i64 re, .int .i64 rn, .int .i64 ra, .string ky, .string vl, .string lo, .string hi, .int .i64 mo, .bool bk, .int .i64 co, .slice pa pn pc]) :
    u.cell? ⟨rb, 4, none⟩ = some (.int .i64 ra) ∧ u.cell? ⟨rb, 5, none⟩ = some (.string ky) ∧ u.cell? ⟨rb, 6, none⟩ = some (.string vl) ∧ u.cell? ⟨rb, 7, none⟩ = some (.string lo) ∧ u.cell? ⟨rb, 8, none⟩ = some (.string hi) ∧ u.cell? ⟨rb, 9, none⟩ = some (.int .i64 mo) ∧ u.cell? ⟨rb, 10, none⟩ = some (.bool bk) ∧ u.cell? ⟨rb, 12, none⟩ = some (.slice pa pn pc) ∧ Bk u rb 87 [.int .i64 rk, .int .i64 rc, .int .i64 re, .int .i64 rn, .int .i64 ra, .string ky, .string vl, .string lo, .string hi, .int .i64 mo, .bool bk, .int .i64 co, .slice pa pn pc] := ⟨h.cell (j := 4) rfl, h.cell (j := 5) rfl, h.cell (j := 6) rfl, h.cell (j := 7) rfl, h.cell (j := 8) rfl, h.cell (j := 9) rfl, h.cell (j := 10) rfl, h.cell (j := 12) rfl, h⟩
set_option maxHeartbeats 16000000 in
set_option maxRecDepth 20000 in
theorem implRunTx_any (S R : Nat → Prop) (a0 : Option Addr) (n0 c0 : Nat) (l : List PB) (a : Option Addr) (n c : Nat) (rs : List RY) (tc te tn : Int) (w : World) (hP : Pr w R (.slice a0 n0 c0) l) (h : Yr w S (.slice a n c) rs) (KS : List ByteArray) (hK : KS.length ≤ 1048576) (hl : KsD KS l) (hrs : ∀ r ∈ rs, r.ky ∈ KS) (hs0 : n0 ≤ 1048576) (hs : n ≤ 1048576) :
    Calls Try.prog 17 #[.slice a0 n0 c0, .slice a n c, .agg #[.int .i64 tc, .int .i64 te, .int .i64 tn]] w fun e w' => RxPost (rxV (tc, te, tn) l rs).1 (rxV (tc, te, tn) l rs).2 w e w' := by
  have HN := hid h.len.1
  have HN0 := hid (Rw.len hP).1
  obtain ⟨V, hV, hR, hPV⟩ := h
  have hsl : ∀ p ∈ V, ∃ a n c, p.2 = .slice a n c := fun p hp => by obtain ⟨a, c, e, _⟩ := (hPV p hp).shape; exact ⟨a, _, c, e⟩
  have HSL := hid hsl
  have HV := hid hV
  have HPV : Hid (∀ p ∈ V, Pr w (fun b => b < w.heap.size) p.2 p.1.ps) := fun p hp => Rw.mono (hPV p hp) (fun b _ hb => hb)
  have hb0 := below_new (o := .cells #[.int .i64 tc, .int .i64 te, .int .i64 tn] 48) (w := w) (Below.refl _ _)
  have HB0 := hid hb0
  have K0 := hid (Bk.new w 48 [.int .i64 tc, .int .i64 te, .int .i64 tn])
  have H0 := hid (Rw.to hR (only_of_below hb0 (fun _ => False)) (fun _ _ _ h => h))
  have P0 := hid (hP.below' hb0)
  have HKK := hid hK
  have HKL := hid hl
  have HKR := hid hrs
  clear hP hR hPV hsl hV hb0 hK hl hrs
  have k0 := K0.out.cell (j := 0) rfl
  have k1 := K0.out.cell (j := 1) rfl
  have k2 := K0.out.cell (j := 2) rfl
  go_enter Try.func17, Try.ntmps17
  go_wp2_with fail
  refine (implDataOk_at R a0 n0 c0 l _ P0.out (by omega)).mono ?_
  generalize hU : w.alloc (.cells #[.int .i64 tc, .int .i64 te, .int .i64 tn] 48) = U at *
  clear hU
  rintro e w1 ⟨rfl, hb⟩
  cases hd : daOk l with
  | false =>
    have E1 : Hid (rxV (tc, te, tn) l rs = ([], false)) := by show _ = _; simp [rxV, hd]
    have HB1 := hid (btR HB0.out hb)
    clear hb hd
    go_wp2
    go_ret2
    rw [E1.out]
    exact rx_no HB1.out
  | true =>
    have HVV : Hid (rxV (tc, te, tn) l rs = rxF (((rs.filter (dnR (tc, te, tn)))).drop 0) l true) := by show _ = _; simp [rxV, hd]
    have HDA := hid hd
    have HB1 := hid (btR HB0.out hb)
    have H1 := hid (Rw.to H0.out (only_of_below hb (fun _ => False)) (fun _ _ _ h => h))
    have P1 := hid (P0.out.below' hb)
    have K1 := hid (K0.out.below hb)
    clear hb hd H0 P0 K0 HB0 k0 k1 k2
    go_wp2_with fail
    refine (copyPr_any R a0 n0 c0 l _ P1.out (by omega)).mono ?_
    rintro e w3 ⟨a3, n3, c3, rfl, hn3, hO, hb⟩
    have HO3 := hid hO
    have HS13 := hid hb.size
    have HB3 := hid (btR HB1.out hb)
    have H3 := hid (Rw.to H1.out (only_of_below hb (fun _ => False)) (fun _ _ _ h => h))
    have K3 := hid (K1.out.below hb)
    clear hb hO hn3 H1 P1 K1
    have hbn := below_new (o := .cells #[.slice a3 n3 c3] 68) (w := w3) (Below.refl _ _)
    have SB4 : Hid (SB (w3.alloc (.cells #[.slice a3 n3 c3] 68)) w1.heap.size w3.heap.size (.slice a3 n3 c3) l) := ⟨Bk.new w3 _ _, HO3.out.kept hbn, fun e => by have := (World.ownsRow.lt HO3.out _ e).2; omega, HS13.out⟩
    have HB4 := hid (btR HB3.out hbn)
    have H4 := hid (Rw.to H3.out (only_of_below hbn (fun _ => False)) (fun _ _ _ h => h))
    have K4 := hid (K3.out.below hbn)
    have HS4 := hid (Nat.le_trans HS13.out hbn.size)
    have HG4 : Hid (w3.heap.size < (w3.alloc (.cells #[.slice a3 n3 c3] 68)).heap.size) := SB4.out.bk.lt
    clear hbn H3 K3 HO3 HB3
    have k0 := K4.out.cell (j := 0) rfl
    have k1 := K4.out.cell (j := 1) rfl
    have k2 := K4.out.cell (j := 2) rfl
    go_wp2_with fail
    refine (doneAsks_any S a n c V tc te tn _ H4.out HSL.out (by omega)).mono ?_
    generalize hU4 : w3.alloc (.cells #[.slice a3 n3 c3] 68) = U4 at *
    clear hU4
    generalize w3.heap.size = g at *
    rintro e w5 ⟨ad, nd, cd, rfl, hY, hb⟩
    have SB5 := hid (SB4.out.below hb)
    have HB5 := hid (btR HB4.out hb)
    have HS5 := hid (Nat.le_trans HS4.out hb.size)
    have HYO : Hid (∀ y, (Value.slice ad nd cd).ownBlock = some y → U4.heap.size ≤ y ∧ y < w5.heap.size) := fun y hy => hY.lt y hy
    have HVO : Hid (∀ y, (Value.slice a3 n3 c3).ownBlock = some y → y < U4.heap.size) := fun y hy => (World.ownsRow.lt SB4.out.own y hy).2
    have HKR2 : Hid (∀ r ∈ rs.filter (dnR (tc, te, tn)), r.ky ∈ KS) := fun r hr => HKR.out r (List.mem_filter.1 hr).1
    have HDS : Hid ((V.filter (fun p => dnR (tc, te, tn) p.1)).map (·.1) = rs.filter (dnR (tc, te, tn))) := by show _ = _; rw [← HV.out, List.filter_map]; rfl
    have HND : Hid (nd = (V.filter (fun p => dnR (tc, te, tn) p.1)).length) := (Rw.len (rw_own hY (S := fun _ => True) (fun _ _ _ _ => trivial))).1
    have HLE : Hid ((V.filter (fun p => dnR (tc, te, tn) p.1)).length ≤ n) := by show _ ≤ _; have h1 := List.length_filter_le (fun p : RV => dnR (tc, te, tn) p.1) V; have h2 := HN.out; rw [← HV.out, List.length_map] at h2; omega
    have HPW : Hid (∀ p ∈ V.filter (fun p => dnR (tc, te, tn) p.1), Pr w (fun b => b < w.heap.size) p.2 p.1.ps) := fun p hp => HPV.out p (List.mem_filter.1 hp).1
    have HSW : Hid (∀ p ∈ V.filter (fun p => dnR (tc, te, tn) p.1), ∃ a n c, p.2 = .slice a n c) := fun p hp => HSL.out p (List.mem_filter.1 hp).1
    have HY := hid hY
    have HSB1 := hid HB1.out.size
    clear hY hb SB4 HB4 H4 K4 k0 k1 k2 HS4 HPV HSL HV HN
    generalize V.filter (fun p => dnR (tc, te, tn) p.1) = W at *
    generalize hds : rs.filter (dnR (tc, te, tn)) = ds at *
    clear hds
    have hdm : ds.length = W.length := by rw [← HDS.out, List.length_map]
    have HDM := hid hdm
    have hndc : nd ≤ cd := (Rw.len (rw_own HY.out (S := fun _ => True) (fun _ _ _ _ => trivial))).2.1
    have hcdc : cd ≤ 9223372036854775807 := (Rw.len (rw_own HY.out (S := fun _ => True) (fun _ _ _ _ => trivial))).2.2
    have hnd6 : nd ≤ 1048576 := by have h1 := HND.out; have h2 := HLE.out; omega
    clear hdm HLE HN0
    go_wp2_with fail
    go_loopw [9, 11, 21] (fun y z i wr => ∃ (k : Nat) (v : Value) (D : List PB) (g1 : Bool), k ≤ nd ∧ i = .int .i64 k ∧ y = .bool g1 ∧ Hid (Below w.heap.size w wr) ∧ Hid (w5.heap.size ≤ wr.heap.size) ∧ Hid (SB wr w1.heap.size g v D) ∧ Hid (∀ y, (Value.slice ad nd cd).ownBlock = some y → v.ownBlock ≠ some y) ∧ Hid (yW wr U4.heap.size (.slice ad nd cd) W) ∧ Hid (daOk D = true) ∧ Hid (KsD KS D) ∧ Hid (rxV (tc, te, tn) l rs = rxF (ds.drop k) D g1)) (fun _ _ i _ => nd - (intOf i).toNat)
    case atStart => exact ⟨0, _, _, _, Nat.zero_le _, rfl, rfl, HB5.out, Nat.le_refl _, SB5.out, fun y hy e => by have h1 := (HYO.out y hy).1; have h2 := HVO.out y e; omega, HY.out, HDA.out, HKL.out, HVV.out⟩
    case round =>
      clear HDA HVV SB5 HB5 HY HVO
      obtain ⟨k, v, D, g1, hk, rfl, rfl, HB, HZ, HSB, HNE, HY, HDA, HL, HV⟩ := hrel
      by_cases hlt : k < nd
      · skip
        have hlt' : (k : Int) < (nd : Int) := by omega
        have hk0 : (0 : Int) ≤ (k : Int) := by omega
        have hkw : k < W.length := by rw [← HND.out]; exact hlt
        have hkr : k < ds.length := by rw [HDM.out]; exact hkw
        have HYR := hid (rw_own HY.out (S := fun _ => True) (fun _ _ _ _ => trivial))
        obtain ⟨b, off, rfl, _, _, hcell⟩ := Rw.at HYR.out (by omega)
        have hr : wr.rangeAt b (off + k * 13) ((rvAt W k).1.cs (rvAt W k).2) := fun j u hu => by rw [Nat.add_assoc]; exact hcell _ _ (rycs_at W k hkw j u hu)
        have hmem : rvAt W k ∈ W := by simp [rvAt, hkw]
        obtain ⟨pa, pn, pc, hps⟩ := HSW.out _ hmem
        have hpp := HPW.out _ hmem
        have hry : ryAt ds k = (rvAt W k).1 := by
          have h1 := HDS.out
          subst h1
          simp [ryAt, rvAt, hkw]
        have hky : (ryAt ds k).ky ∈ KS := HKR2.out _ (by simp [ryAt, hkr])
        rw [hry] at hky
        have HSD := hid (rx_yes hkr D g1)
        rw [← HV.out, hry] at HSD
        have HSF := hid (rx_bad hkr D g1)
        rw [← HV.out, hry] at HSF
        clear HV hcell HYR hry hmem
        generalize hqq : rvAt W k = qq at *
        clear hqq
        obtain ⟨ry, vv⟩ := qq
        simp only at hps
        subst hps
        obtain ⟨rk, rc, re, rn, ra, ky, vl, lo, hi, mo, bk, co, ps⟩ := ry
        simp only [RY.cs, RY.ok, RY.D, RY.T] at hr hpp HSD HSF
        have HKY : Hid (ky ∈ KS) := hky
        clear hky
        have HR := hid hr
        have hbp := below_new (o := .cells #[.int .i64 rk, .int .i64 rc, .int .i64 re, .int .i64 rn, .int .i64 ra, .string ky, .string vl, .string lo, .string hi, .int .i64 mo, .bool bk, .int .i64 co, .slice pa pn pc] 87) (w := wr) (Below.refl _ _)
        have KP := hid (Bk.new wr 87 [.int .i64 rk, .int .i64 rc, .int .i64 re, .int .i64 rn, .int .i64 ra, .string ky, .string vl, .string lo, .string hi, .int .i64 mo, .bool bk, .int .i64 co, .slice pa pn pc])
        have HPS := hid (hpp.below' (HB.out.trans (hbp.mono HB.out.size)))
        have HB1' := hid (HB.out.trans (hbp.mono HB.out.size))
        have HZ1 := hid (Nat.le_trans HZ.out hbp.size)
        have HSB1' := hid (HSB.out.below hbp)
        have HY1 := hid (HY.out.below hbp)
        have hgr : ¬ wr.heap.size = g := fun e => by have := HSB.out.bk.lt; omega
        have hvr : v.ownBlock ≠ some wr.heap.size := fun e => by have := (World.ownsRow.lt HSB.out.own _ e).2; omega
        have HGR := hid hgr
        have HVR := hid hvr
        clear hr hpp hbp HB HZ HSB HY hgr hvr
        have q4 := KP.out.cell (j := 4) rfl
        have q5 := KP.out.cell (j := 5) rfl
        have q6 := KP.out.cell (j := 6) rfl
        have q7 := KP.out.cell (j := 7) rfl
        have q8 := KP.out.cell (j := 8) rfl
        have q9 := KP.out.cell (j := 9) rfl
        have q10 := KP.out.cell (j := 10) rfl
        go_upto_region 7 with (first
            | (refine wpList_load_mid rfl 87 _ rfl b (off + k * 13) rfl _ _ HR.out Try.underlying87 rfl (by kernel_rfl) ?_)
            | (refine wpList_store_new ?hg 87 _ _ ?ho 87 _ _ ?hx ?hy ?hi ?hold ?h1 ?rest; (case hg => rfl); (case ho => rfl); (case hx => rfl); (case hy => rfl); (case hi => kernel_rfl); (case hold => rfl); (case h1 => kernel_rfl)))
        generalize wr.alloc (.cells #[.int .i64 rk, .int .i64 rc, .int .i64 re, .int .i64 rn, .int .i64 ra, .string ky, .string vl, .string lo, .string hi, .int .i64 mo, .bool bk, .int .i64 co, .slice pa pn pc] 87) = VV at *
        generalize wr.heap.size = rb at *
        go_wp2_with fail
        refine (implAskOk_any ra ky vl lo hi mo bk _).mono ?_
        rintro e w6 ⟨rfl, hb⟩
        cases hk9 : akOk ra ky vl lo hi mo bk with
        | false =>
          have HS2 : Hid (rxV (tc, te, tn) l rs = ([], false)) := HSF.out hk9
          have HB6 := hid (btR HB1'.out hb)
          clear hb hk9 HSD HSF q4 q5 q6 q7 q8 q9 q10
          go_wp2
          go_ret2
          rw [HS2.out]
          exact rx_no HB6.out
        | true =>
          have HS2 : Hid (rxV (tc, te, tn) l rs = rxF (ds.drop (k + 1)) (raD D ra ky vl) (g1 && decide (raT D ra ky lo hi mo bk = ps))) := HSD.out hk9
          have HAK := hid hk9
          have HB6 := hid (btR HB1'.out hb)
          have HZ6 := hid (Nat.le_trans HZ1.out hb.size)
          have SB6 := hid (HSB1'.out.below hb)
          have HY6 := hid (HY1.out.below hb)
          have K6 := hid (KP.out.below hb)
          have HP6 := hid (Rw.to HPS.out (only_of_below hb (fun _ => False)) (fun _ _ _ h => h))
          have HDL : Hid (D.length ≤ 1048576) := HL.out.few HDA.out HKK.out
          have HBS6 : Hid (w1.heap.size ≤ w6.heap.size) := by show _ ≤ _; have h1 := HS5.out; have h2 := HZ6.out; omega
          clear hb hk9 HSD HSF q4 q5 q6 q7 q8 q9 q10 HB1' HZ1 HSB1' HY1 KP HPS HR
          have HSEP : Hid (∀ b, b < w.heap.size → b = g ∨ v.ownBlock = some b → False) := fun b h1 h2 => by
            have h3 := HSB1.out
            rcases h2 with h2 | h2
            · have := SB6.out.le; omega
            · have := (World.ownsRow.lt SB6.out.own b h2).1; omega
          have CE : Hid (∀ (sm : Bool) a5 n5 c5 (u : World), decide (raT D ra ky lo hi mo bk = ps) = sm → Pr u (fun _ => True) (.slice a5 n5 c5) (raT D ra ky lo hi mo bk) → Pr u (fun b => b < w.heap.size) (.slice pa pn pc) ps → Calls Try.prog 50 #[.slice a5 n5 c5, .slice pa pn pc] u fun e w' => e = .returned (.bool sm) ∧ Below u.heap.size u w') := fun sm a5 n5 c5 u hsm h1 h2 => by
            have := equalP_any (fun _ => True) (fun b => b < w.heap.size) a5 pa n5 pn c5 pc (raT D ra ky lo hi mo bk) ps u h1 h2
            rw [hsm] at this
            exact this
          cases hsm : decide (raT D ra ky lo hi mo bk = ps) with
          | true =>
            have HSM := hid hsm
            have HS3 := HS2
            rw [hsm] at HS3
            have HS4 : Hid (rxV (tc, te, tn) l rs = rxF (ds.drop (k + 1)) (raD D ra ky vl) g1) := by have h9 := HS3.out; rw [Bool.and_true] at h9; exact h9
            clear hsm HS2 HS3
            go_wp2_with fail
            go_region_held3 (fun u => u.cell? ⟨rb, 4, none⟩ = some (.int .i64 ra) ∧ u.cell? ⟨rb, 5, none⟩ = some (.string ky) ∧ u.cell? ⟨rb, 6, none⟩ = some (.string vl) ∧ u.cell? ⟨rb, 7, none⟩ = some (.string lo) ∧ u.cell? ⟨rb, 8, none⟩ = some (.string hi) ∧ u.cell? ⟨rb, 9, none⟩ = some (.int .i64 mo) ∧ u.cell? ⟨rb, 10, none⟩ = some (.bool bk) ∧ u.cell? ⟨rb, 12, none⟩ = some (.slice pa pn pc) ∧ Bk u rb 87 [.int .i64 rk, .int .i64 rc, .int .i64 re, .int .i64 rn, .int .i64 ra, .string ky, .string vl, .string lo, .string hi, .int .i64 mo, .bool bk, .int .i64 co, .slice pa pn pc])
              (first | assumption | exact rb8 (K6.out.below (below_drew _)) | exact rb8 hKb2 | exact rb8 hKb)
              (first
                | (go_at_call 36; refine (runAsk_any w1.heap.size g v D ra ky vl lo hi mo bk _ (SB6.out.below (below_drew _)) (Nat.le_trans HBS6.out (below_drew _).size) HDA.out HDL.out HAK.out).mono ?_; rintro e w7 ⟨a5, n5, c5, rfl, hR7, ⟨v7, hS7, hne7, hk7⟩, hb7⟩; have hKb := (K6.out.below (below_drew w6)).to hk7.only (fun h => h.elim (fun e => HGR.out e) (fun e => HVR.out e)))
                | (go_at_call 50; refine (CE.out true a5 n5 c5 _ HSM.out (Rw.mono hR7.pr (fun _ _ _ => trivial)) (Rw.to (Rw.to HP6.out (only_of_below (below_drew w6) (fun _ => False)) (fun _ _ _ h => h)) hk7.only (fun b h1 _ h2 => HSEP.out b h1 h2))).mono ?_; rintro e w8 ⟨rfl, hb8⟩; have hKb2 := hKb.below hb8))
            rename_i hS
            have HY8 : Hid (yW w8 U4.heap.size (.slice (some ⟨b, off, none⟩) nd cd) W) := by
              have h1 : yW w7 U4.heap.size (.slice (some ⟨b, off, none⟩) nd cd) W := own_kept (HY6.out.below (below_drew w6)) hk7.only (fun q e h => h.elim (fun e2 => by have h3 := (HYO.out q e).1; have h4 := HG4.out; omega) (fun e2 => HNE.out q e e2))
              exact h1.below hb8
            have HNE8 : Hid (∀ y, (Value.slice (some ⟨b, off, none⟩) nd cd).ownBlock = some y → v7.ownBlock ≠ some y) := fun y hy e => by
              rcases hk7.own with h1 | ⟨q, h1, h2⟩
              · exact HNE.out y hy (h1 ▸ e)
              · rw [h1] at e
                have h3 := (HYO.out y hy).2
                have h4 := (below_drew w6).size
                have h5 := HZ6.out
                have h6 : q = y := by simpa using e
                omega
            have HB8 : Hid (Below w.heap.size w w8) := (HB6.out.trans ((below_drew w6).mono HB6.out.size)).trans ((hb7.mono HSB1.out).trans (hb8.mono (Nat.le_trans (HB6.out.size) (Nat.le_trans (below_drew w6).size hk7.only.size))))
            have HZ8 := hid (Nat.le_trans HZ6.out (Nat.le_trans (below_drew w6).size (Nat.le_trans hk7.only.size hb8.size)))
            have HS8 := hid (hS7.below hb8)
            have HD8 := hid (raD_da HDA.out HAK.out)
            have HL8 : Hid (KsD KS (raD D ra ky vl)) := HL.out.raD HKY.out
            clear hS hR7 hS7 hne7 hk7 hb7 hb8 hKb hKb2 HY6 SB6 K6 HP6 HNE HB6 HZ6 HSEP CE HSM HL HDA HDL HAK
            go_wp2
            go_roundw
            case rel => exact ⟨k + 1, _, _, _, by omega, by go_num, rfl, HB8.out, HZ8.out, HS8.out, HNE8.out, HY8.out, HD8.out, HL8.out, HS4.out⟩
            case measure => simp [intOf]; omega
          | false =>
            have HSM := hid hsm
            have HS3 := HS2
            rw [hsm] at HS3
            have HS4 : Hid (rxV (tc, te, tn) l rs = rxF (ds.drop (k + 1)) (raD D ra ky vl) false) := by have h9 := HS3.out; rw [Bool.and_false] at h9; exact h9
            clear hsm HS2 HS3
            go_wp2_with fail
            refine wp_region_noPanic ?_
            refine wp_region_held_drew (S := fun u => u.cell? ⟨rb, 4, none⟩ = some (.int .i64 ra) ∧ u.cell? ⟨rb, 5, none⟩ = some (.string ky) ∧ u.cell? ⟨rb, 6, none⟩ = some (.string vl) ∧ u.cell? ⟨rb, 7, none⟩ = some (.string lo) ∧ u.cell? ⟨rb, 8, none⟩ = some (.string hi) ∧ u.cell? ⟨rb, 9, none⟩ = some (.int .i64 mo) ∧ u.cell? ⟨rb, 10, none⟩ = some (.bool bk) ∧ u.cell? ⟨rb, 12, none⟩ = some (.slice pa pn pc) ∧ Bk u rb 87 [.int .i64 rk, .int .i64 rc, .int .i64 re, .int .i64 rn, .int .i64 ra, .string ky, .string vl, .string lo, .string hi, .int .i64 mo, .bool bk, .int .i64 co, .slice pa pn pc]) (by kernel_rfl) (rb8 (K6.out.below (below_drew _))) (fun hHeld => ?_)
            simp only [List.size_toArray, List.length_cons, List.length_nil, Array.replicate_succ, Array.replicate_zero, Nat.reduceAdd, List.push_toArray, List.nil_append, List.cons_append]
            refine wpAnyH_take (i := 0) (v := (.pointer (some ⟨rb, 4, none⟩))) rfl (by kernel_rfl) (by kernel_rfl) (by kernel_rfl) (fun _ _ _ h => h) (Or.inl ⟨by rfl, ?_⟩) (by assumption) ?_
            · intro w hSw
              (try dsimp only at hSw)
              go_simp
            try simp only [List.getElem_toArray]
            try simp only [List.getElem_cons_succ]
            try simp only [List.getElem_cons_zero]
            try simp only [Act.put]
            try simp only [List.setIfInBounds_toArray]
            try simp only [List.set_cons_succ]
            try simp only [List.set_cons_zero]
            refine wpAnyH_take (i := 1) (v := (.agg #[.int .i64 ra, .string ky, .string vl, .string lo, .string hi, .int .i64 mo, .bool bk])) rfl (by kernel_rfl) (by kernel_rfl) (by kernel_rfl) (fun _ _ _ h => h) (Or.inl ⟨by rfl, ?_⟩) (by assumption) ?_
            · intro w hSw
              (try dsimp only at hSw)
              go_simp
            try simp only [List.getElem_toArray]
            try simp only [List.getElem_cons_succ]
            try simp only [List.getElem_cons_zero]
            try simp only [Act.put]
            try simp only [List.setIfInBounds_toArray]
            try simp only [List.set_cons_succ]
            try simp only [List.set_cons_zero]
            refine wpAnyH_take (i := 3) (v := (.pointer (some ⟨rb, 12, none⟩))) rfl (by kernel_rfl) (by kernel_rfl) (by kernel_rfl) (fun _ _ _ h => h) (Or.inl ⟨by rfl, ?_⟩) (by assumption) ?_
            · intro w hSw
              (try dsimp only at hSw)
              go_simp
            try simp only [List.getElem_toArray]
            try simp only [List.getElem_cons_succ]
            try simp only [List.getElem_cons_zero]
            try simp only [Act.put]
            try simp only [List.setIfInBounds_toArray]
            try simp only [List.set_cons_succ]
            try simp only [List.set_cons_zero]
            refine wpAnyH_take (i := 4) (v := (.slice pa pn pc)) rfl (by kernel_rfl) (by kernel_rfl) (by kernel_rfl) (fun _ _ _ h => h) (Or.inl ⟨by rfl, ?_⟩) (by assumption) ?_
            · intro w hSw
              (try dsimp only at hSw)
              go_simp
            try simp only [List.getElem_toArray]
            try simp only [List.getElem_cons_succ]
            try simp only [List.getElem_cons_zero]
            try simp only [Act.put]
            try simp only [List.setIfInBounds_toArray]
            try simp only [List.set_cons_succ]
            try simp only [List.set_cons_zero]
            refine wpAnyH_ready (rs := [2]) (by kernel_rfl) (by simp) ?_
            refine AllReadyH.cons rfl (fun K1 hK => ?_) AllReadyH.nil
            go_simp
            refine (runAsk_any w1.heap.size g v D ra ky vl lo hi mo bk _ (SB6.out.below (below_drew _)) (Nat.le_trans HBS6.out (below_drew _).size) HDA.out HDL.out HAK.out).mono ?_
            rintro e w7 ⟨a5, n5, c5, rfl, hR7, ⟨v7, hS7, hne7, hk7⟩, hb7⟩
            have hKb := (K6.out.below (below_drew w6)).to hk7.only (fun h => h.elim (fun e => HGR.out e) (fun e => HVR.out e))
            go_wp2_with fail
            refine hK.out _ _ ?_ (fun hHeld => ?_)
            · exact rb8 hKb
            clear hK K1
            try simp only [List.getElem_toArray]
            try simp only [List.getElem_cons_succ]
            try simp only [List.getElem_cons_zero]
            try simp only [Act.put]
            try simp only [List.setIfInBounds_toArray]
            try simp only [List.set_cons_succ]
            try simp only [List.set_cons_zero]
            refine wpAnyH_ready (rs := [5]) (by kernel_rfl) (by simp) ?_
            refine AllReadyH.cons rfl (fun K1 hK => ?_) AllReadyH.nil
            go_simp
            refine (CE.out false a5 n5 c5 _ HSM.out (Rw.mono hR7.pr (fun _ _ _ => trivial)) (Rw.to (Rw.to HP6.out (only_of_below (below_drew w6) (fun _ => False)) (fun _ _ _ h => h)) hk7.only (fun b h1 _ h2 => HSEP.out b h1 h2))).mono ?_
            rintro e w8 ⟨rfl, hb8⟩
            have hKb2 := hKb.below hb8
            go_wp2_with fail
            refine hK.out _ _ ?_ (fun hHeld => ?_)
            · exact rb8 hKb2
            clear hK K1
            try simp only [List.getElem_toArray]
            try simp only [List.getElem_cons_succ]
            try simp only [List.getElem_cons_zero]
            try simp only [Act.put]
            try simp only [List.setIfInBounds_toArray]
            try simp only [List.set_cons_succ]
            try simp only [List.set_cons_zero]
            refine wpAnyH_take (i := 6) (v := (.bool false)) rfl (by kernel_rfl) (by kernel_rfl) (by kernel_rfl) (fun _ _ _ h => h) (Or.inl ⟨by rfl, ?_⟩) (by assumption) ?_
            · intro w hSw
              (try dsimp only at hSw)
              go_simp
            try simp only [List.getElem_toArray]
            try simp only [List.getElem_cons_succ]
            try simp only [List.getElem_cons_zero]
            try simp only [Act.put]
            try simp only [List.setIfInBounds_toArray]
            try simp only [List.set_cons_succ]
            try simp only [List.set_cons_zero]
            refine take_no (i := 7) rfl (by kernel_rfl) (by kernel_rfl) (by kernel_rfl) (fun _ _ _ h => h) (by rfl) (by assumption) ?_
            try simp only [List.getElem_toArray]
            try simp only [List.getElem_cons_succ]
            try simp only [List.getElem_cons_zero]
            try simp only [Act.put]
            try simp only [List.setIfInBounds_toArray]
            try simp only [List.set_cons_succ]
            try simp only [List.set_cons_zero]
            refine wpAnyH_take (i := 8) (v := (.bool false)) rfl (by kernel_rfl) (by kernel_rfl) (by kernel_rfl) (fun _ _ _ h => h) (Or.inl ⟨by rfl, ?_⟩) (by assumption) ?_
            · intro w hSw
              (try dsimp only at hSw)
              go_simp
            try simp only [List.getElem_toArray]
            try simp only [List.getElem_cons_succ]
            try simp only [List.getElem_cons_zero]
            try simp only [Act.put]
            try simp only [List.setIfInBounds_toArray]
            try simp only [List.set_cons_succ]
            try simp only [List.set_cons_zero]
            refine wpAnyH_take (i := 9) (v := (.bool false)) rfl (by kernel_rfl) (by kernel_rfl) (by kernel_rfl) (fun _ _ _ h => h) (Or.inl ⟨by rfl, ?_⟩) (by assumption) ?_
            · intro w hSw
              (try dsimp only at hSw)
              go_simp
            try simp only [List.getElem_toArray]
            try simp only [List.getElem_cons_succ]
            try simp only [List.getElem_cons_zero]
            try simp only [Act.put]
            try simp only [List.setIfInBounds_toArray]
            try simp only [List.set_cons_succ]
            try simp only [List.set_cons_zero]
            refine wpAnyH_done (by kernel_rfl) ?_ _
            refine NoPanic.normal ?_
            have hS := True.intro
            have HY8 : Hid (yW w8 U4.heap.size (.slice (some ⟨b, off, none⟩) nd cd) W) := by
              have h1 : yW w7 U4.heap.size (.slice (some ⟨b, off, none⟩) nd cd) W := own_kept (HY6.out.below (below_drew w6)) hk7.only (fun q e h => h.elim (fun e2 => by have h3 := (HYO.out q e).1; have h4 := HG4.out; omega) (fun e2 => HNE.out q e e2))
              exact h1.below hb8
            have HNE8 : Hid (∀ y, (Value.slice (some ⟨b, off, none⟩) nd cd).ownBlock = some y → v7.ownBlock ≠ some y) := fun y hy e => by
              rcases hk7.own with h1 | ⟨q, h1, h2⟩
              · exact HNE.out y hy (h1 ▸ e)
              · rw [h1] at e
                have h3 := (HYO.out y hy).2
                have h4 := (below_drew w6).size
                have h5 := HZ6.out
                have h6 : q = y := by simpa using e
                omega
            have HB8 : Hid (Below w.heap.size w w8) := (HB6.out.trans ((below_drew w6).mono HB6.out.size)).trans ((hb7.mono HSB1.out).trans (hb8.mono (Nat.le_trans (HB6.out.size) (Nat.le_trans (below_drew w6).size hk7.only.size))))
            have HZ8 := hid (Nat.le_trans HZ6.out (Nat.le_trans (below_drew w6).size (Nat.le_trans hk7.only.size hb8.size)))
            have HS8 := hid (hS7.below hb8)
            have HD8 := hid (raD_da HDA.out HAK.out)
            have HL8 : Hid (KsD KS (raD D ra ky vl)) := HL.out.raD HKY.out
            clear hS hR7 hS7 hne7 hk7 hb7 hb8 hKb hKb2 HY6 SB6 K6 HP6 HNE HB6 HZ6 HSEP CE HSM HL HDA HDL HAK
            go_wp2
            go_roundw
            case rel => exact ⟨k + 1, _, _, _, by omega, by go_num, rfl, HB8.out, HZ8.out, HS8.out, HNE8.out, HY8.out, HD8.out, HL8.out, HS4.out⟩
            case measure => simp [intOf]; omega
      · have HVF : Hid (rxV (tc, te, tn) l rs = (D, g1)) := by
          have h2 := HV.out
          rw [List.drop_eq_nil_of_le (by rw [HDM.out, ← HND.out]; omega)] at h2
          exact h2
        have hlt' : ¬ (k : Int) < (nd : Int) := by omega
        obtain ⟨a9, n9, c9, rfl, _⟩ := HSB.out.own.shape'
        have d0 := HSB.out.bk.cell (j := 0) rfl
        clear HV
        go_wp2
        go_ret2
        rw [HVF.out]
        exact ⟨_, _, _, rfl, ow_mono HSB.out.own HSB1.out, HB.out⟩
end Go.Proofs.Ytjbamfgfgbmieaa
/-
  Serial of the program.
-/
namespace Go.Proofs.Ytjbamfgfgbmieaa
open Go.RowKit
set_option linter.unusedVariables false
set_option maxHeartbeats 8000000 in
set_option maxRecDepth 20000 in
theorem implSerial_any (S R : Nat → Prop) (a : Option Addr) (n c : Nat) (rs : List RY) (b : Option Addr) (m d : Nat) (ts : List TQ) (w : World) (h : Yr w S (.slice a n c) rs) (ht : tqR w R (.slice b m d) ts) (hs : n ≤ 1048576) :
    Calls Try.prog 26 #[.slice a n c, .slice b m d] w fun e w' => RxPost (seF rs ts []).1 (seF rs ts []).2 w e w' := by
  have hmd := ht.len.2.1
  have hdd := ht.len.2.2
  have HM := hid ht.len.1
  have HKK : Hid ((rs.map (·.ky)).length ≤ 1048576) := by show _ ≤ _; rw [List.length_map, ← h.len.1]; exact hs
  have HKR : Hid (∀ r ∈ rs, r.ky ∈ rs.map (·.ky)) := fun r hr => List.mem_map_of_mem hr
  have HV : Hid (seF rs ts [] = seF rs (ts.drop 0) []) := rfl
  have H0 := hid h
  have T0 := hid ht
  clear h ht
  have B0 := hid (Below.refl w.heap.size w)
  have O0 := hid (ow_nil w w.heap.size)
  go_enter Try.func26, Try.ntmps26
  go_wp2_with fail
  go_loopw [6, 8, 9, 10, 13] (fun x p y z i wr => ∃ (k : Nat) (av : Option Addr) (nv cv : Nat) (D : List PB), k ≤ m ∧ i = .int .i64 k ∧ x = .slice av nv cv ∧ Hid (Below w.heap.size w wr) ∧ Hid (Ow wr w.heap.size (.slice av nv cv) D) ∧ Hid (daOk D = true) ∧ Hid (KsD (rs.map (·.ky)) D) ∧ Hid (seF rs ts [] = seF rs (ts.drop k) D)) (fun _ _ _ _ i _ => m - (intOf i).toNat)
  case atStart => exact ⟨0, _, _, _, [], Nat.zero_le _, rfl, rfl, B0.out, O0.out, rfl, ksd_nil _, HV.out⟩
  case round =>
    clear HV O0
    obtain ⟨k, av, nv, cv, D, hk, rfl, rfl, HB, HO, HDA, HL, HV⟩ := hrel
    by_cases hlt : k < m
    · skip
      have hlt' : (k : Int) < (m : Int) := by omega
      have hk0 : (0 : Int) ≤ (k : Int) := by omega
      have hkt : k < ts.length := by rw [← HM.out]; exact hlt
      obtain ⟨b, off, rfl, _, _, hcell⟩ := (T0.out.below HB.out).at (by omega)
      obtain ⟨hc0, hc1, hc2⟩ := hcell k hlt
      have HY := hid (fun hk9 => se_yes (rs := rs) hkt D hk9)
      have HF := hid (fun hk9 => se_bad (rs := rs) hkt D hk9)
      rw [← HV.out] at HY HF
      clear hcell HV
      generalize tqAt ts k = tx at *
      obtain ⟨tc, te, tn⟩ := tx
      simp only at hc0 hc1 hc2
      have hnb := below_new (o := .cells #[.int .i64 tc, .int .i64 te, .int .i64 tn] 48) (w := wr) (Below.refl _ _)
      have HB1 := hid (HB.out.trans (hnb.mono HB.out.size))
      have H1 := hid (H0.out.below HB1.out)
      have P1 := hid ((HO.out.kept hnb).pr (S := fun _ => True) (fun _ _ _ _ => trivial))
      have hnv : nv ≤ 1048576 := by have h1 := (Rw.len P1.out).1; have h2 := HL.out.few HDA.out HKK.out; omega
      have CC := hid (fun (u : World) (hP : Pr u (fun _ => True) (.slice av nv cv) D) (hR : Yr u S (.slice a n c) rs) => implRunTx_any S (fun _ => True) av nv cv D a n c rs tc te tn u hP hR _ HKK.out HL.out HKR.out hnv hs)
      clear hnb HB HO
      go_wp2_with fail
      refine (CC.out _ P1.out H1.out).mono ?_
      generalize wr.alloc (.cells #[.int .i64 tc, .int .i64 te, .int .i64 tn] 48) = U at *
      rintro e w2 ⟨a2, n2, c2, rfl, hO2, hb⟩
      have HB2 := hid (HB1.out.trans (hb.mono HB1.out.size))
      have HO2 := hid (ow_mono hO2 HB1.out.size)
      have HD2 := hid (rxV_da (tc, te, tn) D rs)
      have HL2 := hid (rxV_ks (t := (tc, te, tn)) HKR.out HL.out)
      clear hO2 hb CC P1 H1 hc0 hc1 hc2
      cases hok : (rxV (tc, te, tn) D rs).2 with
      | false =>
        have HF2 := hid (HF.out hok)
        clear hok HF HY
        go_wp2
        go_ret2
        rw [HF2.out]
        exact rx_no HB2.out
      | true =>
        have HY2 := hid (HY.out hok)
        clear hok HF HY
        go_wp2
        go_roundw
        case rel => exact ⟨k + 1, _, _, _, _, by omega, by go_num, rfl, HB2.out, HO2.out, HD2.out, HL2.out, HY2.out⟩
        case measure => simp [intOf]; omega
    · have hlt' : ¬ (k : Int) < (m : Int) := by omega
      have HVF : Hid (seF rs ts [] = (D, true)) := by
        have h2 := HV.out
        rw [List.drop_eq_nil_of_le (by rw [← HM.out]; omega)] at h2
        exact h2
      clear HV
      go_wp2
      go_ret2
      rw [HVF.out]
      exact ⟨_, _, _, rfl, HO.out, HB.out⟩
end Go.Proofs.Ytjbamfgfgbmieaa
/-
  What the law's helpers do with rows of names: sizes, copies, held against each other, marks.
-/
namespace Go.Proofs.Ytjbamfgfgbmieaa
open Go.RowKit
set_option linter.unusedVariables false
theorem klsr {u v : World} {a0 a1 a2 a3 a4 a5 : Addr} {x0 x1 x2 x3 x4 x5 : Value} (h : KL u v [(a0, x0), (a1, x1), (a2, x2), (a3, x3), (a4, x4), (a5, x5)]) : v.cell? a0 = some x0 ∧ v.cell? a1 = some x1 ∧ v.cell? a2 = some x2 ∧ v.cell? a3 = some x3 ∧ v.cell? a4 = some x4 ∧ v.cell? a5 = some x5 ∧ KL u v [(a0, x0), (a1, x1), (a2, x2), (a3, x3), (a4, x4), (a5, x5)] := ⟨h.at (by simp), h.at (by simp), h.at (by simp), h.at (by simp), h.at (by simp), h.at (by simp), h⟩
theorem klsrc {u v v' : World} {a0 a1 a2 a3 a4 a5 : Addr} {x0 x1 x2 x3 x4 x5 : Value} (k : Below v.heap.size v v') (h : v.cell? a0 = some x0 ∧ v.cell? a1 = some x1 ∧ v.cell? a2 = some x2 ∧ v.cell? a3 = some x3 ∧ v.cell? a4 = some x4 ∧ v.cell? a5 = some x5 ∧ KL u v [(a0, x0), (a1, x1), (a2, x2), (a3, x3), (a4, x4), (a5, x5)]) : v'.cell? a0 = some x0 ∧ v'.cell? a1 = some x1 ∧ v'.cell? a2 = some x2 ∧ v'.cell? a3 = some x3 ∧ v'.cell? a4 = some x4 ∧ v'.cell? a5 = some x5 ∧ KL u v' [(a0, x0), (a1, x1), (a2, x2), (a3, x3), (a4, x4), (a5, x5)] := klsr (KL.call h.2.2.2.2.2.2 k)
theorem klsr_bel {u v : World} {a0 a1 a2 a3 a4 a5 : Addr} {x0 x1 x2 x3 x4 x5 : Value} (h : v.cell? a0 = some x0 ∧ v.cell? a1 = some x1 ∧ v.cell? a2 = some x2 ∧ v.cell? a3 = some x3 ∧ v.cell? a4 = some x4 ∧ v.cell? a5 = some x5 ∧ KL u v [(a0, x0), (a1, x1), (a2, x2), (a3, x3), (a4, x4), (a5, x5)]) : Below u.heap.size u v := KL.bel h.2.2.2.2.2.2
theorem klsr_0 {u : World} {a0 a1 a2 a3 a4 a5 : Addr} {x0 x1 x2 x3 x4 x5 : Value} (h0 : u.cell? a0 = some x0) (h1 : u.cell? a1 = some x1) (h2 : u.cell? a2 = some x2) (h3 : u.cell? a3 = some x3) (h4 : u.cell? a4 = some x4) (h5 : u.cell? a5 = some x5) : KL u u [(a0, x0), (a1, x1), (a2, x2), (a3, x3), (a4, x4), (a5, x5)] := ⟨fun p hp => by
    simp only [List.mem_cons, List.not_mem_nil, or_false] at hp
    rcases hp with rfl | rfl | rfl | rfl | rfl | rfl <;> assumption, Below.refl _ _⟩
set_option maxHeartbeats 4000000 in
theorem toTxS_at (S : Nat → Prop) (a : Option Addr) (n c : Nat) (l : List TQ) (w : World) (h : tqR w S (.slice a n c) l) (hnm : n ≤ 1048576) :
    Calls Try.prog 25 #[.slice a n c] w fun e w' => e = .returned (.slice (some ⟨w.heap.size, 0, none⟩) n n) ∧ Bk w' w.heap.size 48 (tqcs l) ∧ Below w.heap.size w w' := by
  have HN := hid (Rw.len h).1
  have H0 := hid h
  clear h
  have hmk := run_make_n (P := Try.prog) 57 48 (.agg #[.int .i64 0, .int .i64 0, .int .i64 0]) 3 24 Try.underlying57 tqInfo n (by omega) (by omega)
  rw [tq_made] at hmk
  have HM : Hid (tqcs (List.replicate n tq0) = tqcs (tqPt l 0)) := by
    show _ = _
    rw [HN.out]; simp [tqPt]
  rw [HM.out] at hmk
  have h63 : n ≤ 9223372036854775807 := by omega
  go_enter Try.func25, Try.ntmps25
  go_wp2
  go_loopw [4] (fun i wr => ∃ k : Nat, k ≤ n ∧ i = .int .i64 k ∧ Hid (Bk wr w.heap.size 48 (tqcs (tqPt l k))) ∧ Hid (Below w.heap.size w wr)) (fun i _ => n - (intOf i).toNat)
  case atStart => exact ⟨0, Nat.zero_le _, rfl, Bk.new _ _ _, (Below.refl _ _).alloc (Nat.le_refl _) _⟩
  case round =>
    obtain ⟨k, hk, rfl, HK, HB⟩ := hrel
    by_cases hlt : k < n
    · have hlt' : (k : Int) < (n : Int) := by omega
      have HP := hid (H0.out.below HB.out)
      obtain ⟨b, off, rfl, _, hbw, hcell⟩ := HP.out.at (by omega)
      obtain ⟨hc0, hc1, hc2⟩ := hcell k hlt
      have HW : Hid (w.heap.size < wr.heap.size) := HK.out.lt
      have HSET : Hid ((tqPt l k).set k (tqAt l k) = tqPt l (k + 1)) := tqPt_set l k (by rw [← HN.out]; exact hlt)
      have HLE : Hid ((tqPt l k).length = n) := by show _ = _; rw [tqPt_length l k (by rw [← HN.out]; exact hk), ← HN.out]
      clear hcell hbw
      generalize hcur : tqAt l k = cur at hc0 hc1 hc2 HSET
      obtain ⟨xc, xe, xn⟩ := cur
      clear hcur HP
      go_wp2_with fail
      refine (toTx_any xc xe xn wr).mono ?_
      rintro e w1 ⟨rfl, hb1⟩
      have HK1 := hid (HK.out.below hb1)
      have HB1 := hid (HB.out.trans (hb1.mono HB.out.size))
      clear hb1
      obtain ⟨q0, q1, q2⟩ := tqcs_at (tqPt l k) k (by rw [HLE.out]; exact hlt)
      have d0 := HK1.out.cell q0
      have d1 := HK1.out.cell q1
      have d2 := HK1.out.cell q2
      clear q0 q1 q2
      have hf0 := HK1.out.free (k * 3)
      have hf1 := HK1.out.free (k * 3 + 1)
      have hf2 := HK1.out.free (k * 3 + 2)
      have HK2 : Hid (Bk (((w1.setCell ⟨w.heap.size, k * 3, none⟩ (.int .i64 xc)).setCell ⟨w.heap.size, k * 3 + 1, none⟩ (.int .i64 xe)).setCell ⟨w.heap.size, k * 3 + 2, none⟩ (.int .i64 xn)) w.heap.size 48 (tqcs (tqPt l (k + 1)))) := by
        show Bk _ _ _ _
        rw [← HSET.out, tqcs_set _ _ _ (by rw [HLE.out]; exact hlt)]
        exact (((HK1.out.set _ _).set _ _).set _ _)
      have HB2 : Hid (Below w.heap.size w (((w1.setCell ⟨w.heap.size, k * 3, none⟩ (.int .i64 xc)).setCell ⟨w.heap.size, k * 3 + 1, none⟩ (.int .i64 xe)).setCell ⟨w.heap.size, k * 3 + 2, none⟩ (.int .i64 xn))) := (((HB1.out.setCell (Nat.le_refl _) _).setCell (Nat.le_refl _) _).setCell (Nat.le_refl _) _)
      generalize tqAt (tqPt l k) k = old at d0 d1 d2
      obtain ⟨oc, oe, on⟩ := old
      go_wp2
      go_roundw
      case rel => exact ⟨k + 1, by omega, by go_num, HK2.out, HB2.out⟩
      case measure => simp [intOf]; omega
    · have hk' : k = n := by omega
      have HA : Hid (tqcs (tqPt l k) = tqcs l) := by show _ = _; rw [hk', HN.out]; simp [tqPt]
      clear hk'
      go_wp2
      go_ret
      refine ⟨rfl, ?_, HB.out⟩
      rw [← HA.out]; exact HK.out
set_option maxHeartbeats 2000000 in
theorem eqTxS_same (S S' : Nat → Prop) (a a' : Option Addr) (n n' c c' : Nat) (l : List TQ) (w : World) (h : tqR w S (.slice a n c) l) (h' : tqR w S' (.slice a' n' c') l) :
    Calls Try.prog 27 #[.slice a n c, .slice a' n' c'] w fun e w' => e = .returned (.bool true) ∧ Below w.heap.size w w' := by
  obtain ⟨hn, hnc, hcc⟩ := Rw.len h
  obtain ⟨hn', hnc', hcc'⟩ := Rw.len h'
  obtain rfl : n' = n := by omega
  have H0 := hid h
  have H0' := hid h'
  clear h h' hn hn'
  have hz : ((n' : Int) != (n' : Int)) = false := by simp
  go_enter Try.func27, Try.ntmps27
  go_wp2
  go_loopw [5] (fun i wr => ∃ k : Nat, k ≤ n' ∧ i = .int .i64 k ∧ Hid (Below w.heap.size w wr)) (fun i _ => n' - (intOf i).toNat)
  case atStart => exact ⟨0, Nat.zero_le _, rfl, Below.refl _ _⟩
  case round =>
    obtain ⟨k, hk, rfl, HB⟩ := hrel
    by_cases hlt : k < n'
    · have hlt' : (k : Int) < (n' : Int) := by omega
      have HP := hid (H0.out.below HB.out)
      have HP' := hid (H0'.out.below HB.out)
      obtain ⟨b, off, rfl, _, hbw, hcell⟩ := HP.out.at (by omega)
      obtain ⟨b', off', rfl, _, hbw', hcell'⟩ := HP'.out.at (by omega)
      obtain ⟨hc0, hc1, hc2⟩ := hcell k hlt
      obtain ⟨gc0, gc1, gc2⟩ := hcell' k hlt
      clear hcell hcell' hbw hbw' HP HP'
      generalize tqAt l k = cur at hc0 hc1 hc2 gc0 gc1 gc2
      obtain ⟨xc, xe, xn⟩ := cur
      have T0 := hid (klsr_0 hc0 hc1 hc2 gc0 gc1 gc2)
      have C1 := hid (fun w => eqTx_same xc xe xn w)
      clear hc0 hc1 hc2 gc0 gc1 gc2
      go_wp2_with fail
      go_region_held3 (fun v => v.cell? ⟨b, off + k * 3, none⟩ = some (.int .i64 xc) ∧ v.cell? ⟨b, off + k * 3 + 1, none⟩ = some (.int .i64 xe) ∧ v.cell? ⟨b, off + k * 3 + 2, none⟩ = some (.int .i64 xn) ∧ v.cell? ⟨b', off' + k * 3, none⟩ = some (.int .i64 xc) ∧ v.cell? ⟨b', off' + k * 3 + 1, none⟩ = some (.int .i64 xe) ∧ v.cell? ⟨b', off' + k * 3 + 2, none⟩ = some (.int .i64 xn) ∧ KL wr v [(⟨b, off + k * 3, none⟩, .int .i64 xc), (⟨b, off + k * 3 + 1, none⟩, .int .i64 xe), (⟨b, off + k * 3 + 2, none⟩, .int .i64 xn), (⟨b', off' + k * 3, none⟩, .int .i64 xc), (⟨b', off' + k * 3 + 1, none⟩, .int .i64 xe), (⟨b', off' + k * 3 + 2, none⟩, .int .i64 xn)])
        (first | assumption | exact klsr (T0.out.call (below_drew _)) | exact klsrc hbC (by assumption))
        (first | (go_at_call 54; refine (C1.out _).mono ?_; rintro e w' ⟨rfl, hbC⟩))
      rename_i hS
      have HB1 := hid (HB.out.trans ((klsr_bel hS).mono HB.out.size))
      clear hS
      go_wp2
      go_roundw
      case rel => exact ⟨k + 1, by omega, by go_num, HB1.out⟩
      case measure => simp [intOf]; omega
    · go_wp2
      go_ret
      exact ⟨rfl, HB.out⟩
theorem szTxS_at (a : Option Addr) (n c : Nat) (left : Int) (w : World) (hn : n ≤ c) (hc : c ≤ 9223372036854775807) (h0 : 0 ≤ left) (h1 : left ≤ 1048576) :
    Calls Try.prog 23 #[.slice a n c, .int .i64 left] w fun e w' => (∃ x : Int, e = .returned (.int .i64 x) ∧ x ≤ left ∧ -1 ≤ x ∧ (0 ≤ x → n + x ≤ left)) ∧ Below w.heap.size w w' := by
  by_cases hbig : left - (n : Int) < 0
  · go_enter Try.func23, Try.ntmps23
    go_wp2
    go_ret
    exact ⟨⟨_, rfl, by omega, by omega, fun h => by omega⟩, Below.refl _ _⟩
  · go_enter Try.func23, Try.ntmps23
    go_wp2
    go_ret
    exact ⟨⟨_, rfl, by omega, by omega, fun _ => by omega⟩, Below.refl _ _⟩
/-- A row of which nothing is known but how long it is; nothing else has turned. -/
structure MT (w wr : World) (g n : Nat) : Prop where
  bk : ∃ ys : List Value, Bk wr g 48 ys ∧ ys.length = n * 3
  on : Only (fun y => y = g) w wr
theorem MT.set {w wr : World} {g n o : Nat} (h : MT w wr g n) (x : Value) : MT w (wr.setCell ⟨g, o, none⟩ x) g n := by
  obtain ⟨ys, y1, y2⟩ := h.bk
  exact ⟨⟨ys.set o x, y1.set o x, by rw [List.length_set]; exact y2⟩, h.on.trans (only_set (R := fun y => y = g) rfl x)⟩
theorem MT.cell {w wr : World} {g n o : Nat} (h : MT w wr g n) (ho : o < n * 3) : (∃ u, wr.cell? ⟨g, o, none⟩ = some u) ∧ wr.frozen? ⟨g, o, none⟩ = false := by
  obtain ⟨ys, y1, y2⟩ := h.bk
  have hl : o < ys.length := by omega
  exact ⟨⟨ys[o], y1.cell (by simp [hl])⟩, y1.free _⟩
set_option maxHeartbeats 4000000 in
theorem markTxS_any (w : World) (g n : Nat) (k : Int) (l : List TQ) (hB : Bk w g 48 (tqcs l)) (hn : n = l.length) (hnm : n ≤ 1048576) (hk0 : 0 < k) (hk : k ≤ 100000000000000) :
    Calls Try.prog 28 #[.slice (some ⟨g, 0, none⟩) n n, .int .i64 k] w fun e w' => (∃ q : Int, e = .returned (.int .i64 q) ∧ 0 < q) ∧ Only (fun y => y = g) w w' := by
  have M0 : Hid (MT w w g n) := ⟨⟨tqcs l, hB, by rw [tqcs_length, hn]⟩, Only.refl _ _⟩
  clear hB hn
  go_enter Try.func28, Try.ntmps28
  go_wp2_with fail
  go_loopw [1, 5] (fun x i wr => ∃ (j : Nat) (q : Int), x = .int .i64 q ∧ i = .int .i64 j ∧ j ≤ n ∧ Hid (0 < q ∧ q ≤ k + j * 3) ∧ Hid (MT w wr g n)) (fun _ i _ => n - (intOf i).toNat)
  case atStart => exact ⟨0, k, rfl, rfl, Nat.zero_le _, ⟨hk0, by omega⟩, M0.out⟩
  case round =>
    clear M0
    obtain ⟨j, q, rfl, rfl, hj, HQ, MM⟩ := hrel
    by_cases hlt : j < n
    · skip
      have hlt' : (j : Int) < (n : Int) := by omega
      have hj0 : (0 : Int) ≤ (j : Int) := by omega
      have hq := HQ.out
      have hq0 : 0 < q := hq.1
      have hq1 : q ≤ 200000000000000 := by have := hq.2; omega
      clear hq
      obtain ⟨⟨u0, c0⟩, f0⟩ := MM.out.cell (o := j * 3) (by omega)
      obtain ⟨⟨u1, c1⟩, f1⟩ := MM.out.cell (o := j * 3 + 1) (by omega)
      obtain ⟨⟨u2, c2⟩, f2⟩ := MM.out.cell (o := j * 3 + 2) (by omega)
      have HF : Hid (∀ x y z, MT w (((wr.setCell ⟨g, j * 3, none⟩ x).setCell ⟨g, j * 3 + 1, none⟩ y).setCell ⟨g, j * 3 + 2, none⟩ z) g n) := fun x y z => ((MM.out.set x).set y).set z
      clear MM
      go_wp2
      go_roundw
      case rel => exact ⟨j + 1, q + 3, by go_num, by go_num, by omega, ⟨by omega, by have := HQ.out.2; omega⟩, HF.out _ _ _⟩
      case measure => simp [intOf]; omega
    · have hlt' : ¬ (j : Int) < (n : Int) := by omega
      go_wp2
      go_ret
      exact ⟨⟨q, rfl, HQ.out.1⟩, MM.out.on⟩
end Go.Proofs.Ytjbamfgfgbmieaa
/-
  'string(b)' of a slice of bytes that is read.
-/
namespace Go.Proofs.Ytjbamfgfgbmieaa
open Go.RowKit

/-- The string of these bytes. -/
def strOf (zs : List Int) : ByteArray := ⟨(zs.map fun z => UInt8.ofNat z.toNat).toArray⟩
theorem foldl_push (zs : List Int) : ∀ s : ByteArray, zs.foldl (fun r n => r.push (UInt8.ofNat n.toNat)) s = ⟨(s.data.toList ++ zs.map fun z => UInt8.ofNat z.toNat).toArray⟩ := by
  induction zs with
  | nil => intro s; simp
  | cons z zs ih =>
    intro s
    rw [List.foldl_cons, ih]
    simp [ByteArray.push]
theorem strOf_foldl (zs : List Int) : zs.foldl (fun r n => r.push (UInt8.ofNat n.toNat)) ByteArray.empty = strOf zs := by
  rw [foldl_push]
  simp only [strOf]
  rfl

/-- 'string(b)'. -/
theorem run_str {w : World} {a : Option Addr} {n c : Nat} {zs : List Int} (h : Rd w a n c zs) : (convert 22 9 (.slice a n c)).run Try.prog w = .ok (.string (strOf zs)) w := by
  rw [run_convert_bytes_string w _ _ _ a n c Try.underlying22 Try.underlying5 Try.underlying9]
  obtain ⟨h1, h2, h3, h30, h4, h5⟩ := h
  cases a with
  | none =>
    have hm : n = 0 := by
      rcases Nat.eq_zero_or_pos n with h | h
      · exact h
      · obtain ⟨b, off, e, _⟩ := h5 h
        cases e
    have hz : zs = [] := List.eq_nil_of_length_eq_zero (by omega)
    subst hz
    rfl
  | some x =>
    rw [run_bytesToString w x n c zs, strOf_foldl]
    have hl := run_firstCells_some (P := Try.prog) w 1 n x n c (zs.map (Value.int .u8)) (by simp [h1]) (by
        intro j u hu
        have hj : j < zs.length := by
          have := (List.getElem?_eq_some_iff.1 hu).1
          simpa using this
        obtain ⟨b, off, e, _, hc⟩ := h5 (by omega)
        cases e
        have := hc j (by omega)
        rw [Addr.add_lit, this]
        simp [hj] at hu
        simp [hj, hu])
    simpa [Builtin.firstCells] using hl
end Go.Proofs.Ytjbamfgfgbmieaa
/-
  What the law's helper markText does: it answers with one text for each number (for trees: greater numbers).
-/
namespace Go.Proofs.Ytjbamfgfgbmieaa
open Go.RowKit
theorem strOf_size (o : List Int) : (strOf o).size = o.length := by
  show (strOf o).data.size = o.length
  simp [strOf]
theorem rd_lit (w : World) (z : Int) (h0 : 0 ≤ z) (h1 : z ≤ 255) : Rd (w.alloc (.cells #[.int .u8 z] 5)) (some ⟨w.heap.size, 0, none⟩) 1 1 [z] := by
  have := rd_new w [z] (by simp) (fun i => by cases i <;> simp <;> omega)
  simpa [byteVals] using this
/-- The decimal digits of k ahead of acc. -/
def mtG : Nat → Nat → ByteArray → ByteArray
  | 0, _, acc => acc
  | f + 1, k, acc => if k = 0 then acc else mtG f (k / 10) (strOf [48 + ((k % 10 : Nat) : Int)] ++ acc)
theorem mtG_end (f : Nat) (acc : ByteArray) : mtG f 0 acc = acc := by cases f <;> simp [mtG]
theorem mtG_step (f k : Nat) (acc : ByteArray) (h : 0 < k) : mtG (f + 1) k acc = mtG f (k / 10) (strOf [48 + ((k % 10 : Nat) : Int)] ++ acc) := by
  simp [mtG]; omega
/-- The text for k. -/
def mt (k : Nat) : ByteArray := ⟨#[109]⟩ ++ mtG k k ⟨#[]⟩
set_option maxHeartbeats 4000000 in
theorem markText_any (k : Nat) (w : World) (h0 : 0 < k) (h1 : k ≤ 1152921504606846976) : Calls Try.prog 53 #[.int .i64 k] w fun e w' => e = .returned (.string (mt k)) ∧ Below w.heap.size w w' := by
  have h0' : ¬ (k : Int) ≤ 0 := by omega
  go_enter Try.func53, Try.ntmps53
  go_wp2_with fail
  go_loopw [0, 3] (fun x s wr => ∃ (j f : Nat) (acc : ByteArray), x = .int .i64 j ∧ s = .string acc ∧ j ≤ f ∧ Hid (mtG f j acc = mtG k k ⟨#[]⟩) ∧ j + acc.size ≤ k ∧ Hid (Below w.heap.size w wr)) (fun x _ _ => (intOf x).toNat)
  case atStart => exact ⟨k, k, ⟨#[]⟩, rfl, rfl, Nat.le_refl _, rfl, Nat.le_refl _, Below.refl _ _⟩
  case round =>
    obtain ⟨j, f, acc, rfl, rfl, hjf, HM, hsz, HB⟩ := hrel
    rcases Nat.eq_zero_or_pos j with rfl | hj
    · rw [mtG_end] at HM
      have hcat : (⟨#[109]⟩ : ByteArray).size = 1 := rfl
      have HE : Hid (⟨#[109]⟩ ++ acc = mt k) := by show ⟨#[109]⟩ ++ acc = mt k; rw [HM.out]; rfl
      go_wp2
      go_ret
      exact ⟨by rw [HE.out]; rfl, HB.out⟩
    · obtain ⟨f, rfl⟩ : ∃ g, f = g + 1 := ⟨f - 1, by omega⟩
      rw [mtG_step f j acc hj] at HM
      have hj' : (0 : Int) < (j : Int) := by omega
      obtain ⟨z, hz⟩ : ∃ z : Nat, z = j % 10 := ⟨_, rfl⟩
      obtain ⟨q, hq⟩ : ∃ q : Nat, q = j / 10 := ⟨_, rfl⟩
      rw [← hz, ← hq] at HM
      have hz1 : z < 10 := by omega
      have hmod : (j : Int).tmod 10 = (z : Int) := by rw [Int.tmod_eq_emod_of_nonneg (by omega)]; omega
      have hdiv : (j : Int).tdiv 10 = (q : Int) := by rw [Int.tdiv_eq_ediv_of_nonneg (by omega)]; omega
      have hqj : q < j := by omega
      have hq2 : q + 1 ≤ j := by omega
      clear hz hq
      have hst := run_str (rd_lit wr (48 + (z : Int)) (by omega) (by omega))
      have hts := strOf_size [48 + (z : Int)]
      simp only [List.length_cons, List.length_nil] at hts
      generalize strOf [48 + (z : Int)] = t at *
      go_wp2
      go_roundw
      case rel => exact ⟨q, f, t ++ acc, by go_num, rfl, by omega, HM, by rw [ByteArray.size_append]; omega, HB.out.alloc HB.out.size _⟩
      case measure => simp [intOf]; omega
theorem markText_at (k : Nat) (z : Int) (hz : z = k) (w : World) (h0 : 0 < k) (h1 : k ≤ 1152921504606846976) : Calls Try.prog 53 #[.int .i64 z] w fun e w' => e = .returned (.string (mt k)) ∧ Below w.heap.size w w' := by
  subst hz
  exact markText_any k w h0 h1
end Go.Proofs.Ytjbamfgfgbmieaa
/-
  Writing marks into slices: texts into cells of texts, numbers into cells of numbers; nothing else turns.
-/
namespace Go.Proofs.Ytjbamfgfgbmieaa
open Go.RowKit
set_option linter.unusedVariables false
def isStr (u : Value) : Prop := ∃ s, u = .string s
def isInt (u : Value) : Prop := ∃ i, u = .int .i64 i
/-- The cell is the same, or both are texts, or both are numbers. -/
def simV (x y : Value) : Prop := x = y ∨ (isStr x ∧ isStr y) ∨ (isInt x ∧ isInt y)
theorem simV.trans {x y z : Value} (h : simV x y) (k : simV y z) : simV x z := by
  rcases h with rfl | ⟨h1, h2⟩ | ⟨h1, h2⟩
  · exact k
  · rcases k with rfl | ⟨k1, k2⟩ | ⟨k1, k2⟩
    · exact .inr (.inl ⟨h1, h2⟩)
    · exact .inr (.inl ⟨h1, k2⟩)
    · obtain ⟨s, rfl⟩ := h2; obtain ⟨i, hi⟩ := k1; cases hi
  · rcases k with rfl | ⟨k1, k2⟩ | ⟨k1, k2⟩
    · exact .inr (.inr ⟨h1, h2⟩)
    · obtain ⟨s, rfl⟩ := h2; obtain ⟨i, hi⟩ := k1; cases hi
    · exact .inr (.inr ⟨h1, k2⟩)
def Kind (K : Value → Prop) : Prop := ∀ x y, K x → simV x y → K y
theorem kind_str : Kind isStr := by
  rintro x y hx (rfl | ⟨_, h⟩ | ⟨h, _⟩)
  · exact hx
  · exact h
  · obtain ⟨s, rfl⟩ := hx; obtain ⟨i, hi⟩ := h; cases hi
theorem kind_int : Kind isInt := by
  rintro x y hx (rfl | ⟨h, _⟩ | ⟨_, h⟩)
  · exact hx
  · obtain ⟨s, rfl⟩ := hx; obtain ⟨i, hi⟩ := h; cases hi
  · exact h
theorem kind_slice (v : Value) (hv : ∃ a n c, v = .slice a n c) : Kind (fun u => u = v) := by
  obtain ⟨a, n, c, rfl⟩ := hv
  rintro x y rfl (rfl | ⟨h, _⟩ | ⟨h, _⟩)
  · rfl
  · obtain ⟨s, hs⟩ := h; cases hs
  · obtain ⟨s, hs⟩ := h; cases hs
/-- From w to w' only rows of S have turned, and of these each cell keeps its kind. -/
structure Mk (S : Nat → Prop) (w w' : World) : Prop where
  only : Only S w w'
  sim : ∀ b T xs, Bk w b T xs → S b → ∃ ys, Bk w' b T ys ∧ ∀ (j : Nat) u, xs[j]? = some u → ∃ u', ys[j]? = some u' ∧ simV u u'
theorem Mk.refl (S : Nat → Prop) (w : World) : Mk S w w := ⟨Only.refl _ _, fun b T xs h _ => ⟨xs, h, fun j u hu => ⟨u, hu, .inl rfl⟩⟩⟩
theorem Mk.trans {S : Nat → Prop} {a b c : World} (h : Mk S a b) (k : Mk S b c) : Mk S a c := by
  refine ⟨h.only.trans k.only, fun g T xs hb hS => ?_⟩
  obtain ⟨ys, h1, h2⟩ := h.sim g T xs hb hS
  obtain ⟨zs, h3, h4⟩ := k.sim g T ys h1 hS
  refine ⟨zs, h3, fun j u hu => ?_⟩
  obtain ⟨u', h5, h6⟩ := h2 j u hu
  obtain ⟨u'', h7, h8⟩ := h4 j u' h5
  exact ⟨u'', h7, h6.trans h8⟩
theorem mk_below {S : Nat → Prop} {w w' : World} (h : Below w.heap.size w w') : Mk S w w' := ⟨only_of_below h S, fun b T xs hb _ => ⟨xs, hb.below h, fun j u hu => ⟨u, hu, .inl rfl⟩⟩⟩
theorem mk_set {S : Nat → Prop} {w : World} {b o : Nat} {T : TypeId} {xs : List Value} {x y : Value} (hb : Bk w b T xs) (hS : S b) (hx : xs[o]? = some x) (hs : simV x y) : Mk S w (w.setCell ⟨b, o, none⟩ y) := by
  refine ⟨only_set hS y, fun g T' zs hg _ => ?_⟩
  by_cases e : g = b
  · subst e
    refine ⟨_, hg.set o y, fun j u hu => ?_⟩
    have hz : some (Obj.cells xs.toArray T (0, 0)) = some (Obj.cells zs.toArray T' (0, 0)) := hb.symm.trans hg
    simp at hz
    obtain ⟨rfl, rfl⟩ := hz
    by_cases ej : j = o
    · subst ej
      rw [hx] at hu
      cases hu
      exact ⟨y, by simp [(List.getElem?_eq_some_iff.1 hx).1], hs⟩
    · exact ⟨u, by rw [List.getElem?_set_ne (Ne.symm ej)]; exact hu, .inl rfl⟩
  · exact ⟨zs, hg.setOther e _ _, fun j u hu => ⟨u, hu, .inl rfl⟩⟩
theorem Uf.bk {w : World} {b : Nat} (h : Uf w b) : ∃ T xs, Bk w b T xs := by
  obtain ⟨xs, T, h⟩ := h
  exact ⟨T, xs.toList, by show _ = _; simpa using h⟩
theorem Mk.uf {S : Nat → Prop} {w w' : World} (m : Mk S w w') {b : Nat} (h : Uf w b) : Uf w' b := by
  obtain ⟨T, xs, hb⟩ := h.bk
  by_cases hS : S b
  · obtain ⟨ys, h1, _⟩ := m.sim b T xs hb hS
    exact h1.uf
  · exact (hb.to m.only hS).uf
theorem bk_cell {w : World} {b o : Nat} {T : TypeId} {xs : List Value} {u : Value} (h : Bk w b T xs) (hc : w.cell? ⟨b, o, none⟩ = some u) : xs[o]? = some u := by
  have h' : w.heap[b]? = some (.cells xs.toArray T (0, 0)) := h
  simpa [World.cell?, h'] using hc
theorem Mk.cell {S : Nat → Prop} {w w' : World} (m : Mk S w w') {b o : Nat} {u : Value} (hu : Uf w b) (hc : w.cell? ⟨b, o, none⟩ = some u) : ∃ u', w'.cell? ⟨b, o, none⟩ = some u' ∧ simV u u' := by
  obtain ⟨T, xs, hb⟩ := hu.bk
  have hx := bk_cell hb hc
  by_cases hS : S b
  · obtain ⟨ys, h1, h2⟩ := m.sim b T xs hb hS
    obtain ⟨u', h3, h4⟩ := h2 o u hx
    exact ⟨u', h1.cell h3, h4⟩
  · exact ⟨u, (hb.to m.only hS).cell hx, .inl rfl⟩
/-- The slice value v leads to n elements of m cells of the kind K, in a row of S that may be written. -/
def Kw (w : World) (S : Nat → Prop) (v : Value) (n m : Nat) (K : Value → Prop) : Prop :=
  ∃ a c, v = .slice a n c ∧ n ≤ c ∧ c ≤ 9223372036854775807 ∧ (0 < n → ∃ b off, a = some ⟨b, off, none⟩ ∧ S b ∧ Uf w b ∧ ∀ j, j < m → ∃ u, w.cell? ⟨b, off + j, none⟩ = some u ∧ K u)
theorem Kw.mk {S S' : Nat → Prop} {w w' : World} {v : Value} {n m : Nat} {K : Value → Prop} (h : Kw w S v n m K) (hm : Mk S' w w') (hK : Kind K) : Kw w' S v n m K := by
  obtain ⟨a, c, h1, h2, h3, h4⟩ := h
  refine ⟨a, c, h1, h2, h3, fun hn => ?_⟩
  obtain ⟨b, off, h5, h6, h7, h8⟩ := h4 hn
  refine ⟨b, off, h5, h6, hm.uf h7, fun j hj => ?_⟩
  obtain ⟨u, h9, h10⟩ := h8 j hj
  obtain ⟨u', h11, h12⟩ := hm.cell h7 h9
  exact ⟨u', h11, hK _ _ h10 h12⟩
theorem kw_of {w : World} {S S' : Nat → Prop} {v : Value} {n : Nat} {xs : List Value} {K : Value → Prop} (h : Rw w S v n xs) (hx : ∀ u ∈ xs, K u) (hS : ∀ b, S b → b < w.heap.size → S' b ∧ Uf w b) : Kw w S' v n xs.length K := by
  obtain ⟨a, c, h1, h2, h3, h4, hn, h5⟩ := h
  refine ⟨a, c, h1, h2, h3, fun hp => ?_⟩
  obtain ⟨b, off, h6, h7, h8, h9⟩ := h5 hp
  refine ⟨b, off, h6, (hS b h8 h7).1, (hS b h8 h7).2, fun j hj => ?_⟩
  exact ⟨xs[j], h9 j _ (by simp [hj]), hx _ (by simp)⟩
/-- Of the m cells from off on the first i are V's. -/
def Mi (w : World) (b off m i : Nat) (V : Nat → Value) (K : Value → Prop) : Prop := ∃ T xs, Bk w b T xs ∧ (∀ j, j < m → ∃ u, xs[off + j]? = some u ∧ K u) ∧ ∀ j, j < i → xs[off + j]? = some (V j)
theorem Mi.start {w : World} {b off m : Nat} {V : Nat → Value} {K : Value → Prop} (hu : Uf w b) (h : ∀ j, j < m → ∃ u, w.cell? ⟨b, off + j, none⟩ = some u ∧ K u) : Mi w b off m 0 V K := by
  obtain ⟨T, xs, hb⟩ := hu.bk
  refine ⟨T, xs, hb, fun j hj => ?_, fun j hj => absurd hj (Nat.not_lt_zero _)⟩
  obtain ⟨u, h1, h2⟩ := h j hj
  exact ⟨u, bk_cell hb h1, h2⟩
theorem Mi.below {w w' : World} {b off m i : Nat} {V : Nat → Value} {K : Value → Prop} (h : Mi w b off m i V K) (hb : Below w.heap.size w w') : Mi w' b off m i V K := by
  obtain ⟨T, xs, h1, h2, h3⟩ := h
  exact ⟨T, xs, h1.below hb, h2, h3⟩
theorem Mi.cell {w : World} {b off m i : Nat} {V : Nat → Value} {K : Value → Prop} (h : Mi w b off m i V K) {j : Nat} (hj : j < m) : (∃ u, w.cell? ⟨b, off + j, none⟩ = some u ∧ K u) ∧ w.frozen? ⟨b, off + j, none⟩ = false := by
  obtain ⟨T, xs, h1, h2, h3⟩ := h
  obtain ⟨u, h4, h5⟩ := h2 j hj
  exact ⟨⟨u, h1.cell h4, h5⟩, h1.free _⟩
theorem Mi.set {w : World} {b off m i : Nat} {V : Nat → Value} {K : Value → Prop} (h : Mi w b off m i V K) {o : Nat} (ho : o = off + i) (hi : i < m) (hK : K (V i)) : Mi (w.setCell ⟨b, o, none⟩ (V i)) b off m (i + 1) V K := by
  subst ho
  obtain ⟨T, xs, h1, h2, h3⟩ := h
  refine ⟨T, _, h1.set _ _, fun j hj => ?_, fun j hj => ?_⟩
  · obtain ⟨u, h4, h5⟩ := h2 j hj
    by_cases e : j = i
    · subst e
      exact ⟨V j, by simp [(List.getElem?_eq_some_iff.1 h4).1], hK⟩
    · exact ⟨u, by rw [List.getElem?_set_ne (by omega)]; exact h4, h5⟩
  · by_cases e : j = i
    · subst e
      obtain ⟨u, h4, _⟩ := h2 j hi
      simp [(List.getElem?_eq_some_iff.1 h4).1]
    · rw [List.getElem?_set_ne (by omega)]
      exact h3 j (by omega)
end Go.Proofs.Ytjbamfgfgbmieaa
/-
  The law's helpers that write marks into slices: of pairs, of texts, of numbers.
-/
namespace Go.Proofs.Ytjbamfgfgbmieaa
open Go.RowKit
def mV (k : Nat) (j : Nat) : Value := .string (mt (k + j))
def mI (k : Nat) (j : Nat) : Value := .int .i64 ((k + j : Nat) : Int)
theorem mi_mk {S : Nat → Prop} {w : World} {b off m i : Nat} {V : Nat → Value} {K : Value → Prop} (h : Mi w b off m i V K) (hS : S b) {o : Nat} (ho : o = off + i) (hi : i < m) (hs : ∀ u, K u → simV u (V i)) : Mk S w (w.setCell ⟨b, o, none⟩ (V i)) := by
  subst ho
  obtain ⟨T, xs, h1, h2, h3⟩ := h
  obtain ⟨u, h4, h5⟩ := h2 i hi
  exact mk_set h1 hS h4 (hs u h5)
theorem sim_mV (k i : Nat) : ∀ u, isStr u → simV u (mV k i) := fun _ hu => .inr (.inl ⟨hu, _, rfl⟩)
theorem sim_mI (k i : Nat) : ∀ u, isInt u → simV u (mI k i) := fun _ hu => .inr (.inr ⟨hu, _, rfl⟩)
/-- What comes of writing marks into the m cells of a slice. -/
def Marked (S : Nat → Prop) (w : World) (a : Option Addr) (n m : Nat) (V : Nat → Value) (K : Value → Prop) (w' : World) : Prop := Mk S w w' ∧ (0 < n → ∃ b off, a = some ⟨b, off, none⟩ ∧ S b ∧ Mi w' b off m m V K)
set_option maxHeartbeats 4000000 in
theorem markPairS_any (S : Nat → Prop) (a : Option Addr) (n c k : Nat) (w : World) (h : Kw w S (.slice a n c) n (n * 2) isStr) (hn : n ≤ 1048576) (hk0 : 0 < k) (hk : k ≤ 576460752303423488) :
    Calls Try.prog 20 #[.slice a n c, .int .i64 k] w fun e w' => e = .returned (.int .i64 ((k + n * 2 : Nat) : Int)) ∧ Marked S w a n (n * 2) (mV k) isStr w' := by
  obtain ⟨a', c', h1, h2, h3, h4⟩ := h
  cases h1
  rcases Nat.eq_zero_or_pos n with hz | hp
  · clear h4
    subst hz
    go_enter Try.func20, Try.ntmps20
    go_wp2_with fail
    go_loop [1, 5] (fun x i => x = .int .i64 k ∧ i = .int .i64 (0 : Nat)) (fun _ _ => 0)
    case atStart => exact ⟨rfl, rfl⟩
    case round =>
      obtain ⟨rfl, rfl⟩ := hrel
      go_wp2
      go_ret
      exact ⟨rfl, Mk.refl _ _, fun h => absurd h (Nat.lt_irrefl _)⟩
  · obtain ⟨b, off, rfl, hS, hu, hc⟩ := h4 hp
    have HI : Hid (Mi w b off (n * 2) 0 (mV k) isStr) := Mi.start hu hc
    have HS := hid hS
    clear h4 hc hu hS
    go_enter Try.func20, Try.ntmps20
    go_wp2_with fail
    go_loopw [1, 5] (fun x i wr => ∃ j : Nat, x = .int .i64 ((k + j * 2 : Nat) : Int) ∧ i = .int .i64 j ∧ j ≤ n ∧ Hid (Mi wr b off (n * 2) (j * 2) (mV k) isStr) ∧ Hid (Mk S w wr)) (fun _ i _ => n - (intOf i).toNat)
    case atStart => exact ⟨0, rfl, rfl, Nat.zero_le _, HI.out, Mk.refl _ _⟩
    case round =>
      obtain ⟨j, rfl, rfl, hj, HX, HG⟩ := hrel
      by_cases hlt : j < n
      · have hlt' : (j : Int) < (n : Int) := by omega
        have hj0 : (0 : Int) ≤ (j : Int) := by omega
        generalize hkz : k + j * 2 = kz
        have hkz0 : 0 < kz := by omega
        have hkz1 : kz ≤ 576460754400575488 := by omega
        have HK := hid hkz
        clear hkz
        go_wp2_with fail
        refine (markText_at kz (kz : Int) rfl wr hkz0 (by omega)).mono ?_
        rintro e w1 ⟨rfl, hb1⟩
        have HX1 := hid (HX.out.below hb1)
        have HG1 := hid (HG.out.trans (mk_below hb1))
        clear hb1 HX HG
        obtain ⟨⟨u0, c0, s0⟩, f0⟩ := HX1.out.cell (j := j * 2) (by omega)
        obtain ⟨u0, rfl⟩ := s0
        have HX2 : Hid (Mi (w1.setCell ⟨b, off + j * 2, none⟩ (.string (mt kz))) b off (n * 2) (j * 2 + 1) (mV k) isStr) := by rw [← HK.out]; exact HX1.out.set rfl (by omega) ⟨_, rfl⟩
        have HG2 : Hid (Mk S w (w1.setCell ⟨b, off + j * 2, none⟩ (.string (mt kz)))) := by rw [← HK.out]; exact HG1.out.trans (mi_mk HX1.out HS.out rfl (by omega) (sim_mV k (j * 2)))
        clear HX1 HG1
        generalize mt kz = m0 at *
        go_wp2_with fail
        refine (markText_at (kz + 1) ((kz : Int) + 1) (by omega) _ (by omega) (by omega)).mono ?_
        generalize w1.setCell ⟨b, off + j * 2, none⟩ (.string m0) = w2 at *
        rintro e w3 ⟨rfl, hb1⟩
        have HX3 := hid (HX2.out.below hb1)
        have HG3 := hid (HG2.out.trans (mk_below hb1))
        clear hb1 HX2 HG2 c0 f0
        obtain ⟨⟨u1, c1, s1⟩, f1⟩ := HX3.out.cell (j := j * 2 + 1) (by omega)
        obtain ⟨u1, rfl⟩ := s1
        have HX4 : Hid (Mi (w3.setCell ⟨b, off + j * 2 + 1, none⟩ (.string (mt (kz + 1)))) b off (n * 2) (j * 2 + 2) (mV k) isStr) := by
          rw [← HK.out, show k + j * 2 + 1 = k + (j * 2 + 1) by omega]; exact HX3.out.set (by omega) (by omega) ⟨_, rfl⟩
        have HG4 : Hid (Mk S w (w3.setCell ⟨b, off + j * 2 + 1, none⟩ (.string (mt (kz + 1))))) := by
          rw [← HK.out, show k + j * 2 + 1 = k + (j * 2 + 1) by omega]; exact HG3.out.trans (mi_mk HX3.out HS.out (by omega) (by omega) (sim_mV k (j * 2 + 1)))
        clear HX3 HG3
        rw [← Nat.add_assoc] at c1 f1
        generalize mt (kz + 1) = m1 at *
        go_wp2
        go_roundw
        case rel => exact ⟨j + 1, by rw [show k + (j + 1) * 2 = kz + 2 by have := HK.out; omega]; go_num, by go_num, by omega, by rw [show (j + 1) * 2 = j * 2 + 2 by omega]; exact HX4.out, HG4.out⟩
        case measure => simp [intOf]; omega
      · have hlt' : ¬ (j : Int) < (n : Int) := by omega
        have hjn : j = n := by omega
        subst hjn
        generalize hkz : k + j * 2 = kz
        go_wp2
        go_ret
        exact ⟨rfl, HG.out, fun _ => ⟨b, off, rfl, HS.out, HX.out⟩⟩
end Go.Proofs.Ytjbamfgfgbmieaa
/-
  The law's helper that looks for marks in a slice of pairs: it finds them all.
-/
namespace Go.Proofs.Ytjbamfgfgbmieaa
open Go.RowKit
theorem kc1 {u v : World} {a0 : Addr} {x0 : Value} (h : KC u v [(a0, x0)]) : v.cell? a0 = some x0 ∧ KC u v [(a0, x0)] := ⟨h.at (by simp), h⟩
theorem kc0_1 {u : World} {a0 : Addr} {x0 : Value} (h0 : u.cell? a0 = some x0) : KC u u [(a0, x0)] := ⟨fun p hp => by simp at hp; rcases hp with rfl; assumption, Below.refl _ _⟩
theorem kc1c {u v v' : World} {a0 : Addr} {x0 : Value} (k : Below v.heap.size v v') (h : v.cell? a0 = some x0 ∧ KC u v [(a0, x0)]) : v'.cell? a0 = some x0 ∧ KC u v' [(a0, x0)] := kc1 (KC.call h.2 k)
/-- The marks lie there. -/
def Lies (w : World) (a : Option Addr) (n m : Nat) (V : Nat → Value) : Prop := 0 < n → ∃ b off, a = some ⟨b, off, none⟩ ∧ b < w.heap.size ∧ ∀ j, j < m → w.cell? ⟨b, off + j, none⟩ = some (V j)
theorem Lies.below {w w' : World} {a : Option Addr} {n m : Nat} {V : Nat → Value} (h : Lies w a n m V) (hb : Below w.heap.size w w') : Lies w' a n m V := by
  intro hn
  obtain ⟨b, off, h1, h2, h3⟩ := h hn
  exact ⟨b, off, h1, Nat.lt_of_lt_of_le h2 hb.size, fun j hj => by rw [hb.cell (p := ⟨b, off + j, none⟩) h2]; exact h3 j hj⟩
theorem Marked.lies {S : Nat → Prop} {w w' : World} {a : Option Addr} {n m : Nat} {V : Nat → Value} {K : Value → Prop} (h : Marked S w a n m V K w') : Lies w' a n m V := by
  intro hn
  obtain ⟨b, off, h1, _, T, xs, h2, _, h3⟩ := h.2 hn
  exact ⟨b, off, h1, h2.lt, fun j hj => h2.cell (h3 j hj)⟩
set_option maxHeartbeats 4000000 in
theorem heldPairS_any (a : Option Addr) (n c k : Nat) (w : World) (h : Lies w a n (n * 2) (mV k)) (hc : n ≤ c) (hn : n ≤ 1048576) (hk0 : 0 < k) (hk : k ≤ 576460752303423488) :
    Calls Try.prog 22 #[.slice a n c, .int .i64 k] w fun e w' => e = .returned (.int .i64 ((k + n * 2 : Nat) : Int)) ∧ Below w.heap.size w w' := by
  have H0 := hid h
  clear h
  go_enter Try.func22, Try.ntmps22
  go_wp2_with fail
  go_loopw [1, 5] (fun x i wr => ∃ j : Nat, x = .int .i64 ((k + j * 2 : Nat) : Int) ∧ i = .int .i64 j ∧ j ≤ n ∧ Hid (Below w.heap.size w wr)) (fun _ i _ => n - (intOf i).toNat)
  case atStart => exact ⟨0, rfl, rfl, Nat.zero_le _, Below.refl _ _⟩
  case round =>
    obtain ⟨j, rfl, rfl, hj, HB⟩ := hrel
    by_cases hlt : j < n
    · have hlt' : (j : Int) < (n : Int) := by omega
      have hj0 : (0 : Int) ≤ (j : Int) := by omega
      obtain ⟨b, off, ha, hbl, hcell⟩ := (H0.out.below HB.out) (by omega)
      subst ha
      have c0 := hcell (j * 2) (by omega)
      have c1 := hcell (j * 2 + 1) (by omega)
      simp only [mV] at c0 c1
      rw [← Nat.add_assoc] at c1
      rw [← Nat.add_assoc] at c1
      have HT1 := hid (fun w => markText_at (k + j * 2) ((k + j * 2 : Nat) : Int) rfl w (by omega) (by omega))
      have HT2 := hid (fun w => markText_at (k + j * 2 + 1) (((k + j * 2 : Nat) : Int) + 1) (by omega) w (by omega) (by omega))
      clear hcell
      generalize mt (k + j * 2) = m1 at *
      generalize mt (k + j * 2 + 1) = m2 at *
      generalize hkz : k + j * 2 = kz at *
      have hkz1 : kz ≤ 576460754400575488 := by omega
      have HK := hid hkz
      have T1 := hid (kc0_1 c0)
      have C1' := hid c1
      clear hkz c1
      go_wp2_with fail
      go_region_held3 (fun v => v.cell? ⟨b, off + j * 2, none⟩ = some (.string m1) ∧ KC wr v [(⟨b, off + j * 2, none⟩, .string m1)])
        (first | assumption | exact kc1 (T1.out.call (below_drew _)) | exact kc1c hbC (by assumption))
        (first | (go_at_call 53; refine (HT1.out _).mono ?_; rintro e w1 ⟨rfl, hbC⟩))
      rename_i hS
      have B1 := hid hS.2.bel
      have d2 : w1.cell? ⟨b, off + j * 2 + 1, none⟩ = some (.string m2) := by rw [B1.out.cell (p := ⟨b, off + j * 2 + 1, none⟩) hbl]; exact C1'.out
      have T2 := hid (kc0_1 d2)
      clear hS c0 T1 HT1 hbC
      go_wp2_with fail
      go_region_held3 (fun v => v.cell? ⟨b, off + j * 2 + 1, none⟩ = some (.string m2) ∧ KC w1 v [(⟨b, off + j * 2 + 1, none⟩, .string m2)])
        (first | assumption | exact kc1 (T2.out.call (below_drew _)) | exact kc1c hbC (by assumption))
        (first | (go_at_call 53; refine (HT2.out _).mono ?_; rintro e w2 ⟨rfl, hbC⟩))
      rename_i hS
      have B2 := hid (Below.then' (Below.then' HB.out B1.out (Nat.le_refl _)) hS.2.bel (Nat.le_refl _))
      clear hS T2 HT2 d2
      go_wp2
      go_roundw
      case rel => exact ⟨j + 1, by rw [show k + (j + 1) * 2 = kz + 2 by have := HK.out; omega]; go_num, by go_num, by omega, B2.out⟩
      case measure => simp [intOf]; omega
    · have hlt' : ¬ (j : Int) < (n : Int) := by omega
      have hjn : j = n := by omega
      subst hjn
      have HK : Hid ((k : Int) + (j : Int) * 2 = ((k + j * 2 : Nat) : Int)) := by show _ = _; omega
      generalize k + j * 2 = kz at *
      go_wp2
      go_ret
      exact ⟨by rw [HK.out]; rfl, HB.out⟩
end Go.Proofs.Ytjbamfgfgbmieaa
/-
  Marks in great rows of pairs; owned rows as the marks see them.
-/
namespace Go.Proofs.Ytjbamfgfgbmieaa
open Go.RowKit
set_option maxHeartbeats 4000000 in
theorem markPairS_big (S : Nat → Prop) (a : Option Addr) (n c k : Nat) (w : World) (h : Kw w S (.slice a n c) n (n * 2) isStr) (hn : n ≤ 2097152) (hk0 : 0 < k) (hk : k ≤ 576460752303423488) :
    Calls Try.prog 20 #[.slice a n c, .int .i64 k] w fun e w' => e = .returned (.int .i64 ((k + n * 2 : Nat) : Int)) ∧ Marked S w a n (n * 2) (mV k) isStr w' := by
  obtain ⟨a', c', h1, h2, h3, h4⟩ := h
  cases h1
  rcases Nat.eq_zero_or_pos n with hz | hp
  · clear h4
    subst hz
    go_enter Try.func20, Try.ntmps20
    go_wp2_with fail
    go_loop [1, 5] (fun x i => x = .int .i64 k ∧ i = .int .i64 (0 : Nat)) (fun _ _ => 0)
    case atStart => exact ⟨rfl, rfl⟩
    case round =>
      obtain ⟨rfl, rfl⟩ := hrel
      go_wp2
      go_ret
      exact ⟨rfl, Mk.refl _ _, fun h => absurd h (Nat.lt_irrefl _)⟩
  · obtain ⟨b, off, rfl, hS, hu, hc⟩ := h4 hp
    have HI : Hid (Mi w b off (n * 2) 0 (mV k) isStr) := Mi.start hu hc
    have HS := hid hS
    clear h4 hc hu hS
    go_enter Try.func20, Try.ntmps20
    go_wp2_with fail
    go_loopw [1, 5] (fun x i wr => ∃ j : Nat, x = .int .i64 ((k + j * 2 : Nat) : Int) ∧ i = .int .i64 j ∧ j ≤ n ∧ Hid (Mi wr b off (n * 2) (j * 2) (mV k) isStr) ∧ Hid (Mk S w wr)) (fun _ i _ => n - (intOf i).toNat)
    case atStart => exact ⟨0, rfl, rfl, Nat.zero_le _, HI.out, Mk.refl _ _⟩
    case round =>
      obtain ⟨j, rfl, rfl, hj, HX, HG⟩ := hrel
      by_cases hlt : j < n
      · have hlt' : (j : Int) < (n : Int) := by omega
        have hj0 : (0 : Int) ≤ (j : Int) := by omega
        generalize hkz : k + j * 2 = kz
        have hkz0 : 0 < kz := by omega
        have hkz1 : kz ≤ 576460754400575488 := by omega
        have HK := hid hkz
        clear hkz
        go_wp2_with fail
        refine (markText_at kz (kz : Int) rfl wr hkz0 (by omega)).mono ?_
        rintro e w1 ⟨rfl, hb1⟩
        have HX1 := hid (HX.out.below hb1)
        have HG1 := hid (HG.out.trans (mk_below hb1))
        clear hb1 HX HG
        obtain ⟨⟨u0, c0, s0⟩, f0⟩ := HX1.out.cell (j := j * 2) (by omega)
        obtain ⟨u0, rfl⟩ := s0
        have HX2 : Hid (Mi (w1.setCell ⟨b, off + j * 2, none⟩ (.string (mt kz))) b off (n * 2) (j * 2 + 1) (mV k) isStr) := by rw [← HK.out]; exact HX1.out.set rfl (by omega) ⟨_, rfl⟩
        have HG2 : Hid (Mk S w (w1.setCell ⟨b, off + j * 2, none⟩ (.string (mt kz)))) := by rw [← HK.out]; exact HG1.out.trans (mi_mk HX1.out HS.out rfl (by omega) (sim_mV k (j * 2)))
        clear HX1 HG1
        generalize mt kz = m0 at *
        go_wp2_with fail
        refine (markText_at (kz + 1) ((kz : Int) + 1) (by omega) _ (by omega) (by omega)).mono ?_
        generalize w1.setCell ⟨b, off + j * 2, none⟩ (.string m0) = w2 at *
        rintro e w3 ⟨rfl, hb1⟩
        have HX3 := hid (HX2.out.below hb1)
        have HG3 := hid (HG2.out.trans (mk_below hb1))
        clear hb1 HX2 HG2 c0 f0
        obtain ⟨⟨u1, c1, s1⟩, f1⟩ := HX3.out.cell (j := j * 2 + 1) (by omega)
        obtain ⟨u1, rfl⟩ := s1
        have HX4 : Hid (Mi (w3.setCell ⟨b, off + j * 2 + 1, none⟩ (.string (mt (kz + 1)))) b off (n * 2) (j * 2 + 2) (mV k) isStr) := by
          rw [← HK.out, show k + j * 2 + 1 = k + (j * 2 + 1) by omega]; exact HX3.out.set (by omega) (by omega) ⟨_, rfl⟩
        have HG4 : Hid (Mk S w (w3.setCell ⟨b, off + j * 2 + 1, none⟩ (.string (mt (kz + 1))))) := by
          rw [← HK.out, show k + j * 2 + 1 = k + (j * 2 + 1) by omega]; exact HG3.out.trans (mi_mk HX3.out HS.out (by omega) (by omega) (sim_mV k (j * 2 + 1)))
        clear HX3 HG3
        rw [← Nat.add_assoc] at c1 f1
        generalize mt (kz + 1) = m1 at *
        go_wp2
        go_roundw
        case rel => exact ⟨j + 1, by rw [show k + (j + 1) * 2 = kz + 2 by have := HK.out; omega]; go_num, by go_num, by omega, by rw [show (j + 1) * 2 = j * 2 + 2 by omega]; exact HX4.out, HG4.out⟩
        case measure => simp [intOf]; omega
      · have hlt' : ¬ (j : Int) < (n : Int) := by omega
        have hjn : j = n := by omega
        subst hjn
        generalize hkz : k + j * 2 = kz
        go_wp2
        go_ret
        exact ⟨rfl, HG.out, fun _ => ⟨b, off, rfl, HS.out, HX.out⟩⟩
set_option maxHeartbeats 4000000 in
theorem heldPairS_big (a : Option Addr) (n c k : Nat) (w : World) (h : Lies w a n (n * 2) (mV k)) (hc : n ≤ c) (hn : n ≤ 2097152) (hk0 : 0 < k) (hk : k ≤ 576460752303423488) :
    Calls Try.prog 22 #[.slice a n c, .int .i64 k] w fun e w' => e = .returned (.int .i64 ((k + n * 2 : Nat) : Int)) ∧ Below w.heap.size w w' := by
  have H0 := hid h
  clear h
  go_enter Try.func22, Try.ntmps22
  go_wp2_with fail
  go_loopw [1, 5] (fun x i wr => ∃ j : Nat, x = .int .i64 ((k + j * 2 : Nat) : Int) ∧ i = .int .i64 j ∧ j ≤ n ∧ Hid (Below w.heap.size w wr)) (fun _ i _ => n - (intOf i).toNat)
  case atStart => exact ⟨0, rfl, rfl, Nat.zero_le _, Below.refl _ _⟩
  case round =>
    obtain ⟨j, rfl, rfl, hj, HB⟩ := hrel
    by_cases hlt : j < n
    · have hlt' : (j : Int) < (n : Int) := by omega
      have hj0 : (0 : Int) ≤ (j : Int) := by omega
      obtain ⟨b, off, ha, hbl, hcell⟩ := (H0.out.below HB.out) (by omega)
      subst ha
      have c0 := hcell (j * 2) (by omega)
      have c1 := hcell (j * 2 + 1) (by omega)
      simp only [mV] at c0 c1
      rw [← Nat.add_assoc] at c1
      rw [← Nat.add_assoc] at c1
      have HT1 := hid (fun w => markText_at (k + j * 2) ((k + j * 2 : Nat) : Int) rfl w (by omega) (by omega))
      have HT2 := hid (fun w => markText_at (k + j * 2 + 1) (((k + j * 2 : Nat) : Int) + 1) (by omega) w (by omega) (by omega))
      clear hcell
      generalize mt (k + j * 2) = m1 at *
      generalize mt (k + j * 2 + 1) = m2 at *
      generalize hkz : k + j * 2 = kz at *
      have hkz1 : kz ≤ 576460754400575488 := by omega
      have HK := hid hkz
      have T1 := hid (kc0_1 c0)
      have C1' := hid c1
      clear hkz c1
      go_wp2_with fail
      go_region_held3 (fun v => v.cell? ⟨b, off + j * 2, none⟩ = some (.string m1) ∧ KC wr v [(⟨b, off + j * 2, none⟩, .string m1)])
        (first | assumption | exact kc1 (T1.out.call (below_drew _)) | exact kc1c hbC (by assumption))
        (first | (go_at_call 53; refine (HT1.out _).mono ?_; rintro e w1 ⟨rfl, hbC⟩))
      rename_i hS
      have B1 := hid hS.2.bel
      have d2 : w1.cell? ⟨b, off + j * 2 + 1, none⟩ = some (.string m2) := by rw [B1.out.cell (p := ⟨b, off + j * 2 + 1, none⟩) hbl]; exact C1'.out
      have T2 := hid (kc0_1 d2)
      clear hS c0 T1 HT1 hbC
      go_wp2_with fail
      go_region_held3 (fun v => v.cell? ⟨b, off + j * 2 + 1, none⟩ = some (.string m2) ∧ KC w1 v [(⟨b, off + j * 2 + 1, none⟩, .string m2)])
        (first | assumption | exact kc1 (T2.out.call (below_drew _)) | exact kc1c hbC (by assumption))
        (first | (go_at_call 53; refine (HT2.out _).mono ?_; rintro e w2 ⟨rfl, hbC⟩))
      rename_i hS
      have B2 := hid (Below.then' (Below.then' HB.out B1.out (Nat.le_refl _)) hS.2.bel (Nat.le_refl _))
      clear hS T2 HT2 d2
      go_wp2
      go_roundw
      case rel => exact ⟨j + 1, by rw [show k + (j + 1) * 2 = kz + 2 by have := HK.out; omega]; go_num, by go_num, by omega, B2.out⟩
      case measure => simp [intOf]; omega
    · have hlt' : ¬ (j : Int) < (n : Int) := by omega
      have hjn : j = n := by omega
      subst hjn
      have HK : Hid ((k : Int) + (j : Int) * 2 = ((k + j * 2 : Nat) : Int)) := by show _ = _; omega
      generalize k + j * 2 = kz at *
      go_wp2
      go_ret
      exact ⟨by rw [HK.out]; rfl, HB.out⟩
theorem pcs_strS (ps : List PB) : ∀ u ∈ pcs ps, isStr u := by
  induction ps with
  | nil => intro u hu; cases hu
  | cons p ps ih =>
    intro u hu
    simp only [pcs, List.mem_cons] at hu
    rcases hu with rfl | rfl | hu
    · exact ⟨_, rfl⟩
    · exact ⟨_, rfl⟩
    · exact ih u hu
theorem lies_to {w w' : World} {R : Nat → Prop} {a : Option Addr} {n m c : Nat} {V : Nat → Value} (h : Lies w a n m V) (ho : Only R w w') (hR : ∀ y, (Value.slice a n c).ownBlock = some y → ¬ R y) : Lies w' a n m V := by
  intro hn
  obtain ⟨b, off, rfl, h4, h5⟩ := h hn
  exact ⟨b, off, rfl, Nat.lt_of_lt_of_le h4 ho.size, fun j hj => (World.cell?_of_block (w := w) (a := ⟨b, off + j, none⟩) (ho.block b h4 (hR b rfl))).trans (h5 j hj)⟩
theorem kw_none {w : World} {S : Nat → Prop} {a : Option Addr} {c : Nat} {m : Nat} {K : Value → Prop} (hc : c ≤ 9223372036854775807) : Kw w S (.slice a 0 c) 0 m K := ⟨a, c, rfl, Nat.zero_le _, hc, fun h => absurd h (Nat.lt_irrefl _)⟩
theorem own_uf' {w : World} {base : Nat} {e : TypeId} {size : Nat} {v : Value} {n : Nat} {xs : List Value} (h : w.ownsRow base e size v n xs) {k : Nat} (hk : v.ownBlock = some k) : Uf w k := by
  rcases h.2 with ⟨rfl, _⟩ | ⟨g, cap, cur, rfl, h3, h4, h5, h6, h7, h8⟩
  · cases hk
  · cases hk
    exact ⟨_, _, h4⟩
theorem ow_kwb {w : World} {base : Nat} {v : Value} {l : List PB} (h : Ow w base v l) : Kw w (fun b => v.ownBlock = some b) v l.length (l.length * 2) isStr := by
  have := kw_of (S' := fun b => v.ownBlock = some b) (K := isStr) (h.pr (S := fun b => v.ownBlock = some b ∧ Uf w b) (fun k hk hb _ => ⟨hk, own_uf' h hk⟩)) (fun u hu => pcs_strS _ u hu) (fun b hb _ => hb)
  rwa [pcs_length] at this
theorem rp_to {w w' : World} {base : Nat} {v : Value} {f : List PB} (h : Rp w base v f) {R : Nat → Prop} (ho : Only R w w') (hR : ∀ b, base ≤ b → ¬ R b) : Rp w' base v f := by
  obtain ⟨a, m, c, rfl, h1, h2, h3, h4, h5⟩ := h
  refine ⟨a, m, c, rfl, h1, h2, h3, h4, fun hp => ?_⟩
  obtain ⟨b, h6, h7, T, xs, h8, h9⟩ := h5 hp
  exact ⟨b, h6, h7, T, xs, h8.to ho (hR b h7), h9⟩
theorem rp_kwb {w : World} {base : Nat} {v : Value} {l : List PB} (h : Rp w base v l) (P : Prop) (hP : P) : Kw w (fun b => base ≤ b ∧ P) v l.length (l.length * 2) isStr := by
  have := kw_of (S' := fun b => base ≤ b ∧ P) (K := isStr) h.pr (fun u hu => pcs_strS _ u hu) (fun b hb _ => ⟨⟨hb.1, hP⟩, hb.2⟩)
  rwa [pcs_length] at this
end Go.Proofs.Ytjbamfgfgbmieaa
/-
  markReplyS: the row's cells and its pairs turn, nothing else.
-/
namespace Go.Proofs.Ytjbamfgfgbmieaa
open Go.RowKit
set_option linter.unusedVariables false
/-- What is left to be marked. -/
structure MR (w wr : World) (g N n j : Nat) (V : List RV) : Prop where
  bk : ∃ ys : List Value, Bk wr g 87 ys ∧ ys.length = n * 13 ∧ ∀ i, j ≤ i → i < n → ys[i * 13 + 12]? = some (rvAt V i).2
  on : Only (fun y => g ≤ y ∧ y < N) w wr
  ob : ∀ i, j ≤ i → i < n → ∃ y, (rvAt V i).2 = .slice (some ⟨y, 0, none⟩) (rvAt V i).1.ps.length (rvAt V i).1.ps.length ∧ g < y ∧ y < N ∧ Bk wr y 34 (pcs (rvAt V i).1.ps)
theorem MR.set {w wr : World} {g N n j : Nat} {V : List RV} (h : MR w wr g N n j V) (hg : g < N) (f : Nat) (hf : f < 12) {o : Nat} (ho : o = j * 13 + f) (x : Value) : MR w (wr.setCell ⟨g, o, none⟩ x) g N n j V := by
  obtain ⟨ys, y1, y2, y3⟩ := h.bk
  refine ⟨⟨ys.set o x, y1.set o x, by rw [List.length_set]; exact y2, fun i h1 h2 => ?_⟩, h.on.trans (only_set ⟨Nat.le_refl _, hg⟩ x), fun i h1 h2 => ?_⟩
  · rw [List.getElem?_set_ne (by omega)]
    exact y3 i h1 h2
  · obtain ⟨y, e1, e2, e3, e4⟩ := h.ob i h1 h2
    exact ⟨y, e1, e2, e3, e4.setOther (by omega) _ _⟩
theorem MR.below {w wr w' : World} {g N n j : Nat} {V : List RV} (h : MR w wr g N n j V) (hb : Below wr.heap.size wr w') : MR w w' g N n j V := by
  obtain ⟨ys, y1, y2, y3⟩ := h.bk
  refine ⟨⟨ys, y1.below hb, y2, y3⟩, h.on.trans (only_of_below hb _), fun i h1 h2 => ?_⟩
  obtain ⟨y, e1, e2, e3, e4⟩ := h.ob i h1 h2
  exact ⟨y, e1, e2, e3, e4.below hb⟩
theorem MR.cell {w wr : World} {g N n j : Nat} {V : List RV} (h : MR w wr g N n j V) (hj : j < n) (f : Nat) (hf : f < 12) {o : Nat} (ho : o = j * 13 + f) : (∃ u, wr.cell? ⟨g, o, none⟩ = some u) ∧ wr.frozen? ⟨g, o, none⟩ = false := by
  obtain ⟨ys, y1, y2, y3⟩ := h.bk
  have hl : o < ys.length := by omega
  exact ⟨⟨ys[o], y1.cell (by simp [hl])⟩, y1.free _⟩
theorem MR.start {w : World} {g N n : Nat} {V : List RV} (hB : Bk w g 87 (rycs V)) (hY : YI w g V) (hn : n = V.length) (hN : ∀ i, i < n → ∀ y, (rvAt V i).2.ownBlock = some y → y < N) : MR w w g N n 0 V := by
  subst hn
  refine ⟨⟨rycs V, hB, rycs_length V, fun i _ hi => rycs_at V i hi 12 _ rfl⟩, Only.refl _ _, fun i _ hi => ?_⟩
  obtain ⟨y, e1, e2, e3⟩ := hY.row i hi
  exact ⟨y, e1, e2, hN i hi y (by rw [e1]; rfl), e3⟩
theorem mt_MR {w u : World} {g N n j : Nat} {V : List RV} (h : MR w u g N n j V) (kz : Nat) (z : Int) (hz : z = kz) (h0 : 0 < kz) (h1 : kz ≤ 1152921504606846976) : Calls Try.prog 53 #[.int .i64 z] u fun e w' => e = .returned (.string (mt kz)) ∧ MR w w' g N n j V := by
  refine (markText_at kz z hz u h0 h1).mono ?_
  rintro e w' ⟨rfl, hb⟩
  exact ⟨rfl, h.below hb⟩
theorem mp_MR {w u : World} {g N n j y m : Nat} {V : List RV} (h : MR w u g N n j V) (hj : j < n) (he : (rvAt V j).2 = .slice (some ⟨y, 0, none⟩) m m) (hm : m ≤ 1048576) (hap : ∀ i, j < i → i < n → (rvAt V i).2.ownBlock ≠ some y) (kz : Nat) (z : Int) (hz : z = kz) (h0 : 0 < kz) (h1 : kz ≤ 576460752303423488) :
    Calls Try.prog 20 #[.slice (some ⟨y, 0, none⟩) m m, .int .i64 z] u fun e w' => e = .returned (.int .i64 ((kz + m * 2 : Nat) : Int)) ∧ MR w w' g N n (j + 1) V := by
  subst hz
  obtain ⟨y', e1, e2, e3, e4⟩ := h.ob j (Nat.le_refl _) hj
  rw [he] at e1
  cases e1
  have h1' := e4.pr rfl (by omega) (fun z => z = y) rfl
  have h2 := kw_of (S' := fun z => z = y) (K := isStr) h1' (fun u hu => pcs_strS _ u hu) (fun b hb _ => ⟨hb, by subst hb; exact ⟨_, _, e4⟩⟩)
  rw [pcs_length] at h2
  refine (markPairS_any _ _ _ _ kz _ h2 hm h0 h1).mono ?_
  rintro e w' ⟨rfl, hm'⟩
  have ho := hm'.1.only
  refine ⟨rfl, ?_, h.on.trans (ho.mono (fun i _ hi => by subst hi; exact ⟨by omega, e3⟩)), fun i k1 k2 => ?_⟩
  · obtain ⟨ys, y1, y2, y3⟩ := h.bk
    exact ⟨ys, y1.to ho (fun e => by omega), y2, fun i k1 k2 => y3 i (by omega) k2⟩
  · obtain ⟨y2, f1, f2, f3, f4⟩ := h.ob i (by omega) k2
    exact ⟨y2, f1, f2, f3, f4.to ho (fun e => hap i (by omega) k2 (by rw [f1, ← e]; rfl))⟩
set_option maxHeartbeats 8000000 in
set_option maxRecDepth 20000 in
theorem markReplyS_any (w : World) (g N n k : Nat) (V : List RV) (hB : Bk w g 87 (rycs V)) (hY : YI w g V) (hn : n = V.length) (hnm : n ≤ 1048576) (hN : ∀ i, i < n → ∀ y, (rvAt V i).2.ownBlock = some y → y < N) (hg : g < N) (hp : ∀ i, i < n → (rvAt V i).1.ps.length ≤ 1048576) (hk0 : 0 < k) (hk : k ≤ 1000000000) :
    Calls Try.prog 21 #[.slice (some ⟨g, 0, none⟩) n n, .int .i64 (k : Int)] w fun e w' => (∃ q : Nat, e = .returned (.int .i64 (q : Int)) ∧ 0 < q ∧ q ≤ 100000000000000) ∧ Only (fun y => g ≤ y ∧ y < N) w w' := by
  have M0 : Hid (MR w w g N n 0 V) := MR.start hB hY hn hN
  have HP := hid hp
  have HG := hid hg
  have HAP : Hid (∀ i j y, i < j → j < n → (rvAt V i).2.ownBlock = some y → (rvAt V j).2.ownBlock ≠ some y) := fun i j y h1 h2 h3 h4 => Nat.lt_irrefl _ (hY.up i j y y h1 (by omega) h3 h4)
  clear hB hY hn hN hg hp
  go_enter Try.func21, Try.ntmps21
  go_wp2_with fail
  go_loopw [1, 5] (fun x i wr => ∃ j q : Nat, x = .int .i64 (q : Int) ∧ i = .int .i64 j ∧ j ≤ n ∧ Hid (0 < q) ∧ Hid (q ≤ k + j * 2097164) ∧ Hid (MR w wr g N n j V)) (fun _ i _ => n - (intOf i).toNat)
  case atStart => exact ⟨0, k, rfl, rfl, Nat.zero_le _, hk0, by show _ ≤ _; omega, M0.out⟩
  case round =>
    clear M0
    obtain ⟨j, q, rfl, rfl, hj, HQ0, HQ, MM⟩ := hrel
    by_cases hlt : j < n
    · skip
      have hlt' : (j : Int) < (n : Int) := by omega
      have hj0 : (0 : Int) ≤ (j : Int) := by omega
      have hq0 : 0 < q := HQ0.out
      have hqs : q ≤ 10000000000000 := by have h1 := HQ.out; omega
      obtain ⟨y, e1, e2, e3, e4⟩ := MM.out.ob j (Nat.le_refl _) hlt
      have HE := hid e1
      have hpl := HP.out j hlt
      have HAJ := hid (fun i (h1 : j < i) (h2 : i < n) => HAP.out j i y h1 h2 (by rw [HE.out]; rfl))
      clear e1 e2 e3 e4 HQ0
      generalize (rvAt V j).1.ps.length = m at *
      obtain ⟨⟨u0, c0⟩, f0⟩ := MM.out.cell hlt 0 (by omega) (o := j * 13) rfl
      obtain ⟨⟨u1, c1⟩, f1⟩ := MM.out.cell hlt 1 (by omega) (o := j * 13 + 1) rfl
      obtain ⟨⟨u2, c2⟩, f2⟩ := MM.out.cell hlt 2 (by omega) (o := j * 13 + 2) rfl
      obtain ⟨⟨u3, c3⟩, f3⟩ := MM.out.cell hlt 3 (by omega) (o := j * 13 + 3) rfl
      obtain ⟨⟨u4, c4⟩, f4⟩ := MM.out.cell hlt 4 (by omega) (o := j * 13 + 4) rfl
      go_wp2_with fail
      refine (mt_MR (MR.set (MR.set (MR.set (MR.set (MR.set MM.out HG.out 0 (by omega) (o := j * 13) rfl _) HG.out 1 (by omega) (o := j * 13 + 1) rfl _) HG.out 2 (by omega) (o := j * 13 + 2) rfl _) HG.out 3 (by omega) (o := j * 13 + 3) rfl _) HG.out 4 (by omega) (o := j * 13 + 4) rfl _) (q + 5) _ (by omega) (by omega) (by omega)).mono ?_
      rintro e w5 ⟨rfl, hm⟩
      have M5 := hid hm
      clear hm MM c0 f0 c1 f1 c2 f2 c3 f3 c4 f4
      obtain ⟨⟨u5, c5⟩, f5⟩ := M5.out.cell hlt 5 (by omega) (o := j * 13 + 5) rfl
      generalize mt (q + 5) = m5 at *
      go_wp2_with fail
      refine (mt_MR (MR.set M5.out HG.out 5 (by omega) (o := j * 13 + 5) rfl _) (q + 6) _ (by omega) (by omega) (by omega)).mono ?_
      rintro e w6 ⟨rfl, hm⟩
      have M6 := hid hm
      clear hm M5 c5 f5
      obtain ⟨⟨u6, c6⟩, f6⟩ := M6.out.cell hlt 6 (by omega) (o := j * 13 + 6) rfl
      generalize mt (q + 6) = m6 at *
      go_wp2_with fail
      refine (mt_MR (MR.set M6.out HG.out 6 (by omega) (o := j * 13 + 6) rfl _) (q + 7) _ (by omega) (by omega) (by omega)).mono ?_
      rintro e w7 ⟨rfl, hm⟩
      have M7 := hid hm
      clear hm M6 c6 f6
      obtain ⟨⟨u7, c7⟩, f7⟩ := M7.out.cell hlt 7 (by omega) (o := j * 13 + 7) rfl
      generalize mt (q + 7) = m7 at *
      go_wp2_with fail
      refine (mt_MR (MR.set M7.out HG.out 7 (by omega) (o := j * 13 + 7) rfl _) (q + 8) _ (by omega) (by omega) (by omega)).mono ?_
      rintro e w8 ⟨rfl, hm⟩
      have M8 := hid hm
      clear hm M7 c7 f7
      obtain ⟨⟨u8, c8⟩, f8⟩ := M8.out.cell hlt 8 (by omega) (o := j * 13 + 8) rfl
      obtain ⟨⟨u9, c9⟩, f9⟩ := M8.out.cell hlt 9 (by omega) (o := j * 13 + 9) rfl
      obtain ⟨⟨u10, c10⟩, f10⟩ := M8.out.cell hlt 10 (by omega) (o := j * 13 + 10) rfl
      obtain ⟨⟨u11, c11⟩, f11⟩ := M8.out.cell hlt 11 (by omega) (o := j * 13 + 11) rfl
      obtain ⟨ys, y1, y2, y3⟩ := M8.out.bk
      have c12 := y1.cell (y3 j (Nat.le_refl _) hlt)
      rw [HE.out] at c12
      clear y1 y2 y3
      generalize mt (q + 8) = m8 at *
      go_wp2_with fail
      refine (mp_MR (MR.set (MR.set (MR.set (MR.set M8.out HG.out 8 (by omega) (o := j * 13 + 8) rfl _) HG.out 9 (by omega) (o := j * 13 + 9) rfl _) HG.out 10 (by omega) (o := j * 13 + 10) rfl _) HG.out 11 (by omega) (o := j * 13 + 11) rfl _) hlt HE.out hpl HAJ.out (q + 12) _ (by omega) (by omega) (by omega)).mono ?_
      rintro e w9 ⟨rfl, hm⟩
      have M9 := hid hm
      clear hm M8 c12 c8 f8 c9 f9 c10 f10 c11 f11
      go_wp2
      go_roundw
      case rel => exact ⟨j + 1, q + 12 + m * 2, rfl, by go_num, by omega, by show 0 < _; omega, by show _ ≤ _; have h1 := HQ.out; omega, M9.out⟩
      case measure => simp [intOf]; omega
    · have hlt' : ¬ (j : Int) < (n : Int) := by omega
      have HF : Hid (q ≤ 100000000000000) := by show _ ≤ _; have h1 := HQ.out; omega
      go_wp2
      go_ret
      exact ⟨⟨q, rfl, HQ0.out, HF.out⟩, MM.out.on⟩
end Go.Proofs.Ytjbamfgfgbmieaa
/-
  toReplyS.
-/
namespace Go.Proofs.Ytjbamfgfgbmieaa
open Go.RowKit
set_option linter.unusedVariables false
set_option maxHeartbeats 1000000 in
set_option maxRecDepth 20000 in
theorem toReplyS_at (S : Nat → Prop) (a : Option Addr) (n c : Nat) (rs : List RY) (w : World) (h : Yr w S (.slice a n c) rs) (hnm : n ≤ 1048576) (hp : ∀ r ∈ rs, r.ps.length ≤ 1048576) :
    Calls Try.prog 15 #[.slice a n c] w fun e w' => e = .returned (.slice (some ⟨w.heap.size, 0, none⟩) n n) ∧ (∃ V : List RV, V.map (·.1) = rs ∧ Bk w' w.heap.size 87 (rycs V) ∧ YI w' w.heap.size V) ∧ Below w.heap.size w w' := by
  have HN := hid h.len.1
  have H0 := hid h
  have HPP := hid hp
  clear h hp
  have hmk := run_make_n (P := Try.prog) 46 87 (.agg #[.int .i64 0, .int .i64 0, .int .i64 0, .int .i64 0, .int .i64 0, .string ⟨#[]⟩, .string ⟨#[]⟩, .string ⟨#[]⟩, .string ⟨#[]⟩, .int .i64 0, .bool false, .int .i64 0, .slice none 0 0]) 13 152 Try.underlying46 infoReplyI n (by omega) (by omega)
  rw [ry_made] at hmk
  go_enter Try.func15, Try.ntmps15
  go_wp2
  go_loopw [4] (fun i wr => ∃ (k : Nat) (V : List RV), k ≤ n ∧ i = .int .i64 k ∧ Hid (V.length = k) ∧ Hid (V.map (·.1) = rs.take k) ∧ Hid (Bk wr w.heap.size 87 (rycs (ryPt V n))) ∧ Hid (YI wr w.heap.size V) ∧ Hid (Below w.heap.size w wr)) (fun i _ => n - (intOf i).toNat)
  case atStart => exact ⟨0, [], Nat.zero_le _, rfl, rfl, (show List.map (·.1) ([] : List RV) = List.take 0 rs by simp), Bk.new _ _ _, ⟨fun i hi => absurd hi (Nat.not_lt_zero _), fun i j y z _ hj => absurd hj (Nat.not_lt_zero _)⟩, (Below.refl _ _).alloc (Nat.le_refl _) _⟩
  case round =>
    obtain ⟨k, V, hk, rfl, HVK, HVM, HB, HY, HW⟩ := hrel
    by_cases hlt : k < n
    · have hlt' : (k : Int) < (n : Int) := by omega
      have hk0 : (0 : Int) ≤ (k : Int) := by omega
      have HP := hid (H0.out.below HW.out)
      obtain ⟨b, off, rfl, _, hbw, hcell⟩ := HP.out.at (by omega)
      obtain ⟨pa, pn, pc, hr, hpp⟩ := hcell k hlt
      have hkr : k < rs.length := by rw [← HN.out]; exact hlt
      have HM : Hid ((ryAt rs k).ps.length ≤ 1048576) := HPP.out _ (by simp [ryAt, hkr])
      have HTK : Hid (rs.take (k + 1) = rs.take k ++ [ryAt rs k]) := by show _ = _; rw [List.take_succ_eq_append_getElem hkr]; simp [ryAt, hkr]
      have HWL : Hid (w.heap.size < wr.heap.size) := HB.out.lt
      generalize ryAt rs k = ry at *
      have HR := hid hr
      have HPN := hid (Rw.len hpp).1
      have hpn : pn ≤ 1048576 := by rw [HPN.out]; exact HM.out
      have HPS := hid hpp
      clear hcell hbw hr hpp HP
      go_wp2_with (refine wpList_load_mid rfl 85 _ rfl b (off + k * 13) rfl (ry.cs (.slice pa pn pc)) _ HR.out Try.underlying85 rfl (by kernel_rfl) ?_; show wpList _ _ _ _ (Act.put _ _ (.agg #[.int .i64 ry.k, .int .i64 ry.c, .int .i64 ry.e, .int .i64 ry.n, .int .i64 ry.ak, .string ry.ky, .string ry.vl, .string ry.lo, .string ry.hi, .int .i64 ry.mo, .bool ry.bk, .int .i64 ry.co, .slice pa pn pc])) _)
      refine (toReply_any S ry.ps ry.k ry.c ry.e ry.n ry.ak ry.ky ry.vl ry.lo ry.hi ry.mo ry.bk ry.co pa pn pc wr HPS.out hpn).mono ?_
      rintro e w1 ⟨y, rfl, ⟨hy1, hy2⟩, hb⟩
      have HB1 := hid (HB.out.below hb)
      have HY1 := hid (HY.out.push hb hy1 (Nat.lt_of_lt_of_le HWL.out hy1) hy2)
      have HW1 := hid (HW.out.trans (hb.mono HW.out.size))
      obtain ⟨e1, e2⟩ := ryPt_push V n (by rw [HVK.out]; exact hlt) (ry, .slice (some ⟨y, 0, none⟩) ry.ps.length ry.ps.length)
      have HL : Hid ((rycs V).length = k * 13) := by show _ = _; rw [rycs_length, HVK.out]
      have HTH : Hid (w1.there w.heap.size (k * 13) 13) := fun j hj => by
        refine ⟨?_, HB1.out.free _⟩
        have hjl : k * 13 + j < (rycs (ryPt V n)).length := by rw [e1]; simp [HL.out, RY.cs]; omega
        obtain ⟨u, hu⟩ : ∃ u, (rycs (ryPt V n))[k * 13 + j]? = some u := ⟨_, List.getElem?_eq_getElem hjl⟩
        rw [HB1.out.cell hu]; rfl
      have HB2 : Hid (Bk (w1.setCells w.heap.size (k * 13) (ry.cs (.slice (some ⟨y, 0, none⟩) ry.ps.length ry.ps.length))) w.heap.size 87 (rycs (ryPt (V ++ [(ry, .slice (some ⟨y, 0, none⟩) ry.ps.length ry.ps.length)]) n))) := by
        show Bk _ _ _ _
        rw [e2]
        have h3 := HB1.out
        rw [e1] at h3
        have := bk_mid _ (ry.cs (.slice (some ⟨y, 0, none⟩) ry.ps.length ry.ps.length)) _ _ _ h3 rfl
        rwa [HL.out] at this
      have HO2 : Hid (Only (fun z => z = w.heap.size) w1 (w1.setCells w.heap.size (k * 13) (ry.cs (.slice (some ⟨y, 0, none⟩) ry.ps.length ry.ps.length)))) := only_mid (R := fun z => z = w.heap.size) rfl _ _ _
      have HY2 := hid (HY1.out.to HO2.out (fun z hz e => by omega))
      have HW2 : Hid (Below w.heap.size w (w1.setCells w.heap.size (k * 13) (ry.cs (.slice (some ⟨y, 0, none⟩) ry.ps.length ry.ps.length)))) := HW1.out.trans (HO2.out.below HW1.out.size (fun z h1 h2 => by omega))
      have HVM2 : Hid ((V ++ [(ry, Value.slice (some ⟨y, 0, none⟩) ry.ps.length ry.ps.length)]).map (·.1) = rs.take (k + 1)) := by show _ = _; rw [HTK.out, List.map_append, HVM.out]; rfl
      have HVK2 : Hid ((V ++ [(ry, Value.slice (some ⟨y, 0, none⟩) ry.ps.length ry.ps.length)]).length = k + 1) := by show _ = _; rw [List.length_append, HVK.out]; rfl
      have HPE : Hid (ry.ps.length = pn) := HPN.out.symm
      clear hy1 hy2 hb HB1 HY1 HW1 HB HY HW e1 e2 HL HO2 HPS HVM HVK HTK HPN
      go_wp2_with (refine wpList_store_mid rfl 87 _ _ rfl w.heap.size (k * 13) #[.int .i64 ry.k, .int .i64 ry.c, .int .i64 ry.e, .int .i64 ry.n, .int .i64 ry.ak, .string ry.ky, .string ry.vl, .string ry.lo, .string ry.hi, .int .i64 ry.mo, .bool ry.bk, .int .i64 ry.co, .slice (some ⟨y, 0, none⟩) pn pn] ?hx ?hy ?ht ?hi ?h1 ?_)
      case hx => rfl
      case hy => rfl
      case ht => exact HTH.out
      case hi => kernel_rfl
      case h1 => kernel_rfl
      rw [HPE.out] at HB2 HY2 HW2 HVM2 HVK2
      exact ⟨⟨k + 1, _, by omega, by go_num, HVK2.out, HVM2.out, HB2.out, HY2.out, HW2.out⟩, by simp [intOf]; omega⟩
    · have hk' : n = k := by omega
      have HVM3 : Hid (V.map (·.1) = rs) := by show _ = _; rw [HVM.out, List.take_of_length_le (by rw [← HN.out]; omega)]
      have HB3 : Hid (Bk wr w.heap.size 87 (rycs V)) := by have := HB.out; rw [ryPt_full V n (by rw [HVK.out]; exact hk')] at this; exact this
      have hlt' : ¬ (k : Int) < (n : Int) := by omega
      clear hk' hlt HB HVM hmk
      go_wp2
      go_ret
      exact ⟨rfl, ⟨V, HVM3.out, HB3.out, HY.out⟩, HW.out⟩
end Go.Proofs.Ytjbamfgfgbmieaa
/-
  Rows of replies: how great the law's helper finds them.
-/
namespace Go.Proofs.Ytjbamfgfgbmieaa
open Go.RowKit
set_option linter.unusedVariables false
def rySz (rs : List RY) : Prop := ∀ r ∈ rs, szOkP r.ps ∧ r.ky.size ≤ 9223372036854775807 ∧ r.vl.size ≤ 9223372036854775807 ∧ r.lo.size ≤ 9223372036854775807 ∧ r.hi.size ≤ 9223372036854775807
set_option maxHeartbeats 4000000 in
set_option maxRecDepth 20000 in
theorem szReplyS_at (S : Nat → Prop) (a : Option Addr) (n c : Nat) (rs : List RY) (left : Int) (w : World) (h : Yr w S (.slice a n c) rs) (hsz : rySz rs) (h0 : 0 ≤ left) (h1 : left ≤ 1048576) :
    Calls Try.prog 12 #[.slice a n c, .int .i64 left] w fun e w' => (∃ x : Int, e = .returned (.int .i64 x) ∧ x ≤ left ∧ -1 ≤ x ∧ (0 ≤ x → n + x ≤ left ∧ ∀ r ∈ rs, r.ps.length ≤ 1048576)) ∧ Below w.heap.size w w' := by
  have hnc := h.len.2.1
  have hcc := h.len.2.2
  have HN := hid h.len.1
  have H0 := hid h
  have HZ := hid hsz
  clear h hsz
  by_cases hbig : left - (n : Int) < 0
  · go_enter Try.func12, Try.ntmps12
    go_wp2
    go_ret
    exact ⟨⟨_, rfl, by omega, by omega, fun h => by omega⟩, Below.refl _ _⟩
  · have hn2 : n ≤ 1048576 := by omega
    go_enter Try.func12, Try.ntmps12
    go_wp2
    go_loopw [1, 5] (fun x i wr => ∃ (k : Nat) (y : Int), k ≤ n ∧ i = .int .i64 k ∧ x = .int .i64 y ∧ 0 ≤ y ∧ y ≤ left - (n : Int) ∧ Hid (Below w.heap.size w wr) ∧ Hid (∀ i, i < k → (ryAt rs i).ps.length ≤ 1048576)) (fun _ i _ => n - (intOf i).toNat)
    case atStart => exact ⟨0, _, Nat.zero_le _, rfl, rfl, by omega, by omega, Below.refl _ _, fun i hi => absurd hi (Nat.not_lt_zero _)⟩
    case round =>
      obtain ⟨k, y, hk, rfl, rfl, hy0, hy1, HB, HS⟩ := hrel
      by_cases hlt : k < n
      · have hlt' : (k : Int) < (n : Int) := by omega
        have hk0 : (0 : Int) ≤ (k : Int) := by omega
        have HP := hid (H0.out.below HB.out)
        obtain ⟨b, off, rfl, _, hbw, hcell⟩ := HP.out.at (by omega)
        obtain ⟨pa, pn, pc, hr, hpp⟩ := hcell k hlt
        have hkr : k < rs.length := by rw [← HN.out]; exact hlt
        have HM := hid (HZ.out (ryAt rs k) (by simp [ryAt, hkr]))
        have HT : Hid ((ryAt rs k).ps.length ≤ 1048576 → ∀ i, i < k + 1 → (ryAt rs i).ps.length ≤ 1048576) := fun h i hi => by
          by_cases e : i = k
          · subst e; exact h
          · exact HS.out i (by omega)
        generalize ryAt rs k = ry at *
        have HR := hid hr
        have HPN := hid (Rw.len hpp).1
        have HPS := hid hpp
        clear hcell hbw hr hpp HP HS
        go_wp2_with (refine wpList_load_mid rfl 85 _ rfl b (off + k * 13) rfl (ry.cs (.slice pa pn pc)) _ HR.out Try.underlying85 rfl (by kernel_rfl) ?_; show wpList _ _ _ _ (Act.put _ _ (.agg #[.int .i64 ry.k, .int .i64 ry.c, .int .i64 ry.e, .int .i64 ry.n, .int .i64 ry.ak, .string ry.ky, .string ry.vl, .string ry.lo, .string ry.hi, .int .i64 ry.mo, .bool ry.bk, .int .i64 ry.co, .slice pa pn pc])) _)
        refine (szReply_any S ry.ps ry.k ry.c ry.e ry.n ry.ak ry.ky ry.vl ry.lo ry.hi ry.mo ry.bk ry.co pa pn pc y wr HPS.out HM.out.1 (by omega) (by omega) HM.out.2).mono ?_
        rintro e w1 ⟨⟨x, rfl, hx1, hx2, hx3⟩, hb1⟩
        have HB1 := hid (HB.out.trans (hb1.mono HB.out.size))
        have HX := hid hx3
        clear hb1 hx3 HPS HR HM
        by_cases hneg : x < 0
        · go_wp2
          go_ret
          exact ⟨⟨_, rfl, by omega, by omega, fun h => by omega⟩, HB1.out⟩
        · have HS1 := hid (HT.out (by rw [← HPN.out]; exact HX.out (by omega)))
          clear HX HT HPN
          go_wp2
          go_roundw
          case rel => exact ⟨k + 1, x, by omega, by go_num, rfl, by omega, by omega, HB1.out, HS1.out⟩
          case measure => simp [intOf]; omega
      · have HA : Hid (∀ r ∈ rs, r.ps.length ≤ 1048576) := fun r hr => by
          obtain ⟨i, hi, e⟩ := List.mem_iff_getElem.1 hr
          have := HS.out i (by have := HN.out; omega)
          have e2 : ryAt rs i = r := by simp [ryAt, hi, e]
          rwa [e2] at this
        clear HS
        go_wp2
        go_ret
        exact ⟨⟨_, rfl, by omega, by omega, fun _ => ⟨by omega, HA.out⟩⟩, HB.out⟩
end Go.Proofs.Ytjbamfgfgbmieaa
/-
  What is known of slices of pairs that come in as arguments.
-/
namespace Go.Proofs.Ytjbamfgfgbmieaa
open Go.ChangeShapes Go.WideShapes Go.ChangeAt Go.RowKit

theorem pair_two : ∃ f0 f1 : Field, Try.prog.underlying 79 = some (.struct #[f0, f1]) ∧ f0.type = 9 ∧ f1.type = 9 ∧ f0.offset = 0 ∧ f1.offset = 1 := ⟨_, _, Try.underlying79, rfl, rfl, rfl, rfl⟩
theorem open_pairs {H : Type} {enc : TypeId × Value → H} {w : World} {base : Nat} {spare : Nat → Bool} {held : Bool} {fuel : Nat} {v : Value} {x : DataW H × List MemPlace}
    (h : DataW.trod enc Try.prog w base spare held fuel 37 [v] = some x) : ∃ l : List PB, Pr w (fun _ => True) v l ∧ szOkP l := by
  obtain ⟨f0, f1, hs, t0, t1, o0, o1⟩ := pair_two
  have k : Try.prog.cellsOf 9 = 1 := by kernel_rfl
  rcases Go.Deep.open_slice_pairs Try.underlying37 hs (by kernel_rfl) o0 o1 (by rw [t0]; exact k) (by rw [t1]; exact k) h with ⟨hcs, _⟩ | ⟨a, len, cap, m, n, V0, V1, D0, D1, P0, P1, hcs, _, hl, hm, hmm, _, hc⟩
  · simp at hcs
    subst hcs
    exact ⟨[], rw_nil _ _, fun i => by simp [pAtB]; decide⟩
  · simp at hcs
    subst hcs
    have hlm : len ≤ m := by rw [hmm]; split <;> omega
    have ex : ∀ i, ∃ p : PB, i < m → w.cell? (a.add (i * 2)) = some (.string p.1) ∧ w.cell? (a.add (i * 2 + 1)) = some (.string p.2) ∧ p.1.size ≤ maxLen ∧ p.2.size ≤ maxLen := by
      intro i
      by_cases hi : i < m
      · obtain ⟨c0, c1, d0, d1⟩ := hc i hi
        rw [t0] at d0
        rw [t1] at d1
        obtain ⟨s0, e0, _, l0⟩ := DataW.trod_string Try.underlying9 d0
        obtain ⟨s1, e1, _, l1⟩ := DataW.trod_string Try.underlying9 d1
        simp at e0 e1
        exact ⟨(s0, s1), fun _ => ⟨by rw [c0, e0], by rw [c1, e1], l0, l1⟩⟩
      · exact ⟨(⟨#[]⟩, ⟨#[]⟩), fun h => absurd h hi⟩
    obtain ⟨f, hf⟩ := Classical.axiomOfChoice ex
    unfold maxLen at hm hf
    refine ⟨(List.range len).map f, ?_, fun i => ?_⟩
    · refine ⟨_, cap, by simp; rfl, by simpa using hl, by omega, fun h0 => ?_, fun h0 => (by cases h0), fun hp => ?_⟩
      · simp at h0; subst h0; rfl
      · simp at hp
        obtain ⟨b, off, spot⟩ := a
        have hc0 := (hf 0 (by omega)).1
        have hspot : spot = none := by simpa [Addr.add] using World.cell?_spot hc0
        subst hspot
        refine ⟨b, off, rfl, by simpa [Addr.add] using block_lt hc0, trivial, fun j u hu => ?_⟩
        have hj : j < len * 2 := by
          have := (List.getElem?_eq_some_iff.1 hu).1
          simpa [pcs_length] using this
        rcases Nat.mod_two_eq_zero_or_one j with e | e
        · have h1 := (pcs_at ((List.range len).map f) (j / 2) (by simp; omega)).1
          rw [show j / 2 * 2 = j by omega, hu] at h1
          have h2 := (hf (j / 2) (by omega)).1
          rw [Addr.add_lit, show j / 2 * 2 = j by omega] at h2
          rw [h2, h1]
          simp [pAtB, show j / 2 < len by omega]
        · have h1 := (pcs_at ((List.range len).map f) (j / 2) (by simp; omega)).2
          rw [show j / 2 * 2 + 1 = j by omega, hu] at h1
          have h2 := (hf (j / 2) (by omega)).2.1
          rw [Addr.add_lit, show j / 2 * 2 + 1 = j by omega] at h2
          rw [h2, h1]
          simp [pAtB, show j / 2 < len by omega]
    · by_cases hi : i < len
      · have := hf i (by omega)
        simp [pAtB, hi]
        omega
      · simp [pAtB, hi]
        decide
set_option maxRecDepth 100000 in
theorem open_pairS {H : Type} {enc : TypeId × Value → H} {w : World} {base : Nat} {spare : Nat → Bool} {held : Bool} {r : Reach} {b0 : Nat} {v : Value} {d : DataW H} {p : List MemPlace}
    (hv : Value.okWide Try.prog w r b0 37 v) (h : DataW.Trod enc Try.prog w base spare held 37 v d p) : ∃ (a : Option Addr) (n c : Nat) (l : List PB), v = .slice a n c ∧ Pr w (fun _ => True) (.slice a n c) l ∧ szOkP l := by
  obtain ⟨a, n, c, rfl⟩ := okWide_slice Try.underlying37 hv
  obtain ⟨fuel, hf⟩ := h
  simp [Value.cells] at hf
  obtain ⟨l, h1, h2⟩ := open_pairs hf
  exact ⟨a, n, c, l, rfl, h1, h2⟩
end Go.Proofs.Ytjbamfgfgbmieaa
/-
  What is known of names of transactions, of locks and of tables of locks that come in as arguments.
-/
namespace Go.Proofs.Ytjbamfgfgbmieaa
open Go.ChangeShapes Go.WideShapes Go.ChangeAt Go.RowKit
theorem arrX3 {α : Type} {cs : Array α} (h : cs.size = 3) : ∃ a b c, cs = #[a, b, c] := by
  obtain ⟨l⟩ := cs
  match l, h with
  | [a, b, c], _ => exact ⟨a, b, c, rfl⟩
theorem arrX6 {α : Type} {cs : Array α} (h : cs.size = 6) : ∃ a b c d e f, cs = #[a, b, c, d, e, f] := by
  obtain ⟨l⟩ := cs
  match l, h with
  | [a, b, c, d, e, f], _ => exact ⟨a, b, c, d, e, f, rfl⟩
theorem arrX2 {α : Type} {cs : Array α} (h : cs.size = 2) : ∃ a b, cs = #[a, b] := by
  obtain ⟨l⟩ := cs
  match l, h with
  | [a, b], _ => exact ⟨a, b, rfl⟩
set_option maxRecDepth 100000 in
theorem tx_three : ∃ f0 f1 f2 : Field, Try.prog.underlying 40 = some (.struct #[f0, f1, f2]) ∧ f0.type = 3 ∧ f1.type = 3 ∧ f2.type = 3 ∧ f0.offset = 0 ∧ f1.offset = 1 ∧ f2.offset = 2 := ⟨_, _, _, Try.underlying40, rfl, rfl, rfl, rfl, rfl, rfl⟩
set_option maxRecDepth 100000 in
theorem open_txc {H : Type} {enc : TypeId × Value → H} {w : World} {base : Nat} {spare : Nat → Bool} {held : Bool} {fuel : Nat} {v0 v1 v2 : Value} {x : DataW H × List MemPlace}
    (h : DataW.trod enc Try.prog w base spare held fuel 40 [v0, v1, v2] = some x) : ∃ t : TX, v0 = .int .i64 t.1 ∧ v1 = .int .i64 t.2.1 ∧ v2 = .int .i64 t.2.2 := by
  obtain ⟨f0, f1, f2, hs, t0, t1, t2, o0, o1, o2⟩ := tx_three
  have k0 : Try.prog.cellsOf 3 = 1 := by kernel_rfl
  obtain ⟨y0, y1, y2, n', _, _, d0, d1, d2⟩ := Go.Deep.trod_struct3 hs h
  rw [t0, o0, k0] at d0
  rw [t1, o1, k0] at d1
  rw [t2, o2, k0] at d2
  simp at d0 d1 d2
  obtain ⟨s0, e0, _⟩ := DataW.trod_int Try.underlying3 d0
  obtain ⟨s1, e1, _⟩ := DataW.trod_int Try.underlying3 d1
  obtain ⟨s2, e2, _⟩ := DataW.trod_int Try.underlying3 d2
  simp at e0 e1 e2
  exact ⟨(s0, s1, s2), e0, e1, e2⟩
set_option maxRecDepth 100000 in
theorem open_tx {H : Type} {enc : TypeId × Value → H} {w : World} {base : Nat} {spare : Nat → Bool} {held : Bool} {r : Reach} {b0 : Nat} {v : Value} {d : DataW H} {p : List MemPlace}
    (hv : Value.okWide Try.prog w r b0 40 v) (h : DataW.Trod enc Try.prog w base spare held 40 v d p) : ∃ c e n : Int, v = .agg #[.int .i64 c, .int .i64 e, .int .i64 n] := by
  obtain ⟨f0, f1, f2, hs, t0, t1, t2, o0, o1, o2⟩ := tx_three
  obtain ⟨cs, rfl, hsz⟩ := okWide_struct hs hv
  obtain ⟨c0, c1, c2, rfl⟩ := arrX3 (hsz.trans (by kernel_rfl))
  obtain ⟨fuel, hf⟩ := h
  simp [Value.cells] at hf
  obtain ⟨t, rfl, rfl, rfl⟩ := open_txc hf
  exact ⟨t.1, t.2.1, t.2.2, rfl⟩
end Go.Proofs.Ytjbamfgfgbmieaa
/-
  What is known of asks and messages that come in as arguments.
-/
namespace Go.Proofs.Ytjbamfgfgbmieaa
open Go.ChangeShapes Go.WideShapes Go.ChangeAt Go.RowKit
set_option linter.unusedVariables false
theorem arrK7 {α : Type} {cs : Array α} (h : cs.size = 7) : ∃ v0 v1 v2 v3 v4 v5 v6, cs = #[v0, v1, v2, v3, v4, v5, v6] := by
  obtain ⟨l⟩ := cs
  match l, h with
  | [v0, v1, v2, v3, v4, v5, v6], _ => exact ⟨v0, v1, v2, v3, v4, v5, v6, rfl⟩
theorem arrK17 {α : Type} {cs : Array α} (h : cs.size = 17) : ∃ v0 v1 v2 v3 v4 v5 v6 v7 v8 v9 v10 v11 v12 v13 v14 v15 v16, cs = #[v0, v1, v2, v3, v4, v5, v6, v7, v8, v9, v10, v11, v12, v13, v14, v15, v16] := by
  obtain ⟨l⟩ := cs
  match l, h with
  | [v0, v1, v2, v3, v4, v5, v6, v7, v8, v9, v10, v11, v12, v13, v14, v15, v16], _ => exact ⟨v0, v1, v2, v3, v4, v5, v6, v7, v8, v9, v10, v11, v12, v13, v14, v15, v16, rfl⟩
set_option maxRecDepth 100000 in
theorem rangeK_two : ∃ f0 f1 : Field, Try.prog.underlying 81 = some (.struct #[f0, f1]) ∧ f0.type = 9 ∧ f1.type = 9 ∧ f0.offset = 0 ∧ f1.offset = 1 := ⟨_, _, Try.underlying81, rfl, rfl, rfl, rfl⟩
set_option maxRecDepth 100000 in
theorem open_rngK {H : Type} {enc : TypeId × Value → H} {w : World} {base : Nat} {spare : Nat → Bool} {held : Bool} {fuel : Nat} {v0 v1 : Value} {x : DataW H × List MemPlace}
    (h : DataW.trod enc Try.prog w base spare held fuel 81 [v0, v1] = some x) : ∃ lo hi : ByteArray, v0 = .string lo ∧ v1 = .string hi ∧ lo.size ≤ maxLen ∧ hi.size ≤ maxLen := by
  obtain ⟨f0, f1, hs, t0, t1, o0, o1⟩ := rangeK_two
  have k0 : Try.prog.cellsOf 9 = 1 := by kernel_rfl
  obtain ⟨y0, y1, n', _, _, d0, d1⟩ := trod_struct2 hs h
  rw [t0, o0, k0] at d0
  rw [t1, o1, k0] at d1
  simp at d0 d1
  obtain ⟨s0, e0, _, l0⟩ := DataW.trod_string Try.underlying9 d0
  obtain ⟨s1, e1, _, l1⟩ := DataW.trod_string Try.underlying9 d1
  simp at e0 e1
  exact ⟨s0, s1, e0, e1, l0, l1⟩
set_option maxRecDepth 100000 in
theorem ask_six : ∃ f0 f1 f2 f3 f4 f5 : Field, Try.prog.underlying 83 = some (.struct #[f0, f1, f2, f3, f4, f5]) ∧ f0.type = 3 ∧ f1.type = 9 ∧ f2.type = 9 ∧ f3.type = 81 ∧ f4.type = 3 ∧ f5.type = 4 ∧ f0.offset = 0 ∧ f1.offset = 1 ∧ f2.offset = 2 ∧ f3.offset = 3 ∧ f4.offset = 5 ∧ f5.offset = 6 := ⟨_, _, _, _, _, _, Try.underlying83, rfl, rfl, rfl, rfl, rfl, rfl, rfl, rfl, rfl, rfl, rfl, rfl⟩
set_option maxRecDepth 100000 in
theorem open_askc {H : Type} {enc : TypeId × Value → H} {w : World} {base : Nat} {spare : Nat → Bool} {held : Bool} {fuel : Nat} {v0 v1 v2 v3 v4 v5 v6 : Value} {x : DataW H × List MemPlace}
    (h : DataW.trod enc Try.prog w base spare held fuel 83 [v0, v1, v2, v3, v4, v5, v6] = some x) : ∃ (k : Int) (ky vl lo hi : ByteArray) (mo : Int) (bk : Bool), v0 = .int .i64 k ∧ v1 = .string ky ∧ v2 = .string vl ∧ v3 = .string lo ∧ v4 = .string hi ∧ v5 = .int .i64 mo ∧ v6 = .bool bk ∧ ky.size ≤ maxLen ∧ vl.size ≤ maxLen ∧ lo.size ≤ maxLen ∧ hi.size ≤ maxLen := by
  obtain ⟨f0, f1, f2, f3, f4, f5, hs, t0, t1, t2, t3, t4, t5, o0, o1, o2, o3, o4, o5⟩ := ask_six
  have kbool : Try.prog.cellsOf 4 = 1 := by kernel_rfl
  have kint : Try.prog.cellsOf 3 = 1 := by kernel_rfl
  have klawsRange : Try.prog.cellsOf 81 = 2 := by kernel_rfl
  have kstring : Try.prog.cellsOf 9 = 1 := by kernel_rfl
  obtain ⟨xs, n', _, rfl, hl, hlen, hf⟩ := DataW.trod_struct hs h
  match xs, hlen with
  | [y0, y1, y2, y3, y4, y5], _ =>
    have d0 := hf 0 f0 rfl
    have d1 := hf 1 f1 rfl
    have d2 := hf 2 f2 rfl
    have d3 := hf 3 f3 rfl
    have d4 := hf 4 f4 rfl
    have d5 := hf 5 f5 rfl
    rw [t0, o0, kint] at d0
    rw [t1, o1, kstring] at d1
    rw [t2, o2, kstring] at d2
    rw [t3, o3, klawsRange] at d3
    rw [t4, o4, kint] at d4
    rw [t5, o5, kbool] at d5
    simp at d0 d1 d2 d3 d4 d5
    obtain ⟨s0, e0, _⟩ := DataW.trod_int Try.underlying3 d0
    obtain ⟨s1, e1, _, l1⟩ := DataW.trod_string Try.underlying9 d1
    obtain ⟨s2, e2, _, l2⟩ := DataW.trod_string Try.underlying9 d2
    obtain ⟨lo, hi, e3, e4, l3, l4⟩ := open_rngK d3
    obtain ⟨s4, e5, _⟩ := DataW.trod_int Try.underlying3 d4
    obtain ⟨s5, e6, _⟩ := DataW.trod_bool Try.underlying4 d5
    simp at e0 e1 e2 e5 e6
    exact ⟨s0, s1, s2, lo, hi, s4, s5, e0, e1, e2, e3, e4, e5, e6, l1, l2, l3, l4⟩
set_option maxRecDepth 100000 in
theorem open_ask {H : Type} {enc : TypeId × Value → H} {w : World} {base : Nat} {spare : Nat → Bool} {held : Bool} {r : Reach} {b0 : Nat} {v : Value} {d : DataW H} {p : List MemPlace}
    (hv : Value.okWide Try.prog w r b0 83 v) (h : DataW.Trod enc Try.prog w base spare held 83 v d p) : ∃ (k : Int) (ky vl lo hi : ByteArray) (mo : Int) (bk : Bool), v = .agg #[.int .i64 k, .string ky, .string vl, .string lo, .string hi, .int .i64 mo, .bool bk] ∧ ky.size ≤ maxLen ∧ vl.size ≤ maxLen ∧ lo.size ≤ maxLen ∧ hi.size ≤ maxLen := by
  obtain ⟨f0, f1, f2, f3, f4, f5, hs, _⟩ := ask_six
  obtain ⟨cs, rfl, hsz⟩ := okWide_struct hs hv
  obtain ⟨v0, v1, v2, v3, v4, v5, v6, rfl⟩ := arrK7 (hsz.trans (by kernel_rfl))
  obtain ⟨fuel, hf⟩ := h
  simp [Value.cells] at hf
  obtain ⟨k, ky, vl, lo, hi, mo, bk, rfl, rfl, rfl, rfl, rfl, rfl, rfl, hl⟩ := open_askc hf
  exact ⟨k, ky, vl, lo, hi, mo, bk, rfl, hl⟩
end Go.Proofs.Ytjbamfgfgbmieaa
/-
  What is known of replies that come in as arguments.
-/
namespace Go.Proofs.Ytjbamfgfgbmieaa
open Go.ChangeShapes Go.WideShapes Go.ChangeAt Go.RowKit
set_option linter.unusedVariables false
theorem reply_five : ∃ f0 f1 f2 f3 f4 : Field, Try.prog.underlying 85 = some (.struct #[f0, f1, f2, f3, f4]) ∧ f0.type = 3 ∧ f1.type = 40 ∧ f2.type = 83 ∧ f3.type = 3 ∧ f4.type = 37 ∧ f0.offset = 0 ∧ f1.offset = 1 ∧ f2.offset = 4 ∧ f3.offset = 11 ∧ f4.offset = 12 := ⟨_, _, _, _, _, Try.underlying85, rfl, rfl, rfl, rfl, rfl, rfl, rfl, rfl, rfl, rfl⟩
theorem txY_three : ∃ f0 f1 f2 : Field, Try.prog.underlying 40 = some (.struct #[f0, f1, f2]) ∧ f0.type = 3 ∧ f1.type = 3 ∧ f2.type = 3 ∧ f0.offset = 0 ∧ f1.offset = 1 ∧ f2.offset = 2 := ⟨_, _, _, Try.underlying40, rfl, rfl, rfl, rfl, rfl, rfl⟩
theorem open_replyc {H : Type} {enc : TypeId × Value → H} {w : World} {base : Nat} {spare : Nat → Bool} {held : Bool} {fuel : Nat} {v0 v1 v2 v3 v4 v5 v6 v7 v8 v9 v10 v11 v12 : Value} {x : DataW H × List MemPlace}
    (h : DataW.trod enc Try.prog w base spare held fuel 85 [v0, v1, v2, v3, v4, v5, v6, v7, v8, v9, v10, v11, v12] = some x) : ∃ r : RY, [v0, v1, v2, v3, v4, v5, v6, v7, v8, v9, v10, v11, v12] = r.cs v12 ∧ Pr w (fun _ => True) v12 r.ps ∧ szOkP r.ps ∧ r.ky.size ≤ maxLen ∧ r.vl.size ≤ maxLen ∧ r.lo.size ≤ maxLen ∧ r.hi.size ≤ maxLen := by
  obtain ⟨f0, f1, f2, f3, f4, hs, t0, t1, t2, t3, t4, o0, o1, o2, o3, o4⟩ := reply_five
  have kSlawsPair : Try.prog.cellsOf 37 = 1 := by kernel_rfl
  have kint : Try.prog.cellsOf 3 = 1 := by kernel_rfl
  have klawsAsk : Try.prog.cellsOf 83 = 7 := by kernel_rfl
  have klawsTx : Try.prog.cellsOf 40 = 3 := by kernel_rfl
  obtain ⟨xs, n', _, rfl, hl, hlen, hf⟩ := DataW.trod_struct hs h
  match xs, hlen with
  | [y0, y1, y2, y3, y4], _ =>
    have d0 := hf 0 f0 rfl
    have d1 := hf 1 f1 rfl
    have d2 := hf 2 f2 rfl
    have d3 := hf 3 f3 rfl
    have d4 := hf 4 f4 rfl
    rw [t0, o0, kint] at d0
    rw [t1, o1, klawsTx] at d1
    rw [t2, o2, klawsAsk] at d2
    rw [t3, o3, kint] at d3
    rw [t4, o4, kSlawsPair] at d4
    simp at d0 d1 d2 d3 d4
    obtain ⟨s0, e0, _⟩ := DataW.trod_int Try.underlying3 d0
    obtain ⟨g0, g1, g2, hs2, u0, u1, u2, i0, i1, i2⟩ := txY_three
    obtain ⟨z0, z1, z2, n2, _, _, j0, j1, j2⟩ := Go.Deep.trod_struct3 hs2 d1
    rw [u0, i0, kint] at j0
    rw [u1, i1, kint] at j1
    rw [u2, i2, kint] at j2
    simp at j0 j1 j2
    obtain ⟨q0, b0, _⟩ := DataW.trod_int Try.underlying3 j0
    obtain ⟨q1, b1, _⟩ := DataW.trod_int Try.underlying3 j1
    obtain ⟨q2, b2, _⟩ := DataW.trod_int Try.underlying3 j2
    obtain ⟨k, ky, vl, lo, hi, mo, bk, a0, a1, a2, a3, a4, a5, a6, hz⟩ := open_askc d2
    obtain ⟨s3, e3, _⟩ := DataW.trod_int Try.underlying3 d3
    obtain ⟨ps, p1, p2⟩ := open_pairs d4
    simp at e0 b0 b1 b2 e3
    subst e0 b0 b1 b2 a0 a1 a2 a3 a4 a5 a6 e3
    exact ⟨⟨s0, q0, q1, q2, k, ky, vl, lo, hi, mo, bk, s3, ps⟩, rfl, p1, p2, hz⟩
theorem rw_mkY {w : World} {a : Addr} {n c : Nat} {xs : List Value} (hl : n ≤ c) (hc : c ≤ 9223372036854775807) (hx : n = 0 → xs = []) (h0 : 0 < n → 0 < xs.length) (h : ∀ j u, xs[j]? = some u → w.cell? (a.add j) = some u) : Rw w (fun _ => True) (.slice (some a) n c) n xs := by
  refine ⟨_, c, rfl, hl, hc, hx, fun h => by (cases h), fun hp => ?_⟩
  obtain ⟨b, off, spot⟩ := a
  obtain ⟨u, hu⟩ : ∃ u, xs[0]? = some u := ⟨xs[0]'(h0 hp), by simp [h0 hp]⟩
  have hc0 := h 0 u hu
  have hspot : spot = none := by simpa [Addr.add] using World.cell?_spot hc0
  subst hspot
  refine ⟨b, off, rfl, by simpa [Addr.add] using block_lt hc0, trivial, fun j v hv => ?_⟩
  have := h j v hv
  rwa [Addr.add_lit] at this
theorem rvAt_map (f : Nat → RV) (len i : Nat) (h : i < len) : rvAt ((List.range len).map f) i = f i := by simp [rvAt, h]
theorem open_replies {H : Type} {enc : TypeId × Value → H} {w : World} {base : Nat} {spare : Nat → Bool} {held : Bool} {fuel : Nat} {v : Value} {x : DataW H × List MemPlace}
    (h : DataW.trod enc Try.prog w base spare held fuel 38 [v] = some x) : ∃ rs : List RY, Yr w (fun _ => True) v rs ∧ rySz rs := by
  have k3 : Try.prog.cellsOf 85 = 13 := by kernel_rfl
  rcases Go.Deep.open_slice Try.underlying38 h with ⟨hcs, _⟩ | ⟨a, len, cap, m, n, D, P, hcs, _, hl, hm, hmm, _, hc⟩
  · simp at hcs
    subst hcs
    exact ⟨[], yr_nil _ _, fun r hr => by cases hr⟩
  · simp at hcs
    subst hcs
    have hlm : len ≤ m := by rw [hmm]; split <;> omega
    unfold maxLen at hm
    simp only [k3] at hc
    have ex : ∀ i, ∃ p : RV, i < m → (∀ j u, (p.1.cs p.2)[j]? = some u → w.cell? ((a.add (i * 13)).add j) = some u) ∧ Pr w (fun _ => True) p.2 p.1.ps ∧ szOkP p.1.ps ∧ p.1.ky.size ≤ maxLen ∧ p.1.vl.size ≤ maxLen ∧ p.1.lo.size ≤ maxLen ∧ p.1.hi.size ≤ maxLen := by
      intro i
      by_cases hi : i < m
      · obtain ⟨cs', hcs, hd⟩ := hc i hi
        obtain ⟨_, hcl, hcell⟩ := World.cells?_some hcs
        obtain ⟨v0, v1, v2, v3, v4, v5, v6, v7, v8, v9, v10, v11, v12, rfl⟩ : ∃ v0 v1 v2 v3 v4 v5 v6 v7 v8 v9 v10 v11 v12, cs' = [v0, v1, v2, v3, v4, v5, v6, v7, v8, v9, v10, v11, v12] := by
          match cs', hcl with
          | [v0, v1, v2, v3, v4, v5, v6, v7, v8, v9, v10, v11, v12], _ => exact ⟨v0, v1, v2, v3, v4, v5, v6, v7, v8, v9, v10, v11, v12, rfl⟩
        obtain ⟨r, e, p1, p2, p3⟩ := open_replyc hd
        refine ⟨(r, v12), fun _ => ⟨fun j u hu => ?_, p1, p2, p3⟩⟩
        simp only at hu
        rw [← e] at hu
        have hj : j < 13 := by simpa using (List.getElem?_eq_some_iff.1 hu).1
        have h1 := hcell j hj
        rw [h1]
        exact hu
      · exact ⟨(default, .slice none 0 0), fun h => absurd h hi⟩
    obtain ⟨f, hf⟩ := Classical.axiomOfChoice ex
    refine ⟨((List.range len).map f).map (·.1), ⟨(List.range len).map f, rfl, ?_, fun p hp => ?_⟩, fun r hr => ?_⟩
    · rw [show ((List.range len).map f).length = len by simp]
      refine rw_mkY hl (by omega) (fun h0 => by simp [h0, rycs]) (fun h0 => by rw [rycs_length]; simp; omega) (fun j u hu => ?_)
      have hj : j < len * 13 := by
        have := (List.getElem?_eq_some_iff.1 hu).1
        simpa [rycs_length] using this
      have hq := rycs_at ((List.range len).map f) (j / 13) (by simp; omega) (j % 13)
      rw [rvAt_map f len (j / 13) (by omega), show j / 13 * 13 + j % 13 = j by omega] at hq
      have hm2 : j % 13 < 13 := Nat.mod_lt _ (by omega)
      obtain ⟨u2, hu2⟩ : ∃ u2, ((f (j / 13)).1.cs (f (j / 13)).2)[j % 13]? = some u2 := ⟨_, List.getElem?_eq_getElem (by simpa [RY.cs] using hm2)⟩
      have h1 := hq u2 hu2
      rw [hu] at h1
      have h2 : u = u2 := Option.some.inj h1
      subst h2
      have h3 := (hf (j / 13) (by omega)).1 (j % 13) u hu2
      obtain ⟨b, off, spot⟩ := a
      have hspot : spot = none := by
        have h4 := (hf 0 (by omega)).1 0 (.int .i64 (f 0).1.k) rfl
        have e0 : ∀ x : Addr, x.add 0 = x := fun _ => rfl
        rw [Nat.zero_mul, e0, e0] at h4
        exact World.cell?_spot h4
      subst hspot
      rw [Addr.add_lit, Addr.add_lit] at h3
      rw [Addr.add_lit, show off + j = off + j / 13 * 13 + j % 13 by omega]
      exact h3
    · obtain ⟨i, hi, rfl⟩ := List.mem_map.1 hp
      exact (hf i (by have := List.mem_range.1 hi; omega)).2.1
    · obtain ⟨p, hp, rfl⟩ := List.mem_map.1 hr
      obtain ⟨i, hi, rfl⟩ := List.mem_map.1 hp
      have := (hf i (by have := List.mem_range.1 hi; omega)).2.2
      unfold maxLen at this
      exact this
set_option maxRecDepth 100000 in
theorem open_replyS {H : Type} {enc : TypeId × Value → H} {w : World} {base : Nat} {spare : Nat → Bool} {held : Bool} {r : Reach} {b0 : Nat} {v : Value} {d : DataW H} {p : List MemPlace}
    (hv : Value.okWide Try.prog w r b0 38 v) (h : DataW.Trod enc Try.prog w base spare held 38 v d p) : ∃ (a : Option Addr) (n c : Nat) (rs : List RY), v = .slice a n c ∧ Yr w (fun _ => True) (.slice a n c) rs ∧ rySz rs := by
  obtain ⟨a, n, c, rfl⟩ := okWide_slice Try.underlying38 hv
  obtain ⟨fuel, hf⟩ := h
  simp [Value.cells] at hf
  obtain ⟨rs, h1, h2⟩ := open_replies hf
  exact ⟨a, n, c, rs, rfl, h1, h2⟩
end Go.Proofs.Ytjbamfgfgbmieaa
/-
  What is known of a row of names that comes in as an argument.
-/
namespace Go.Proofs.Ytjbamfgfgbmieaa
open Go.ChangeShapes Go.WideShapes Go.ChangeAt Go.RowKit
set_option linter.unusedVariables false
theorem tqAt_map (f : Nat → TQ) (len i : Nat) (h : i < len) : tqAt ((List.range len).map f) i = f i := by simp [tqAt, h]
theorem open_txs {H : Type} {enc : TypeId × Value → H} {w : World} {base : Nat} {spare : Nat → Bool} {held : Bool} {fuel : Nat} {v : Value} {x : DataW H × List MemPlace}
    (h : DataW.trod enc Try.prog w base spare held fuel 54 [v] = some x) : ∃ ts : List TQ, tqR w (fun _ => True) v ts := by
  have k3 : Try.prog.cellsOf 40 = 3 := by kernel_rfl
  rcases Go.Deep.open_slice Try.underlying54 h with ⟨hcs, _⟩ | ⟨a, len, cap, m, n, D, P, hcs, _, hl, hm, hmm, _, hc⟩
  · simp at hcs
    subst hcs
    exact ⟨[], tqr_nil _ _⟩
  · simp at hcs
    subst hcs
    have hlm : len ≤ m := by rw [hmm]; split <;> omega
    unfold maxLen at hm
    simp only [k3] at hc
    have ex : ∀ i, ∃ p : TQ, i < m → ∀ j u, ([.int .i64 p.1, .int .i64 p.2.1, .int .i64 p.2.2] : List Value)[j]? = some u → w.cell? ((a.add (i * 3)).add j) = some u := by
      intro i
      by_cases hi : i < m
      · obtain ⟨cs', hcs, hd⟩ := hc i hi
        obtain ⟨_, hcl, hcell⟩ := World.cells?_some hcs
        obtain ⟨v0, v1, v2, rfl⟩ : ∃ v0 v1 v2, cs' = [v0, v1, v2] := by
          match cs', hcl with
          | [v0, v1, v2], _ => exact ⟨v0, v1, v2, rfl⟩
        obtain ⟨t, rfl, rfl, rfl⟩ := open_txc hd
        refine ⟨t, fun _ j u hu => ?_⟩
        have hj : j < 3 := by simpa using (List.getElem?_eq_some_iff.1 hu).1
        have h1 := hcell j hj
        rw [h1]
        exact hu
      · exact ⟨tq0, fun h => absurd h hi⟩
    obtain ⟨f, hf⟩ := Classical.axiomOfChoice ex
    refine ⟨(List.range len).map f, ?_⟩
    unfold tqR
    rw [show ((List.range len).map f).length = len by simp]
    refine rw_mkY hl (by omega) (fun h0 => by simp [h0, tqcs]) (fun h0 => by rw [tqcs_length]; simp; omega) (fun j u hu => ?_)
    have hj : j < len * 3 := by
      have := (List.getElem?_eq_some_iff.1 hu).1
      simpa [tqcs_length] using this
    obtain ⟨q0, q1, q2⟩ := tqcs_at ((List.range len).map f) (j / 3) (by simp; omega)
    rw [tqAt_map f len (j / 3) (by omega)] at q0 q1 q2
    have hm2 : j % 3 = 0 ∨ j % 3 = 1 ∨ j % 3 = 2 := by omega
    have hspot : ∃ b off, a = ⟨b, off, none⟩ := by
      obtain ⟨b, off, spot⟩ := a
      have h4 := hf 0 (by omega) 0 (.int .i64 (f 0).1) rfl
      have e0 : ∀ x : Addr, x.add 0 = x := fun _ => rfl
      rw [Nat.zero_mul, e0, e0] at h4
      have : spot = none := World.cell?_spot h4
      exact ⟨b, off, by rw [this]⟩
    obtain ⟨b, off, rfl⟩ := hspot
    have key : ∀ r v, ([.int .i64 (f (j / 3)).1, .int .i64 (f (j / 3)).2.1, .int .i64 (f (j / 3)).2.2] : List Value)[r]? = some v → (tqcs ((List.range len).map f))[j / 3 * 3 + r]? = some v → j = j / 3 * 3 + r → w.cell? ((⟨b, off, none⟩ : Addr).add j) = some u := by
      intro r v h1 h2 h3
      have h5 := hf (j / 3) (by omega) r v h1
      rw [← h3, hu] at h2
      have h6 : u = v := Option.some.inj h2
      rw [Addr.add_lit, Addr.add_lit] at h5
      rw [Addr.add_lit, h6, show off + j = off + j / 3 * 3 + r by omega]
      exact h5
    rcases hm2 with e | e | e
    · exact key 0 _ rfl q0 (by omega)
    · exact key 1 _ rfl q1 (by omega)
    · exact key 2 _ rfl q2 (by omega)
set_option maxRecDepth 100000 in
theorem open_txS {H : Type} {enc : TypeId × Value → H} {w : World} {base : Nat} {spare : Nat → Bool} {held : Bool} {r : Reach} {b0 : Nat} {v : Value} {d : DataW H} {p : List MemPlace}
    (hv : Value.okWide Try.prog w r b0 54 v) (h : DataW.Trod enc Try.prog w base spare held 54 v d p) : ∃ (a : Option Addr) (n c : Nat) (ts : List TQ), v = .slice a n c ∧ tqR w (fun _ => True) (.slice a n c) ts := by
  obtain ⟨a, n, c, rfl⟩ := okWide_slice Try.underlying54 hv
  obtain ⟨fuel, hf⟩ := h
  simp [Value.cells] at hf
  obtain ⟨ts, h1⟩ := open_txs hf
  exact ⟨a, n, c, ts, rfl, h1⟩
end Go.Proofs.Ytjbamfgfgbmieaa
