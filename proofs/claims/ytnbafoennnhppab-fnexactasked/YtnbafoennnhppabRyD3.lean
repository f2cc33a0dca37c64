/-
  The asks of a transaction in the program's log.
-/
import Derived.Test.YtnbafoennnhppabRyD
import Derived.Test.YtnbafoennnhppabRyC
namespace Go.Proofs.Ytnbafoennnhppab
open Go.RowKit
set_option linter.unusedVariables false
/-- A row of replies of one's own; their pairs lie where they lie. -/
def yW (w : World) (B : Nat) (v : Value) (V : List RV) : Prop := w.ownsRow B 46 13 v V.length (rycs V)
theorem infoReplyI' : (Try.prog.info? 46).map (fun i => (i.zero, i.size, i.bytes)) = some (some (.agg #[.int .i64 0, .int .i64 0, .int .i64 0, .int .i64 0, .int .i64 0, .string ⟨#[]⟩, .string ⟨#[]⟩, .string ⟨#[]⟩, .string ⟨#[]⟩, .int .i64 0, .bool false, .int .i64 0, .slice none 0 0]), 13, 152) := by kernel_rfl
theorem wpList_append_ry1 {w : World} {ops : Array Oper} {rest : List Oper} {o : Oper} {a : Act} {Q : Exit → Act → World → Prop} (hgd : o.guard = none) (s x : Operand)
    (ho : o.op = .call { callee := .builtin .append, args := #[s, x], argTypes := #[27, 27] }) (B : Nat) (v : Value) (V : List RV) (hs : a.eval s = v) (hown : yW w B v V)
    (g : Nat) (q : RV) (hq : ∃ a n c, q.2 = .slice a n c) (hx : a.eval x = .slice (some ⟨g, 0, none⟩) 1 1) (hB : Bk w g 46 (q.1.cs q.2)) (hb : V.length ≤ 1048576) (hbase : B ≤ w.heap.size)
    (h : ∀ a' n' c' w', yW w' B (.slice a' n' c') (V ++ [q]) → w.grownBy w' v.ownBlock → wpList Try.prog ops Q rest (a.put o.dst (.slice a' n' c')) w') : wpList Try.prog ops Q (o :: rest) a w := by
  obtain ⟨i, hi, hz, hsz, hby⟩ := info_of infoReplyI'
  have h1 := rycs_one [q] (fun p hp => by rw [List.mem_singleton] at hp; subst hp; exact hq)
  have e1 : rycs [q] = q.1.cs q.2 := by simp [rycs]
  rw [e1] at h1
  refine wpList_append_row hgd s x 27 ho B 46 i _ 13 152 Try.underlying27 hi hz hsz hby rfl (by decide) v V.length (rycs V) hs hown (fun _ => True) _ 1 (q.1.cs q.2) hx (hB.rw (Nat.le_refl _) (by omega) (fun h => by omega) _ trivial) rfl h1 (by unfold maxLen; omega) (by omega) hbase ?_
  intro v' w' k1 k2
  obtain ⟨a', c', rfl⟩ := own_shape k1
  refine h a' _ c' w' ?_ k2
  unfold yW
  rw [List.length_append, rycs_append, e1]
  exact k1
theorem yW.lt {w : World} {B : Nat} {v : Value} {V : List RV} (h : yW w B v V) (y : Nat) (hy : v.ownBlock = some y) : B ≤ y ∧ y < w.heap.size := World.ownsRow.lt h y hy
theorem yW.below {w w' : World} {B : Nat} {v : Value} {V : List RV} (h : yW w B v V) (hb : Below w.heap.size w w') : yW w' B v V := own_kept h (only_of_below hb (fun _ => False)) (fun _ _ h => h)
theorem yw_nil (w : World) (B : Nat) : yW w B (.slice none 0 0) [] := World.ownsRow_nil _ _ _ _
theorem dn_step {t : TX} {V : List RV} {k : Nat} (h : k < V.length) : (V.take (k + 1)).filter (fun p => dnR t p.1) = (V.take k).filter (fun p => dnR t p.1) ++ (if dnR t (rvAt V k).1 = true then [rvAt V k] else []) := by
  have e : V.take (k + 1) = V.take k ++ [rvAt V k] := by rw [List.take_succ_eq_append_getElem h]; simp [rvAt, h]
  rw [e, List.filter_append]
  by_cases hd : dnR t (rvAt V k).1 = true <;> simp [hd]
theorem dn_le (t : TX) (V : List RV) (k : Nat) : ((V.take k).filter (fun p => dnR t p.1)).length ≤ k := Nat.le_trans (List.length_filter_le _ _) (by rw [List.length_take]; omega)
set_option maxHeartbeats 4000000 in
set_option maxRecDepth 20000 in
theorem doneAsks_any (S : Nat → Prop) (a : Option Addr) (n c : Nat) (V : List RV) (tc te tn : Int) (w : World) (h : Rw w S (.slice a n c) V.length (rycs V)) (hsl : ∀ p ∈ V, ∃ a n c, p.2 = .slice a n c) (hnm : n ≤ 1048576) :
    Calls Try.prog 17 #[.slice a n c, .agg #[.int .i64 tc, .int .i64 te, .int .i64 tn]] w fun e w' => ∃ a' n' c', e = .returned (.slice a' n' c') ∧ yW w' w.heap.size (.slice a' n' c') (V.filter (fun p => dnR (tc, te, tn) p.1)) ∧ Below w.heap.size w w' := by
  have hnc := (Rw.len h).2.1
  have hcc := (Rw.len h).2.2
  have HN := hid (Rw.len h).1
  have hb0 := below_new (o := .cells #[.int .i64 tc, .int .i64 te, .int .i64 tn] 29) (w := w) (Below.refl _ _)
  have HB0 := hid hb0
  have K0 := hid (Bk.new w 29 [.int .i64 tc, .int .i64 te, .int .i64 tn])
  have H0 := hid (Rw.to h (only_of_below hb0 (fun _ => False)) (fun _ _ _ h => h))
  have HSL := hid hsl
  clear h hb0 hsl
  go_enter Try.func17, Try.ntmps17
  go_wp2_with fail
  generalize hU : w.alloc (.cells #[.int .i64 tc, .int .i64 te, .int .i64 tn] 29) = U at *
  clear hU
  go_loopw [5, 7, 10] (fun x y i wr => ∃ (k : Nat) (av : Option Addr) (nv cv : Nat), k ≤ n ∧ i = .int .i64 k ∧ x = .slice av nv cv ∧ Hid (yW wr U.heap.size (.slice av nv cv) ((V.take k).filter (fun p => dnR (tc, te, tn) p.1))) ∧ Hid (Below U.heap.size U wr)) (fun _ _ i _ => n - (intOf i).toNat)
  case atStart => exact ⟨0, none, 0, 0, Nat.zero_le _, rfl, rfl, by show yW _ _ _ _; simpa using yw_nil U U.heap.size, Below.refl _ _⟩
  case round =>
    obtain ⟨k, av, nv, cv, hk, rfl, rfl, HO, HB⟩ := hrel
    by_cases hlt : k < n
    · have hlt' : (k : Int) < (n : Int) := by omega
      have hk0 : (0 : Int) ≤ (k : Int) := by omega
      have hkr : k < V.length := by rw [← HN.out]; exact hlt
      have H1 := hid (Rw.to H0.out (only_of_below HB.out (fun _ => False)) (fun _ _ _ h => h))
      obtain ⟨b, off, rfl, _, _, hcell⟩ := Rw.at H1.out (by omega)
      have hr : wr.rangeAt b (off + k * 13) ((rvAt V k).1.cs (rvAt V k).2) := fun j u hu => by rw [Nat.add_assoc]; exact hcell _ _ (rycs_at V k hkr j u hu)
      obtain ⟨pa, pn, pc, hps⟩ := HSL.out (rvAt V k) (by simp [rvAt, hkr])
      have HSD := hid (dn_step (t := (tc, te, tn)) hkr)
      have HLE := hid (dn_le (tc, te, tn) V k)
      generalize hqq : rvAt V k = qq at *
      clear hqq
      obtain ⟨ry, vv⟩ := qq
      simp only at hps
      subst hps
      obtain ⟨rk, rc, re, rn, ra, ky, vl, lo, hi, mo, bk, co, ps⟩ := ry
      simp only [RY.cs] at hr
      have HR := hid hr
      clear hcell hr H1
      have hbp := below_new (o := .cells #[.int .i64 rk, .int .i64 rc, .int .i64 re, .int .i64 rn, .int .i64 ra, .string ky, .string vl, .string lo, .string hi, .int .i64 mo, .bool bk, .int .i64 co, .slice pa pn pc] 46) (w := wr) (Below.refl _ _)
      have KP := hid (Bk.new wr 46 [.int .i64 rk, .int .i64 rc, .int .i64 re, .int .i64 rn, .int .i64 ra, .string ky, .string vl, .string lo, .string hi, .int .i64 mo, .bool bk, .int .i64 co, .slice pa pn pc])
      have HB1 := hid (HB.out.trans (hbp.mono HB.out.size))
      have HO1 := hid (HO.out.below hbp)
      clear hbp HO
      have q0 := KP.out.cell (j := 0) rfl
      have q1 := KP.out.cell (j := 1) rfl
      have q2 := KP.out.cell (j := 2) rfl
      have q3 := KP.out.cell (j := 3) rfl
      have q11 := KP.out.cell (j := 11) rfl
      have x0 := (K0.out.below HB1.out).cell (j := 0) rfl
      have x1 := (K0.out.below HB1.out).cell (j := 1) rfl
      have x2 := (K0.out.below HB1.out).cell (j := 2) rfl
      go_upto_region 5 with (first
          | (refine wpList_load_mid rfl 46 _ rfl b (off + k * 13) rfl _ _ HR.out Try.underlying46 rfl (by kernel_rfl) ?_)
          | (refine wpList_store_new ?hg 46 _ _ ?ho 46 _ _ ?hx ?hy ?hi ?hold ?h1 ?rest; (case hg => rfl); (case ho => rfl); (case hx => rfl); (case hy => rfl); (case hi => kernel_rfl); (case hold => rfl); (case h1 => kernel_rfl)))
      generalize wr.alloc (.cells #[.int .i64 rk, .int .i64 rc, .int .i64 re, .int .i64 rn, .int .i64 ra, .string ky, .string vl, .string lo, .string hi, .int .i64 mo, .bool bk, .int .i64 co, .slice pa pn pc] 46) = VV at *
      have hq := eql_tx rc re rn tc te tn
      have hg := guard_tx .eql
      by_cases h2 : rk = 2
      · subst h2
        by_cases ht : (rc, re, rn) = (tc, te, tn)
        · have hd : decide ((rc, re, rn) = (tc, te, tn)) = true := decide_eq_true ht
          rw [hd] at hq
          by_cases hc0 : co = 0
          · subst hc0
            have HDN : Hid (dnR (tc, te, tn) ⟨2, rc, re, rn, ra, ky, vl, lo, hi, mo, bk, 0, ps⟩ = true) := by show _ = _; simp [dnR, RY.tx, ht]
            have hb := below_new (o := .cells #[.int .i64 2, .int .i64 rc, .int .i64 re, .int .i64 rn, .int .i64 ra, .string ky, .string vl, .string lo, .string hi, .int .i64 mo, .bool bk, .int .i64 0, .slice pa pn pc] 46) (w := VV) (Below.refl _ _)
            have KS := hid (Bk.new VV 46 [.int .i64 2, .int .i64 rc, .int .i64 re, .int .i64 rn, .int .i64 ra, .string ky, .string vl, .string lo, .string hi, .int .i64 mo, .bool bk, .int .i64 0, .slice pa pn pc])
            have HOa := hid (HO1.out.below hb)
            have HBa := hid (HB1.out.trans (hb.mono HB1.out.size))
            clear hb HO1
            go_wp2_with (first
                | (refine wpList_load_row rfl 46 _ rfl wr.heap.size rfl 46 _ (0, 0) _ KP.out Try.underlying46 rfl (by kernel_rfl) ?_; go_frame)
                | (at_builtin; refine wpList_append_ry1 rfl _ _ rfl U.heap.size _ _ rfl HOa.out VV.heap.size (⟨2, rc, re, rn, ra, ky, vl, lo, hi, mo, bk, 0, ps⟩, .slice pa pn pc) ⟨_, _, _, rfl⟩ rfl KS.out (by have := HLE.out; omega) ?q2 ?_))
            case q2 => first | exact HBa.out.size | (have h := HBa.out.size; simp at h; omega)
            intro a7 n7 c7 w7 hO hg7
            have HO7 : Hid (yW w7 U.heap.size (.slice a7 n7 c7) ((V.take (k + 1)).filter (fun p => dnR (tc, te, tn) p.1))) := by show yW _ _ _ _; rw [HSD.out, if_pos HDN.out]; exact hO
            have HB7 : Hid (Below U.heap.size U w7) := HBa.out.trans ((Below.refl _ _).grown hg7 HBa.out.size (fun q hq => (HOa.out.lt q hq).1))
            clear hO hg7 HOa HBa KS HSD KP q0 q1 q2 q3 q11 x0 x1 x2 hq hg
            go_wp2
            go_roundw
            case rel => exact ⟨k + 1, a7, n7, c7, by omega, by go_num, rfl, HO7.out, HB7.out⟩
            case measure => simp [intOf]; omega
          · have HC := hid hc0
            have HS1 : Hid (yW VV U.heap.size (.slice av nv cv) ((V.take (k + 1)).filter (fun p => dnR (tc, te, tn) p.1))) := by
              show yW _ _ _ _
              rw [HSD.out, if_neg (by simp [dnR, RY.tx, HC.out]), List.append_nil]
              exact HO1.out
            clear HSD HO1
            go_wp2
            go_roundw
            case rel => exact ⟨k + 1, av, nv, cv, by omega, by go_num, rfl, HS1.out, HB1.out⟩
            case measure => simp [intOf]; omega
        · have hd : decide ((rc, re, rn) = (tc, te, tn)) = false := decide_eq_false ht
          rw [hd] at hq
          have HT := hid ht
          clear ht
          have HS1 : Hid (yW VV U.heap.size (.slice av nv cv) ((V.take (k + 1)).filter (fun p => dnR (tc, te, tn) p.1))) := by
            show yW _ _ _ _
            rw [HSD.out, if_neg (by simp [dnR, RY.tx, HT.out]), List.append_nil]
            exact HO1.out
          clear HSD HO1
          go_wp2
          go_roundw
          case rel => exact ⟨k + 1, av, nv, cv, by omega, by go_num, rfl, HS1.out, HB1.out⟩
          case measure => simp [intOf]; omega
      · have H2 := hid h2
        have HS1 : Hid (yW VV U.heap.size (.slice av nv cv) ((V.take (k + 1)).filter (fun p => dnR (tc, te, tn) p.1))) := by
          show yW _ _ _ _
          rw [HSD.out, if_neg (by simp [dnR, RY.tx, H2.out]), List.append_nil]
          exact HO1.out
        clear HSD HO1
        go_wp2
        go_roundw
        case rel => exact ⟨k + 1, av, nv, cv, by omega, by go_num, rfl, HS1.out, HB1.out⟩
        case measure => simp [intOf]; omega
    · have hlt' : ¬ (k : Int) < (n : Int) := by omega
      have HO1 : Hid (yW wr w.heap.size (.slice av nv cv) (V.filter (fun p => dnR (tc, te, tn) p.1))) := by
        have h2 := HO.out
        rw [List.take_of_length_le (by rw [← HN.out]; omega)] at h2
        refine ⟨h2.1, h2.2.imp id ?_⟩
        rintro ⟨g, cap, cur, k1, k2, k3⟩
        exact ⟨g, cap, cur, k1, Nat.le_trans HB0.out.size k2, k3⟩
      clear HO
      go_wp2
      go_ret
      exact ⟨_, _, _, rfl, HO1.out, HB0.out.trans (HB.out.mono HB0.out.size)⟩
theorem implAsked_any (S : Nat → Prop) (a : Option Addr) (n c : Nat) (rs : List RY) (tc te tn : Int) (w : World) (h : Yr w S (.slice a n c) rs) (hnm : n ≤ 1048576) :
    Calls Try.prog 12 #[.slice a n c, .agg #[.int .i64 tc, .int .i64 te, .int .i64 tn]] w fun e w' => e = .returned (.int .i64 (akN (tc, te, tn) rs)) ∧ Below w.heap.size w w' := by
  have hb0 := below_new (o := .cells #[.int .i64 tc, .int .i64 te, .int .i64 tn] 29) (w := w) (Below.refl _ _)
  have HB0 := hid hb0
  have K0 := hid (Bk.new w 29 [.int .i64 tc, .int .i64 te, .int .i64 tn])
  obtain ⟨V, hV, hR, hP⟩ := h
  have H0 := hid (Rw.to hR (only_of_below hb0 (fun _ => False)) (fun _ _ _ h => h))
  have HS := hid (fun p (hp : p ∈ V) => by obtain ⟨a, c, e, _⟩ := (hP p hp).shape; exact (⟨a, _, c, e⟩ : ∃ a n c, p.2 = .slice a n c))
  have HV := hid hV
  have k0 := K0.out.cell (j := 0) rfl
  have k1 := K0.out.cell (j := 1) rfl
  have k2 := K0.out.cell (j := 2) rfl
  clear hb0 hR hP hV
  go_enter Try.func12, Try.ntmps12
  go_wp2_with fail
  refine (doneAsks_any S a n c V tc te tn _ H0.out HS.out hnm).mono ?_
  generalize w.alloc (.cells #[.int .i64 tc, .int .i64 te, .int .i64 tn] 29) = U at *
  rintro e w1 ⟨a', n', c', rfl, hO, hb⟩
  have HB1 := hid (HB0.out.trans (hb.mono HB0.out.size))
  have HN : Hid ((n' : Int) = akN (tc, te, tn) rs) := by
    have h1 := (Rw.len (rw_own hO (S := fun _ => True) (fun _ _ _ _ => trivial))).1
    show (n' : Int) = ((_ : Nat) : Int)
    rw [h1, ← HV.out]
    rw [List.filter_map, List.length_map]
    rfl
  clear hO hb
  go_wp2
  go_ret
  exact ⟨by rw [← HN.out]; rfl, HB1.out⟩
end Go.Proofs.Ytnbafoennnhppab

