/-
  What the law's helpers do with edits and slices of edits: sizes summed, copied, held against each other.
-/
import Derived.Test.YtkfeefaokghibabEdP
import Derived.Test.YtkfeefaokghibabPairL
namespace Go.Proofs.Ytkfeefaokghibab
open Go.RowKit
set_option linter.unusedVariables false
theorem infoEditI : (Try.prog.info? 52).map (fun i => (i.zero, i.size, i.bytes)) = some (some (.agg #[.string ⟨#[]⟩, .string ⟨#[]⟩, .bool false]), 3, 40) := by kernel_rfl
theorem made_edits (n : Nat) : madeCells (Value.agg #[.string ⟨#[]⟩, .string ⟨#[]⟩, .bool false]).cells (n * 3) = (ecs (List.replicate n (⟨#[]⟩, ⟨#[]⟩, false))).toArray := by
  apply Array.ext
  · simp [madeCells, ecs_length]
  · intro i h1 h2
    simp [ecs_length] at h2
    simp only [madeCells, List.getElem_toArray]
    have hq : eAt (List.replicate n ((⟨#[]⟩, ⟨#[]⟩, false) : ED)) (i / 3) = (⟨#[]⟩, ⟨#[]⟩, false) := by simp [eAt, show i / 3 < n by omega]
    have h0 := ecs_at (List.replicate n ((⟨#[]⟩, ⟨#[]⟩, false) : ED)) (i / 3) (by simp; omega)
    rw [hq] at h0
    have h3 : i % 3 = 0 ∨ i % 3 = 1 ∨ i % 3 = 2 := by omega
    rcases h3 with e | e | e
    · have h4 := List.getElem?_eq_some_iff.1 (show (ecs (List.replicate n ((⟨#[]⟩, ⟨#[]⟩, false) : ED)))[i]? = some (.string ⟨#[]⟩) by rw [show i / 3 * 3 = i by omega] at h0; exact h0.1)
      rw [h4.2]
      simp [Value.cells, e]
    · have h4 := List.getElem?_eq_some_iff.1 (show (ecs (List.replicate n ((⟨#[]⟩, ⟨#[]⟩, false) : ED)))[i]? = some (.string ⟨#[]⟩) by rw [show i / 3 * 3 + 1 = i by omega] at h0; exact h0.2.1)
      rw [h4.2]
      simp [Value.cells, e]
    · have h4 := List.getElem?_eq_some_iff.1 (show (ecs (List.replicate n ((⟨#[]⟩, ⟨#[]⟩, false) : ED)))[i]? = some (.bool false) by rw [show i / 3 * 3 + 2 = i by omega] at h0; exact h0.2.2)
      rw [h4.2]
      simp [Value.cells, e]
/-- The edits as far as copied. -/
def ptE (l : List ED) (k : Nat) : List ED := l.take k ++ List.replicate (l.length - k) (⟨#[]⟩, ⟨#[]⟩, false)
theorem ptE_length (l : List ED) (k : Nat) (h : k ≤ l.length) : (ptE l k).length = l.length := by simp [ptE]; omega
theorem ptE_set (l : List ED) (k : Nat) (h : k < l.length) : (ptE l k).set k (eAt l k) = ptE l (k + 1) := by
  have e : eAt l k = l[k] := by simp [eAt, h]
  rw [e]
  have hl : (l.take k).length = k := by simp; omega
  simp only [ptE]
  rw [List.set_append_right _ _ (by omega), hl]
  have h2 : l.length - k = (l.length - (k + 1)) + 1 := by omega
  rw [List.take_succ_eq_append_getElem h, h2, List.replicate_succ, Nat.sub_self, List.set_cons_zero, List.append_assoc]
  rfl
theorem Bk.er {w : World} {g n : Nat} {T : TypeId} {l : List ED} (h : Bk w g T (ecs l)) (hn : n = l.length) (hc : n ≤ 9223372036854775807) (S : Nat → Prop) (hS : S g) : Er w S (.slice (some ⟨g, 0, none⟩) n n) l := by
  subst hn
  exact h.rw (Nat.le_refl _) hc (fun h0 => by rw [List.eq_nil_of_length_eq_zero h0]; rfl) S hS
theorem results_edit {fn : Func} {p : Tmp} (h : fn.results = #[.cell p 52]) (tmps : Array Value) (w : World) (g : Nat) {k v : ByteArray} {b : Bool} (hp : tmps.getD p undef = .pointer (some ⟨g, 0, none⟩))
    (c0 : w.cell? ⟨g, 0, none⟩ = some (.string k)) (c1 : w.cell? ⟨g, 1, none⟩ = some (.string v)) (c2 : w.cell? ⟨g, 2, none⟩ = some (.bool b)) : (results fn tmps).run Try.prog w = .ok (.agg #[.string k, .string v, .bool b]) w := by
  have hp' : tmps[p]?.getD undef = .pointer (some ⟨g, 0, none⟩) := by simpa using hp
  simp [results, h, hp', asAddr, load_edit c0 c1 c2]
theorem toEdit_any (k v : ByteArray) (b : Bool) (w : World) : Calls Try.prog 24 #[.agg #[.string k, .string v, .bool b]] w fun e w' => e = .returned (.agg #[.string k, .string v, .bool b]) ∧ Below w.heap.size w w' := by
  go_enter Try.func24, Try.ntmps24
  go_wp2
  try simp only [Exit.inBlock, Exit.then]
  refine bodyPost_ret (v := .agg #[.string k, .string v, .bool b]) ?_ rfl ?_
  · refine results_edit rfl _ _ _ rfl ?_ ?_ ?_
    · go_simp
    · go_simp
    · go_simp
  · exact ⟨rfl, below_new (below_new (below_new (Below.refl _ _)))⟩
set_option maxHeartbeats 2000000 in
theorem toEditS_at (S : Nat → Prop) (a : Option Addr) (n c : Nat) (l : List ED) (w : World) (h : Er w S (.slice a n c) l) (hnm : n ≤ 1048576) :
    Calls Try.prog 7 #[.slice a n c] w fun e w' => e = .returned (.slice (some ⟨w.heap.size, 0, none⟩) n n) ∧ Bk w' w.heap.size 52 (ecs l) ∧ Below w.heap.size w w' := by
  have HN := hid (Rw.len h).1
  have H0 := hid h
  clear h
  have hmk := run_make_n (P := Try.prog) 25 52 (.agg #[.string ⟨#[]⟩, .string ⟨#[]⟩, .bool false]) 3 40 Try.underlying25 infoEditI n (by omega) (by omega)
  rw [made_edits] at hmk
  have HM : Hid (ecs (List.replicate n (⟨#[]⟩, ⟨#[]⟩, false)) = ecs (ptE l 0)) := by
    show _ = _
    rw [HN.out]; simp [ptE]
  rw [HM.out] at hmk
  have h63 : n ≤ 9223372036854775807 := by omega
  go_enter Try.func7, Try.ntmps7
  go_wp2
  go_loopw [4] (fun i wr => ∃ k : Nat, k ≤ n ∧ i = .int .i64 k ∧ Hid (Bk wr w.heap.size 52 (ecs (ptE l k))) ∧ Hid (Below w.heap.size w wr)) (fun i _ => n - (intOf i).toNat)
  case atStart => exact ⟨0, Nat.zero_le _, rfl, Bk.new _ _ _, (Below.refl _ _).alloc (Nat.le_refl _) _⟩
  case round =>
    obtain ⟨k, hk, rfl, HK, HB⟩ := hrel
    by_cases hlt : k < n
    · have hlt' : (k : Int) < (n : Int) := by omega
      have HP := hid (H0.out.below HB.out)
      obtain ⟨b, off, rfl, _, hbw, hcell⟩ := HP.out.at (by omega)
      have hck := (hcell k hlt).1
      have hck1 := (hcell k hlt).2.1
      have hck2 := (hcell k hlt).2.2
      have HW : Hid (w.heap.size < wr.heap.size) := HK.out.lt
      have HSET : Hid ((ptE l k).set k (eAt l k) = ptE l (k + 1)) := ptE_set l k (by rw [← HN.out]; exact hlt)
      have HLE : Hid ((ptE l k).length = n) := by show _ = _; rw [ptE_length l k (by rw [← HN.out]; exact hk), ← HN.out]
      clear hcell hbw
      generalize hcur : eAt l k = cur at hck hck1 hck2 HSET
      obtain ⟨ck, cv, cb⟩ := cur
      clear hcur HP
      go_wp2_with fail
      refine (toEdit_any ck cv cb wr).mono ?_
      rintro e w1 ⟨rfl, hb1⟩
      have HK1 := hid (HK.out.below hb1)
      have HB1 := hid (HB.out.trans (hb1.mono HB.out.size))
      clear hb1
      have hc0 := HK1.out.cell (ecs_at (ptE l k) k (by rw [HLE.out]; exact hlt)).1
      have hc1 := HK1.out.cell (ecs_at (ptE l k) k (by rw [HLE.out]; exact hlt)).2.1
      have hc2 := HK1.out.cell (ecs_at (ptE l k) k (by rw [HLE.out]; exact hlt)).2.2
      have hf0 := HK1.out.free (k * 3)
      have hf1 := HK1.out.free (k * 3 + 1)
      have hf2 := HK1.out.free (k * 3 + 2)
      have HK2 : Hid (Bk (((w1.setCell ⟨w.heap.size, k * 3, none⟩ (.string ck)).setCell ⟨w.heap.size, k * 3 + 1, none⟩ (.string cv)).setCell ⟨w.heap.size, k * 3 + 2, none⟩ (.bool cb)) w.heap.size 52 (ecs (ptE l (k + 1)))) := by
        show Bk _ _ _ _
        rw [← HSET.out, ecs_set _ _ _ (by rw [HLE.out]; exact hlt)]
        exact ((HK1.out.set _ _).set _ _).set _ _
      have HB2 : Hid (Below w.heap.size w (((w1.setCell ⟨w.heap.size, k * 3, none⟩ (.string ck)).setCell ⟨w.heap.size, k * 3 + 1, none⟩ (.string cv)).setCell ⟨w.heap.size, k * 3 + 2, none⟩ (.bool cb))) := ((HB1.out.setCell (Nat.le_refl _) _).setCell (Nat.le_refl _) _).setCell (Nat.le_refl _) _
      generalize eAt (ptE l k) k = old at hc0 hc1 hc2
      obtain ⟨o1, o2, o3⟩ := old
      go_wp2
      go_roundw
      case rel => exact ⟨k + 1, by omega, by go_num, HK2.out, HB2.out⟩
      case measure => simp [intOf]; omega
    · have hk' : k = n := by omega
      have HA : Hid (ecs (ptE l k) = ecs l) := by show _ = _; rw [hk', HN.out]; simp [ptE]
      clear hk'
      go_wp2
      go_ret
      refine ⟨rfl, ?_, HB.out⟩
      rw [← HA.out]; exact HK.out
theorem szEdit_any (k v : ByteArray) (b : Bool) (left : Int) (w : World) (h0 : 0 ≤ left) (h1 : left ≤ 1048576) (hk : k.size ≤ 9223372036854775807) (hv : v.size ≤ 9223372036854775807) :
    Calls Try.prog 21 #[.agg #[.string k, .string v, .bool b], .int .i64 left] w fun e w' => (∃ x : Int, e = .returned (.int .i64 x) ∧ x ≤ left ∧ -1 ≤ x) ∧ Below w.heap.size w w' := by
  go_enter Try.func21, Try.ntmps21
  go_wp2
  all_goals (go_ret; exact ⟨⟨_, rfl, by omega, by omega⟩, below_new (Below.refl _ _)⟩)
def szOkE (l : List ED) : Prop := ∀ i, (eAt l i).1.size ≤ 9223372036854775807 ∧ (eAt l i).2.1.size ≤ 9223372036854775807
set_option maxHeartbeats 2000000 in
theorem szEditS_at (S : Nat → Prop) (a : Option Addr) (n c : Nat) (l : List ED) (left : Int) (w : World) (h : Er w S (.slice a n c) l) (hsz : szOkE l) (h0 : 0 ≤ left) (h1 : left ≤ 1048576) :
    Calls Try.prog 5 #[.slice a n c, .int .i64 left] w fun e w' => (∃ x : Int, e = .returned (.int .i64 x) ∧ x ≤ left ∧ -1 ≤ x ∧ (0 ≤ x → n ≤ 1048576)) ∧ Below w.heap.size w w' := by
  obtain ⟨hn, hnc, hcc⟩ := Rw.len h
  have HN := hid hn
  have H0 := hid h
  have HZ := hid hsz
  clear h hsz hn
  by_cases hbig : left - (n : Int) < 0
  · go_enter Try.func5, Try.ntmps5
    go_wp2
    go_ret
    exact ⟨⟨_, rfl, by omega, by omega, fun h => by omega⟩, Below.refl _ _⟩
  · have hn2 : n ≤ 1048576 := by omega
    go_enter Try.func5, Try.ntmps5
    go_wp2
    go_loopw [1, 5] (fun x i wr => ∃ (k : Nat) (y : Int), k ≤ n ∧ i = .int .i64 k ∧ x = .int .i64 y ∧ 0 ≤ y ∧ y ≤ left ∧ Hid (Below w.heap.size w wr)) (fun _ i _ => n - (intOf i).toNat)
    case atStart => exact ⟨0, _, Nat.zero_le _, rfl, rfl, by omega, by omega, Below.refl _ _⟩
    case round =>
      obtain ⟨k, y, hk, rfl, rfl, hy0, hy1, HB⟩ := hrel
      by_cases hlt : k < n
      · have hlt' : (k : Int) < (n : Int) := by omega
        have HP := hid (H0.out.below HB.out)
        obtain ⟨b, off, rfl, _, hbw, hcell⟩ := HP.out.at (by omega)
        have hck := (hcell k hlt).1
        have hck1 := (hcell k hlt).2.1
        have hck2 := (hcell k hlt).2.2
        have hs := HZ.out k
        clear hcell hbw HP
        generalize eAt l k = cur at hck hck1 hck2 hs
        obtain ⟨ck, cv, cb⟩ := cur
        obtain ⟨hs1, hs2⟩ := hs
        go_wp2_with fail
        refine (szEdit_any ck cv cb y wr hy0 (by omega) hs1 hs2).mono ?_
        rintro e w1 ⟨⟨x, rfl, hx1, hx2⟩, hb1⟩
        have HB1 := hid (HB.out.trans (hb1.mono HB.out.size))
        clear hb1 hs1 hs2 hck hck1 hck2
        by_cases hneg : x < 0
        · go_wp2
          go_ret
          exact ⟨⟨_, rfl, by omega, by omega, fun h => by omega⟩, HB1.out⟩
        · go_wp2
          go_roundw
          case rel => exact ⟨k + 1, x, by omega, by go_num, rfl, by omega, by omega, HB1.out⟩
          case measure => simp [intOf]; omega
      · go_wp2
        go_ret
        exact ⟨⟨_, rfl, by omega, by omega, fun _ => hn2⟩, HB.out⟩
set_option maxHeartbeats 2000000 in
theorem eqEdit_any (k v : ByteArray) (b : Bool) (k' v' : ByteArray) (b' : Bool) (w : World) : Calls Try.prog 28 #[.agg #[.string k, .string v, .bool b], .agg #[.string k', .string v', .bool b']] w fun e w' => e = .returned (.bool (decide (((k, v, b) : ED) = (k', v', b')))) ∧ Below w.heap.size w w' := by
  by_cases h1 : k = k'
  · subst h1
    by_cases h2 : v = v'
    · subst h2
      by_cases h3 : b = b'
      · subst h3
        have HE : Hid (decide (((k, v, b) : ED) = (k, v, b)) = true) := by show _ = _; simp
        have t3 : (b != b) = false := by simp
        go_enter Try.func28, Try.ntmps28
        go_wp2
        go_ret
        exact ⟨by first | rfl | (rw [HE.out]; rfl) | (rw [HE.out]), below_new (below_new (Below.refl _ _))⟩
      · have HE : Hid (decide (((k, v, b) : ED) = (k, v, b')) = false) := by show _ = _; simp [h3]
        cases b with
        | true =>
          cases b' with
          | true => exact absurd rfl h3
          | false =>
            clear h3
            go_enter Try.func28, Try.ntmps28
            go_wp2
            go_ret
            exact ⟨by rw [HE.out]; rfl, below_new (below_new (Below.refl _ _))⟩
        | false =>
          cases b' with
          | false => exact absurd rfl h3
          | true =>
            clear h3
            go_enter Try.func28, Try.ntmps28
            go_wp2
            go_ret
            exact ⟨by rw [HE.out]; rfl, below_new (below_new (Below.refl _ _))⟩
    · have HE : Hid (decide (((k, v, b) : ED) = (k, v', b')) = false) := by show _ = _; simp [h2]
      have t := str_beq h2
      clear h2
      go_enter Try.func28, Try.ntmps28
      go_wp2
      go_ret
      exact ⟨by rw [HE.out]; rfl, below_new (below_new (Below.refl _ _))⟩
  · have HE : Hid (decide (((k, v, b) : ED) = (k', v', b')) = false) := by show _ = _; simp [h1]
    have t := str_beq h1
    clear h1
    go_enter Try.func28, Try.ntmps28
    go_wp2
    go_ret
    exact ⟨by rw [HE.out]; rfl, below_new (below_new (Below.refl _ _))⟩
set_option maxHeartbeats 2000000 in
theorem eqEditS_at (S S' : Nat → Prop) (a a' : Option Addr) (n n' c c' : Nat) (l l' : List ED) (w : World) (h : Er w S (.slice a n c) l) (h' : Er w S' (.slice a' n' c') l') :
    Calls Try.prog 9 #[.slice a n c, .slice a' n' c'] w fun e w' => e = .returned (.bool (decide (l = l'))) ∧ Below w.heap.size w w' := by
  obtain ⟨hn, hnc, hcc⟩ := Rw.len h
  obtain ⟨hn', hnc', hcc'⟩ := Rw.len h'
  have HN := hid hn
  have HN' := hid hn'
  have H0 := hid h
  have H0' := hid h'
  clear h h' hn hn'
  by_cases hne : n = n'
  · subst hne
    have hz : ((n : Int) != (n : Int)) = false := by simp
    go_enter Try.func9, Try.ntmps9
    go_wp2
    go_loopw [5] (fun i wr => ∃ k : Nat, k ≤ n ∧ i = .int .i64 k ∧ Hid (Below w.heap.size w wr) ∧ Hid (l.take k = l'.take k)) (fun i _ => n - (intOf i).toNat)
    case atStart => exact ⟨0, Nat.zero_le _, rfl, Below.refl _ _, rfl⟩
    case round =>
      obtain ⟨k, hk, rfl, HB, HT⟩ := hrel
      by_cases hlt : k < n
      · have hlt' : (k : Int) < (n : Int) := by omega
        have HP := hid (H0.out.below HB.out)
        have HP' := hid (H0'.out.below HB.out)
        obtain ⟨b, off, rfl, _, hbw, hcell⟩ := HP.out.at (by omega)
        obtain ⟨b', off', rfl, _, hbw', hcell'⟩ := HP'.out.at (by omega)
        have hck := (hcell k hlt).1
        have hck1 := (hcell k hlt).2.1
        have hck2 := (hcell k hlt).2.2
        have hck' := (hcell' k hlt).1
        have hck1' := (hcell' k hlt).2.1
        have hck2' := (hcell' k hlt).2.2
        have HS : Hid (eAt l k = eAt l' k → l.take (k + 1) = l'.take (k + 1)) := by
          intro e
          have hl : k < l.length := by rw [← HN.out]; exact hlt
          have hl' : k < l'.length := by rw [← HN'.out]; exact hlt
          rw [List.take_succ_eq_append_getElem hl, List.take_succ_eq_append_getElem hl', HT.out]
          simp [eAt, hl, hl'] at e
          rw [e]
        have HF : Hid (eAt l k ≠ eAt l' k → decide (l = l') = false) := by
          intro e
          rw [decide_eq_false_iff_not]
          intro e'
          exact e (by rw [e'])
        clear hcell hcell' hbw hbw' HP HP' HT
        generalize eAt l k = cur at *
        generalize eAt l' k = cur' at *
        obtain ⟨ck, cv, cb⟩ := cur
        obtain ⟨ck', cv', cb'⟩ := cur'
        have T0 := hid (kc0_6 hck hck1 hck2 hck' hck1' hck2')
        by_cases he : ((ck, cv, cb) : ED) = (ck', cv', cb')
        · have HS1 := hid (HS.out he)
          have C1 : ∀ v, Calls Try.prog 28 #[.agg #[.string ck, .string cv, .bool cb], .agg #[.string ck', .string cv', .bool cb']] v fun e w' => e = .returned (.bool true) ∧ Below v.heap.size v w' := fun v => by
            have := eqEdit_any ck cv cb ck' cv' cb' v
            rwa [decide_eq_true he] at this
          clear he HS HF hck hck1 hck2 hck' hck1' hck2'
          go_wp2_with fail
          go_region_held3 (fun v => v.cell? ⟨b, off + k * 3, none⟩ = some (.string ck) ∧ v.cell? ⟨b, off + k * 3 + 1, none⟩ = some (.string cv) ∧ v.cell? ⟨b, off + k * 3 + 2, none⟩ = some (.bool cb) ∧ v.cell? ⟨b', off' + k * 3, none⟩ = some (.string ck') ∧ v.cell? ⟨b', off' + k * 3 + 1, none⟩ = some (.string cv') ∧ v.cell? ⟨b', off' + k * 3 + 2, none⟩ = some (.bool cb') ∧ KC wr v [(⟨b, off + k * 3, none⟩, .string ck), (⟨b, off + k * 3 + 1, none⟩, .string cv), (⟨b, off + k * 3 + 2, none⟩, .bool cb), (⟨b', off' + k * 3, none⟩, .string ck'), (⟨b', off' + k * 3 + 1, none⟩, .string cv'), (⟨b', off' + k * 3 + 2, none⟩, .bool cb')])
            (first | assumption | exact kc6 (T0.out.call (below_drew _)) | exact kc6c hbC (by assumption))
            (first | (go_at_call 28; refine (C1 _).mono ?_; rintro e w' ⟨rfl, hbC⟩))
          all_goals (rename_i hS; have HB1 := hid (Below.then' HB.out hS.2.2.2.2.2.2.bel (Nat.le_refl _)); clear hS; go_wp2)
          go_roundw
          case rel => exact ⟨k + 1, by omega, by go_num, HB1.out, HS1.out⟩
          case measure => simp [intOf]; omega
        · have HF1 := hid (HF.out he)
          have C1 : ∀ v, Calls Try.prog 28 #[.agg #[.string ck, .string cv, .bool cb], .agg #[.string ck', .string cv', .bool cb']] v fun e w' => e = .returned (.bool false) ∧ Below v.heap.size v w' := fun v => by
            have := eqEdit_any ck cv cb ck' cv' cb' v
            rwa [decide_eq_false he] at this
          clear he HS HF hck hck1 hck2 hck' hck1' hck2'
          go_wp2_with fail
          go_region_held3 (fun v => v.cell? ⟨b, off + k * 3, none⟩ = some (.string ck) ∧ v.cell? ⟨b, off + k * 3 + 1, none⟩ = some (.string cv) ∧ v.cell? ⟨b, off + k * 3 + 2, none⟩ = some (.bool cb) ∧ v.cell? ⟨b', off' + k * 3, none⟩ = some (.string ck') ∧ v.cell? ⟨b', off' + k * 3 + 1, none⟩ = some (.string cv') ∧ v.cell? ⟨b', off' + k * 3 + 2, none⟩ = some (.bool cb') ∧ KC wr v [(⟨b, off + k * 3, none⟩, .string ck), (⟨b, off + k * 3 + 1, none⟩, .string cv), (⟨b, off + k * 3 + 2, none⟩, .bool cb), (⟨b', off' + k * 3, none⟩, .string ck'), (⟨b', off' + k * 3 + 1, none⟩, .string cv'), (⟨b', off' + k * 3 + 2, none⟩, .bool cb')])
            (first | assumption | exact kc6 (T0.out.call (below_drew _)) | exact kc6c hbC (by assumption))
            (first | (go_at_call 28; refine (C1 _).mono ?_; rintro e w' ⟨rfl, hbC⟩))
          all_goals (rename_i hS; have HB1 := hid (Below.then' HB.out hS.2.2.2.2.2.2.bel (Nat.le_refl _)); clear hS; go_wp2)
          go_ret
          exact ⟨by rw [HF1.out]; rfl, HB1.out⟩
      · have HF : Hid (decide (l = l') = true) := by
          show decide (l = l') = true
          have hk' : k = n := by omega
          have e := HT.out
          have e1 : l.length ≤ k := by rw [← HN.out]; omega
          have e2 : l'.length ≤ k := by rw [← HN'.out]; omega
          rw [List.take_of_length_le e1, List.take_of_length_le e2] at e
          simp [e]
        clear HT
        go_wp2
        go_ret
        exact ⟨by rw [HF.out]; rfl, HB.out⟩
  · have hz : ((n : Int) != (n' : Int)) = true := by simp; omega
    have HF : Hid (decide (l = l') = false) := by
      show decide (l = l') = false
      rw [decide_eq_false_iff_not]
      intro e
      exact hne (by rw [HN.out, HN'.out, e])
    clear hne
    go_enter Try.func9, Try.ntmps9
    go_wp2
    go_ret
    exact ⟨by rw [HF.out]; rfl, Below.refl _ _⟩
end Go.Proofs.Ytkfeefaokghibab

