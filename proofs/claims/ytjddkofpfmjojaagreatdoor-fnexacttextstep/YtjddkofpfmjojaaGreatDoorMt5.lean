/-
  TextStep of the specification.
-/
import Derived.Test.YtjddkofpfmjojaaGreatDoorMt4
import Derived.Test.YtjddkofpfmjojaaGreatDoorMt3
import Derived.Test.YtjddkofpfmjojaaGreatDoorMt2
import Derived.Test.YtjddkofpfmjojaaGreatDoorMt1
namespace Go.Proofs.YtjddkofpfmjojaaGreatDoor
open Go.RowKit
set_option linter.unusedVariables false
theorem step_append_iw {w : World} {ops : Array Oper} {o : Oper} {a : Act} {K : Act → World → Prop} {Q : Exit → Act → World → Prop} {E : Prop} (hgd : o.guard = none) (s x : Operand)
    (ho : o.op = .call { callee := .builtin .append, args := #[s, x], argTypes := #[22, 22] }) (B : Nat) (v : Value) (l : List Int) (hs : a.eval s = v) (hown : IW w B v l)
    (g : Nat) (z : Int) (hx : a.eval x = .slice (some ⟨g, 0, none⟩) 1 1) (hB : Bk w g 3 [.int .i64 z]) (hb : l.length ≤ 4194304) (hbase : B ≤ w.heap.size)
    (h : ∀ a' n' c' w', IW w' B (.slice a' n' c') (l ++ [z]) → w.grownBy w' v.ownBlock → ((Value.slice a' n' c').ownBlock = v.ownBlock ∨ (Value.slice a' n' c').ownBlock = some w.heap.size) → K (a.put o.dst (.slice a' n' c')) w') :
    if Region.wanted o (yielded ops a.tmps) = true then Oper.wp Tryz.prog o a w K Q else E := by
  have hw : Region.wanted o (yielded ops a.tmps) = true := by simp [Region.wanted, hgd]
  rw [if_pos hw]
  obtain ⟨i, hi, hz, hsz, hby⟩ := info_of infoInt'
  obtain ⟨v', w', hr, h2, h3, h4⟩ := run_append_row_at (P := Tryz.prog) (w := w) B 22 o.type 3 i _ 1 8 Tryz.underlying22 hi hz hsz hby rfl (by decide) v l.length (l.map (Value.int .i64)) hown (fun _ => True) _ 1 [.int .i64 z] (hB.rw (Nat.le_refl _) (by omega) (fun h => by omega) _ trivial) rfl
    (by intro u hu; simp at hu; subst hu; rfl) (by unfold maxLen; omega) (by omega) hbase
  obtain ⟨a', c', rfl⟩ := own_shape h2
  unfold Oper.wp execOp
  simp only [ho, resolve, invoke, builtin, Sem.run_bind, Sem.run_pure, Result.andThen_ok, List.map_toArray, List.map_cons, List.map_nil, hs, hx, hr]
  refine h a' _ c' w' ?_ h3 h4
  show World.ownsRow _ _ _ _ _ _ _
  rw [List.length_append, List.map_append]
  exact h2
theorem sr_drop {w : World} {S : Nat → Prop} {b off n c : Nat} {ss : List ByteArray} (h : Sr w S (.slice (some ⟨b, off, none⟩) n c) ss) (hm : 2 ≤ n) : Sr w S (.slice (some ⟨b, off + 2, none⟩) (n - 2) (c - 2)) (ss.drop 2) := by
  have hn := (Rw.len h).1
  subst hn
  have := Rw.dropW (m := 2) h hm 1 (fun e => List.drop_eq_nil_of_le (by simp; omega))
  unfold Sr
  rw [List.length_drop, List.map_drop]
  simpa using this
/-- The kind found among the first i words. -/
def kT (w : ByteArray) : Nat → Int
  | 0 => 0
  | i + 1 => if 0 < i ∧ sw (i : Int) = w then (i : Int) else kT w i
theorem kT_S (w : ByteArray) : kT w 10 = kS w := by
  have hne : ∀ x, x ∈ [wCall, wDeliver, wLose, wDouble, wTick, wDown, wTorn, wUp, wCalm] → w = x → kT w 10 = kS w := by
    intro x hx e
    subst e
    simp only [List.mem_cons, List.not_mem_nil, or_false] at hx
    rcases hx with rfl | rfl | rfl | rfl | rfl | rfl | rfl | rfl | rfl <;> decide
  by_cases h1 : w ∈ [wCall, wDeliver, wLose, wDouble, wTick, wDown, wTorn, wUp, wCalm]
  · exact hne w h1 rfl
  · have h2 : ∀ x, x ∈ [wCall, wDeliver, wLose, wDouble, wTick, wDown, wTorn, wUp, wCalm] → ¬ x = w := fun x hx e => h1 (e ▸ hx)
    have h3 : ∀ x, x ∈ [wCall, wDeliver, wLose, wDouble, wTick, wDown, wTorn, wUp, wCalm] → ¬ w = x := fun x hx e => h1 (e ▸ hx)
    unfold kS
    rw [if_neg (h3 _ (by simp)), if_neg (h3 _ (by simp)), if_neg (h3 _ (by simp)), if_neg (h3 _ (by simp)), if_neg (h3 _ (by simp)), if_neg (h3 _ (by simp)), if_neg (h3 _ (by simp)), if_neg (h3 _ (by simp)), if_neg (h3 _ (by simp))]
    have k : ∀ i : Nat, i ≤ 10 → kT w i = 0 := by
      intro i
      induction i with
      | zero => intro _; rfl
      | succ i ih =>
        intro hi
        unfold kT
        rw [if_neg, ih (by omega)]
        rintro ⟨h0, he⟩
        have hi9 : i = 1 ∨ i = 2 ∨ i = 3 ∨ i = 4 ∨ i = 5 ∨ i = 6 ∨ i = 7 ∨ i = 8 ∨ i = 9 := by omega
        rcases hi9 with rfl | rfl | rfl | rfl | rfl | rfl | rfl | rfl | rfl
        · exact h2 wCall (by simp) he
        · exact h2 wDeliver (by simp) he
        · exact h2 wLose (by simp) he
        · exact h2 wDouble (by simp) he
        · exact h2 wTick (by simp) he
        · exact h2 wDown (by simp) he
        · exact h2 wTorn (by simp) he
        · exact h2 wUp (by simp) he
        · exact h2 wCalm (by simp) he
    exact k 10 (Nat.le_refl _)
theorem kT_no {w : ByteArray} {i : Nat} (h : ¬ (0 < i ∧ sw (i : Int) = w)) : kT w (i + 1) = kT w i := if_neg h
theorem kT_yes {w : ByteArray} {i : Nat} (h : 0 < i ∧ sw (i : Int) = w) : kT w (i + 1) = i := if_pos h
theorem stS_1 {L : List ByteArray} (h : kS (rdW L 0) = 1) (h2 : 2 < L.length) : stS L = mkST 1 (tgN (rdW L 1)) 0 [] (ccS (L.drop 2)) := by unfold stS; rw [h, if_neg (show ¬ (1 : Int) = 7 by decide), if_neg (show ¬ (1 : Int) = 7 by decide), if_pos ⟨rfl, h2⟩]
theorem stS_1n {L : List ByteArray} (h : kS (rdW L 0) = 1) (h2 : ¬ 2 < L.length) : stS L = mkST 1 (tgN (rdW L 1)) 0 [] ccZ := by unfold stS; rw [h, if_neg (show ¬ (1 : Int) = 7 by decide), if_neg (show ¬ (1 : Int) = 7 by decide), if_neg (fun q => h2 q.2)]
theorem stS_7 {L : List ByteArray} (h : kS (rdW L 0) = 7) : stS L = mkST 7 (tgN (rdW L 1)) (tgN (rdW L 2)) ((L.drop 3).map tgN) ccZ := by unfold stS; rw [h]; rfl
theorem stS_e {L : List ByteArray} {k : Int} (h : kS (rdW L 0) = k) (h1 : ¬ k = 1) (h7 : ¬ k = 7) : stS L = mkST k (tgN (rdW L 1)) 0 [] ccZ := by unfold stS; rw [h, if_neg h7, if_neg h7, if_neg (fun q => h1 q.1)]
theorem ts_S {s : ByteArray} {W : List ByteArray} (hW : W = prtD 32 s) : (s ≠ ⟨#[]⟩ ∧ stT (stS W) = s → tsY s = stS W ∧ (tsV s).isSome = true) ∧ (s = ⟨#[]⟩ ∨ ¬ stT (stS W) = s → tsY s = stZ ∧ (tsV s).isSome = false) := by
  subst hW
  refine ⟨fun h => ts_yes ((tsV_S s).1 h), fun h => ts_no ((tsV_S s).2 (fun ⟨h1, h2⟩ => ?_))⟩
  rcases h with h | h
  · exact h1 h
  · exact h h2
theorem splD_len2 (d : UInt8) : ∀ (l acc : List UInt8), (splD d acc l).length ≤ l.length + 1
  | [], acc => by simp [splD]
  | c :: l, acc => by
    rw [splD]
    split
    · have := splD_len2 d l []; simp; omega
    · have := splD_len2 d l (acc ++ [c]); simp; omega
set_option maxHeartbeats 32000000 in
set_option maxRecDepth 20000 in
theorem specTextStep_any (s : ByteArray) (w : World) (hs : s.size ≤ 1048576) : Calls Tryz.prog 5 #[.string s] w fun e w' => TsP s w e w' := by
  unfold TsP
  have B0 : Hid (Below w.heap.size w ((w.alloc (.cells #[.int .i64 0, .int .i64 0, .int .i64 0, .slice none 0 0, .int .i64 0, .int .i64 0, .string ⟨#[]⟩, .string ⟨#[]⟩, .string ⟨#[]⟩, .string ⟨#[]⟩, .int .i64 0, .bool false] 30)).alloc (.cells #[.int .i64 0, .int .i64 0, .int .i64 0, .slice none 0 0, .int .i64 0, .int .i64 0, .string ⟨#[]⟩, .string ⟨#[]⟩, .string ⟨#[]⟩, .string ⟨#[]⟩, .int .i64 0, .bool false] 30))) := below_new (below_new (Below.refl _ _))
  have K0 := hid ((Bk.new w 30 [.int .i64 0, .int .i64 0, .int .i64 0, .slice none 0 0, .int .i64 0, .int .i64 0, .string ⟨#[]⟩, .string ⟨#[]⟩, .string ⟨#[]⟩, .string ⟨#[]⟩, .int .i64 0, .bool false]).alloc (.cells #[.int .i64 0, .int .i64 0, .int .i64 0, .slice none 0 0, .int .i64 0, .int .i64 0, .string ⟨#[]⟩, .string ⟨#[]⟩, .string ⟨#[]⟩, .string ⟨#[]⟩, .int .i64 0, .bool false] 30))
  have X0 := hid (Bk.new (w.alloc (.cells #[.int .i64 0, .int .i64 0, .int .i64 0, .slice none 0 0, .int .i64 0, .int .i64 0, .string ⟨#[]⟩, .string ⟨#[]⟩, .string ⟨#[]⟩, .string ⟨#[]⟩, .int .i64 0, .bool false] 30)) 30 [.int .i64 0, .int .i64 0, .int .i64 0, .slice none 0 0, .int .i64 0, .int .i64 0, .string ⟨#[]⟩, .string ⟨#[]⟩, .string ⟨#[]⟩, .string ⟨#[]⟩, .int .i64 0, .bool false])
  rw [show (w.alloc (.cells #[.int .i64 0, .int .i64 0, .int .i64 0, .slice none 0 0, .int .i64 0, .int .i64 0, .string ⟨#[]⟩, .string ⟨#[]⟩, .string ⟨#[]⟩, .string ⟨#[]⟩, .int .i64 0, .bool false] 30)).heap.size = w.heap.size + 1 by simp] at X0
  have HUS : Hid (((w.alloc (.cells #[.int .i64 0, .int .i64 0, .int .i64 0, .slice none 0 0, .int .i64 0, .int .i64 0, .string ⟨#[]⟩, .string ⟨#[]⟩, .string ⟨#[]⟩, .string ⟨#[]⟩, .int .i64 0, .bool false] 30)).alloc (.cells #[.int .i64 0, .int .i64 0, .int .i64 0, .slice none 0 0, .int .i64 0, .int .i64 0, .string ⟨#[]⟩, .string ⟨#[]⟩, .string ⟨#[]⟩, .string ⟨#[]⟩, .int .i64 0, .bool false] 30)).heap.size = w.heap.size + 2) := by show _ = _; simp
  have C1 := hid (fun w => l07PartsD_any 32 s w hs)
  have C2 := hid (fun w => l14Words_any w)
  have d1 : ¬ w.heap.size = w.heap.size + 1 := by omega
  have d2 : ¬ w.heap.size + 1 = w.heap.size := by omega
  obtain ⟨W, hW⟩ : ∃ W, W = prtD 32 s := ⟨_, rfl⟩
  have HI := hid (ts_S hW)
  have HZ : Hid (∀ p ∈ W, p.size ≤ 1048576) := by show ∀ p ∈ _, _; rw [hW]; exact fun p hp => Nat.le_trans (prtD_size 32 s p hp) hs
  have HWL : Hid (W.length ≤ 1048577) := by
    show _ ≤ _
    rw [hW]
    unfold prtD
    rw [List.length_map]
    have := splD_len2 32 s.data.toList []
    have e : s.data.toList.length = s.size := Array.length_toList
    omega
  have HWN : Hid (0 < W.length) := by
    show _ < _
    rw [hW]
    unfold prtD
    rw [List.length_map]
    exact List.length_pos_iff.2 (splD_ne 32 _ _)
  have HWE := hid hW
  clear hW
  go_enter Tryz.func5, Tryz.ntmps5
  go_wp2_with fail
  refine (C1.out _).mono ?_
  generalize (w.alloc (.cells #[.int .i64 0, .int .i64 0, .int .i64 0, .slice none 0 0, .int .i64 0, .int .i64 0, .string ⟨#[]⟩, .string ⟨#[]⟩, .string ⟨#[]⟩, .string ⟨#[]⟩, .int .i64 0, .bool false] 30)).alloc (.cells #[.int .i64 0, .int .i64 0, .int .i64 0, .slice none 0 0, .int .i64 0, .int .i64 0, .string ⟨#[]⟩, .string ⟨#[]⟩, .string ⟨#[]⟩, .string ⟨#[]⟩, .int .i64 0, .bool false] 30) = U at *
  rintro r v1 ⟨wa, wn, wc, rfl, hO, hb⟩
  rw [← HWE.out] at hO
  have W1 : Hid (Sr v1 (fun b => w.heap.size + 2 ≤ b) (.slice wa wn wc) W) := rw_own hO (fun _ _ h _ => by have := HUS.out; omega)
  have HWn : Hid (wn = W.length) := (Rw.len W1.out).1
  have X1 := hid (X0.out.below hb)
  have K1 := hid (K0.out.below hb)
  have B1 := hid (B0.out.trans (hb.mono B0.out.size))
  have HS1 : Hid (w.heap.size + 2 ≤ v1.heap.size) := by have := hb.size; have := HUS.out; show _ ≤ _; omega
  clear hO hb X0 K0 B0 C1
  go_wp2_with fail
  refine (C2.out _).mono ?_
  rintro r v2 ⟨rfl, hk, hb⟩
  have T2 := hid hk
  have W2 := hid (W1.out.below hb)
  have X2 := hid (X1.out.below hb)
  have K2 := hid (K1.out.below hb)
  have B2 := hid (B1.out.trans (hb.mono B1.out.size))
  generalize v1.heap.size = gw at *
  have CN : Hid (∀ (v : World) (i : Nat), Sr v (fun b => w.heap.size + 2 ≤ b) (.slice wa wn wc) W → Calls Tryz.prog 17 #[.slice wa wn wc, .int .i64 i] v fun e w' => e = .returned (.int .i64 (tgN (rdW W i))) ∧ Below v.heap.size v w') := fun v i h => l14Num_any _ wa wn wc W i v h HZ.out
  clear hk hb W1 X1 K1 B1 C2
  have hwn : 0 < wn := by have := HWN.out; have := HWn.out; omega
  have hwn' : (0 : Int) < (wn : Int) := by omega
  go_wp2_with fail
  go_loopw [6, 7, 14] (fun _ _ i v => ∃ (j : Nat), i = .int .i64 j ∧ j ≤ 10 ∧ Hid (Bk v (w.heap.size + 1) 30 [.int .i64 (kT (rdW W 0) j), .int .i64 0, .int .i64 0, .slice none 0 0, .int .i64 0, .int .i64 0, .string ⟨#[]⟩, .string ⟨#[]⟩, .string ⟨#[]⟩, .string ⟨#[]⟩, .int .i64 0, .bool false]) ∧ Hid (Only (fun y => y = w.heap.size + 1) v2 v)) (fun _ _ i _ => 10 - (intOf i).toNat)
  case atStart => exact ⟨0, rfl, Nat.zero_le _, X2.out, Only.refl _ _⟩
  case round =>
    clear X2
    obtain ⟨j, rfl, hj, HX, HO⟩ := hrel
    have W3 := hid (W2.out.to HO.out (fun b hb _ q => by omega))
    by_cases hlt : j < 10
    · have hlt' : (j : Int) < 10 := by omega
      have T3 := hid (T2.out.to HO.out (by have := HS1.out; omega))
      have t0 := T3.out.cell (j := j) (sw_at hlt)
      obtain ⟨wb, wo, rfl, -, -, hcell⟩ := W3.out.at hwn
      have hc : wr.cell? ⟨wb, wo, none⟩ = some (.string (rdW W 0)) := hcell 0 hwn
      clear hcell
      by_cases hj0 : 0 < j
      · have hj0' : (0 : Int) < (j : Int) := by omega
        by_cases hq : sw (j : Int) = rdW W 0
        · have HK := hid (kT_yes (i := j) ⟨hj0, hq⟩)
          have he : ((sw (j : Int)).toList == (rdW W 0).toList) = true := by rw [hq]; exact bl_same _
          clear hq
          generalize sw (j : Int) = u1 at *
          have x0 := HX.out.cell (j := 0) rfl
          have f0 := HX.out.free 0
          have X3 : Hid (Bk (wr.setCell ⟨w.heap.size + 1, 0, none⟩ (.int .i64 j)) (w.heap.size + 1) 30 [.int .i64 (kT (rdW W 0) (j + 1)), .int .i64 0, .int .i64 0, .slice none 0 0, .int .i64 0, .int .i64 0, .string ⟨#[]⟩, .string ⟨#[]⟩, .string ⟨#[]⟩, .string ⟨#[]⟩, .int .i64 0, .bool false]) := by
            show Bk _ _ _ _
            rw [HK.out]
            exact HX.out.set 0 _
          have O3 : Hid (Only (fun y => y = w.heap.size + 1) v2 (wr.setCell ⟨w.heap.size + 1, 0, none⟩ (.int .i64 j))) := HO.out.trans (only_set (R := fun y => y = w.heap.size + 1) (p := ⟨w.heap.size + 1, 0, none⟩) rfl _)
          clear HK HX HO W3 T3
          go_wp2
          go_roundw
          case rel => exact ⟨j + 1, by go_num, by omega, X3.out, O3.out⟩
          case measure => simp [intOf]; omega
        · have X3 : Hid (Bk wr (w.heap.size + 1) 30 [.int .i64 (kT (rdW W 0) (j + 1)), .int .i64 0, .int .i64 0, .slice none 0 0, .int .i64 0, .int .i64 0, .string ⟨#[]⟩, .string ⟨#[]⟩, .string ⟨#[]⟩, .string ⟨#[]⟩, .int .i64 0, .bool false]) := by show Bk _ _ _ _; rw [kT_no (i := j) (fun h => hq h.2)]; exact HX.out
          have he : ((sw (j : Int)).toList == (rdW W 0).toList) = false := str_ne hq
          clear hq HX W3 T3
          generalize sw (j : Int) = u1 at *
          go_wp2
          go_roundw
          case rel => exact ⟨j + 1, by go_num, by omega, X3.out, HO.out⟩
          case measure => simp [intOf]; omega
      · have X3 : Hid (Bk wr (w.heap.size + 1) 30 [.int .i64 (kT (rdW W 0) (j + 1)), .int .i64 0, .int .i64 0, .slice none 0 0, .int .i64 0, .int .i64 0, .string ⟨#[]⟩, .string ⟨#[]⟩, .string ⟨#[]⟩, .string ⟨#[]⟩, .int .i64 0, .bool false]) := by show Bk _ _ _ _; rw [kT_no (i := j) (fun h => hj0 h.1)]; exact HX.out
        have hj0' : ¬ (0 : Int) < (j : Int) := by omega
        clear HX W3 T3 hc
        go_wp2
        go_roundw
        case rel => exact ⟨j + 1, by go_num, by omega, X3.out, HO.out⟩
        case measure => simp [intOf]; omega
    · obtain rfl : j = 10 := by omega
      have K4 := hid (K2.out.to HO.out (by omega))
      have B4 := hid (B2.out.trans (HO.out.below B2.out.size (fun b hb q => by omega)))
      have W4 := W3
      rw [kT_S] at HX
      have X4 := HX
      clear W2 K2 B2 T2 HX HO W3 hj hlt
      generalize wr = v4 at *
      obtain ⟨kk, hkk⟩ : ∃ x, kS (rdW W 0) = x := ⟨_, rfl⟩
      rw [hkk] at X4
      by_cases h1 : kk = 1
      · subst h1
        by_cases h2 : 2 < wn
        · have HSY := hid (stS_1 hkk (by rw [← HWn.out]; exact h2))
          clear hkk
          have h2' : (2 : Int) < (wn : Int) := by omega
          have h2'' : (2 : Int) ≤ (wn : Int) := by omega
          have CA := hid (CN.out v4 1 W4.out)
          go_wp2_with fail
          refine CA.out.mono ?_
          rintro r v5 ⟨rfl, hb⟩
          have X5 := hid (X4.out.below hb)
          have K5 := hid (K4.out.below hb)
          have B5 := hid (B4.out.trans (hb.mono B4.out.size))
          have W5 := hid (W4.out.below hb)
          clear hb X4 K4 B4 W4 CA
          have x0 := X5.out.cell (j := 0) rfl
          have x1 := X5.out.cell (j := 1) rfl
          have f1 := X5.out.free 1
          have X6 : Hid (Bk (v5.setCell ⟨w.heap.size + 1, 1, none⟩ (.int .i64 (tgN (rdW W 1)))) (w.heap.size + 1) 30 [.int .i64 1, .int .i64 (tgN (rdW W 1)), .int .i64 0, .slice none 0 0, .int .i64 0, .int .i64 0, .string ⟨#[]⟩, .string ⟨#[]⟩, .string ⟨#[]⟩, .string ⟨#[]⟩, .int .i64 0, .bool false]) := (X5.out.set 1 _)
          have OX : Hid (Only (fun y => y = w.heap.size + 1) v5 (v5.setCell ⟨w.heap.size + 1, 1, none⟩ (.int .i64 (tgN (rdW W 1))))) := (only_set (R := fun y => y = w.heap.size + 1) (p := ⟨w.heap.size + 1, 1, none⟩) rfl _)
          have K6 := hid (K5.out.to OX.out (by omega))
          have B6 := hid (B5.out.trans (OX.out.below B5.out.size (fun b hb q => by omega)))
          have W6 := hid (W5.out.to OX.out (fun b hb _ q => by omega))
          clear OX X5 K5 B5 W5
          obtain ⟨wb, wo, rfl, -, -, -⟩ := W6.out.at hwn
          have WD : Hid (Sr (v5.setCell ⟨w.heap.size + 1, 1, none⟩ (.int .i64 (tgN (rdW W 1)))) (fun b => w.heap.size + 2 ≤ b) (.slice (some ⟨wb, wo + 2, none⟩) (wn - 2) (wc - 2)) (W.drop 2)) := sr_drop W6.out (by omega)
          have CC := l14ReadCall_any _ _ _ _ _ _ WD.out (fun p hp => HZ.out p (List.mem_of_mem_drop hp))
          have HSYc := HSY.out
          clear HSY
          generalize ccS (W.drop 2) = cv at *
          obtain ⟨c0, c1, c2, c3, c4, c5, c6, c7⟩ := cv
          dsimp only at CC
          have HSY : Hid (stS W = ⟨1, tgN (rdW W 1), 0, [], c0, c1, c2, c3, c4, c5, c6, c7⟩) := HSYc
          have CD := hid CC
          have hcap : wn ≤ wc := (Rw.len W6.out).2.1
          have hcap' : (wn : Int) ≤ (wc : Int) := by omega
          clear CC HSYc
          go_wp2_with fail
          refine CD.out.mono ?_
          generalize v5.setCell ⟨w.heap.size + 1, 1, none⟩ (.int .i64 (tgN (rdW W 1))) = v6 at *
          clear x0 x1 f1
          rintro r v7 ⟨rfl, hb⟩
          have X7 := hid (X6.out.below hb)
          have K7 := hid (K6.out.below hb)
          have B7 := hid (B6.out.trans (hb.mono B6.out.size))
          have W7 := hid (W6.out.below hb)
          clear hb CD WD X6 K6 B6 W6
          have x0 := X7.out.cell (j := 0) rfl
          have f0 := X7.out.free 0
          have x1 := X7.out.cell (j := 1) rfl
          have f1 := X7.out.free 1
          have x2 := X7.out.cell (j := 2) rfl
          have f2 := X7.out.free 2
          have x3 := X7.out.cell (j := 3) rfl
          have f3 := X7.out.free 3
          have x4 := X7.out.cell (j := 4) rfl
          have f4 := X7.out.free 4
          have x5 := X7.out.cell (j := 5) rfl
          have f5 := X7.out.free 5
          have x6 := X7.out.cell (j := 6) rfl
          have f6 := X7.out.free 6
          have x7 := X7.out.cell (j := 7) rfl
          have f7 := X7.out.free 7
          have x8 := X7.out.cell (j := 8) rfl
          have f8 := X7.out.free 8
          have x9 := X7.out.cell (j := 9) rfl
          have f9 := X7.out.free 9
          have x10 := X7.out.cell (j := 10) rfl
          have f10 := X7.out.free 10
          have x11 := X7.out.cell (j := 11) rfl
          have f11 := X7.out.free 11
          have X8 : Hid (Bk ((((((((v7.setCell ⟨w.heap.size + 1, 4, none⟩ (.int .i64 c0)).setCell ⟨w.heap.size + 1, 5, none⟩ (.int .i64 c1)).setCell ⟨w.heap.size + 1, 6, none⟩ (.string c2)).setCell ⟨w.heap.size + 1, 7, none⟩ (.string c3)).setCell ⟨w.heap.size + 1, 8, none⟩ (.string c4)).setCell ⟨w.heap.size + 1, 9, none⟩ (.string c5)).setCell ⟨w.heap.size + 1, 10, none⟩ (.int .i64 c6)).setCell ⟨w.heap.size + 1, 11, none⟩ (.bool c7)) (w.heap.size + 1) 30 [.int .i64 1, .int .i64 (tgN (rdW W 1)), .int .i64 0, .slice none 0 0, .int .i64 c0, .int .i64 c1, .string c2, .string c3, .string c4, .string c5, .int .i64 c6, .bool c7]) := ((((((((X7.out.set 4 _).set 5 _).set 6 _).set 7 _).set 8 _).set 9 _).set 10 _).set 11 _)
          have OX : Hid (Only (fun y => y = w.heap.size + 1) v7 ((((((((v7.setCell ⟨w.heap.size + 1, 4, none⟩ (.int .i64 c0)).setCell ⟨w.heap.size + 1, 5, none⟩ (.int .i64 c1)).setCell ⟨w.heap.size + 1, 6, none⟩ (.string c2)).setCell ⟨w.heap.size + 1, 7, none⟩ (.string c3)).setCell ⟨w.heap.size + 1, 8, none⟩ (.string c4)).setCell ⟨w.heap.size + 1, 9, none⟩ (.string c5)).setCell ⟨w.heap.size + 1, 10, none⟩ (.int .i64 c6)).setCell ⟨w.heap.size + 1, 11, none⟩ (.bool c7))) := (only_step (only_step (only_step (only_step (only_step (only_step (only_step (only_set (R := fun y => y = w.heap.size + 1) (p := ⟨w.heap.size + 1, 4, none⟩) rfl _) rfl 5 _) rfl 6 _) rfl 7 _) rfl 8 _) rfl 9 _) rfl 10 _) rfl 11 _)
          have K8 := hid (K7.out.to OX.out (by omega))
          have B8 := hid (B7.out.trans (OX.out.below B7.out.size (fun b hb q => by omega)))
          have W8 := hid (W7.out.to OX.out (fun b hb _ q => by omega))
          clear OX X7 K7 B7 W7
          go_upto_region 18 with (fail)
          generalize (((((((v7.setCell ⟨w.heap.size + 1, 4, none⟩ (.int .i64 c0)).setCell ⟨w.heap.size + 1, 5, none⟩ (.int .i64 c1)).setCell ⟨w.heap.size + 1, 6, none⟩ (.string c2)).setCell ⟨w.heap.size + 1, 7, none⟩ (.string c3)).setCell ⟨w.heap.size + 1, 8, none⟩ (.string c4)).setCell ⟨w.heap.size + 1, 9, none⟩ (.string c5)).setCell ⟨w.heap.size + 1, 10, none⟩ (.int .i64 c6)).setCell ⟨w.heap.size + 1, 11, none⟩ (.bool c7) = v8 at *
          clear x0 f0 x1 f1 x2 f2 x3 f3 x4 f4 x5 f5 x6 f6 x7 f7 x8 f8 x9 f9 x10 f10 x11 f11
          by_cases he : s = ⟨#[]⟩
          · have HV := hid (HI.out.2 (.inl he))
            have h0 : s.toList = [] := wb_nil.2 (by rw [he]; rfl)
            have h1 : s.toList.isEmpty = true := by rw [h0]; rfl
            clear he HI
            go_upto_region 19 with (fail)
            clear h0 h1
            have r0 := K8.out.cell (j := 0) rfl
            have rf0 := K8.out.free 0
            have r1 := K8.out.cell (j := 1) rfl
            have rf1 := K8.out.free 1
            have r2 := K8.out.cell (j := 2) rfl
            have rf2 := K8.out.free 2
            have r3 := K8.out.cell (j := 3) rfl
            have rf3 := K8.out.free 3
            have r4 := K8.out.cell (j := 4) rfl
            have rf4 := K8.out.free 4
            have r5 := K8.out.cell (j := 5) rfl
            have rf5 := K8.out.free 5
            have r6 := K8.out.cell (j := 6) rfl
            have rf6 := K8.out.free 6
            have r7 := K8.out.cell (j := 7) rfl
            have rf7 := K8.out.free 7
            have r8 := K8.out.cell (j := 8) rfl
            have rf8 := K8.out.free 8
            have r9 := K8.out.cell (j := 9) rfl
            have rf9 := K8.out.free 9
            have r10 := K8.out.cell (j := 10) rfl
            have rf10 := K8.out.free 10
            have r11 := K8.out.cell (j := 11) rfl
            have rf11 := K8.out.free 11
            have KF : Hid (Bk ((((((((((((v8.setCell ⟨w.heap.size, 0, none⟩ (.int .i64 0)).setCell ⟨w.heap.size, 1, none⟩ (.int .i64 0)).setCell ⟨w.heap.size, 2, none⟩ (.int .i64 0)).setCell ⟨w.heap.size, 3, none⟩ (.slice none 0 0)).setCell ⟨w.heap.size, 4, none⟩ (.int .i64 0)).setCell ⟨w.heap.size, 5, none⟩ (.int .i64 0)).setCell ⟨w.heap.size, 6, none⟩ (.string ⟨#[]⟩)).setCell ⟨w.heap.size, 7, none⟩ (.string ⟨#[]⟩)).setCell ⟨w.heap.size, 8, none⟩ (.string ⟨#[]⟩)).setCell ⟨w.heap.size, 9, none⟩ (.string ⟨#[]⟩)).setCell ⟨w.heap.size, 10, none⟩ (.int .i64 0)).setCell ⟨w.heap.size, 11, none⟩ (.bool false)) w.heap.size 30 [.int .i64 0, .int .i64 0, .int .i64 0, .slice none 0 0, .int .i64 0, .int .i64 0, .string ⟨#[]⟩, .string ⟨#[]⟩, .string ⟨#[]⟩, .string ⟨#[]⟩, .int .i64 0, .bool false]) := ((((((((((((K8.out.set 0 _).set 1 _).set 2 _).set 3 _).set 4 _).set 5 _).set 6 _).set 7 _).set 8 _).set 9 _).set 10 _).set 11 _)
            have OS : Hid (Only (fun y => y = w.heap.size) v8 ((((((((((((v8.setCell ⟨w.heap.size, 0, none⟩ (.int .i64 0)).setCell ⟨w.heap.size, 1, none⟩ (.int .i64 0)).setCell ⟨w.heap.size, 2, none⟩ (.int .i64 0)).setCell ⟨w.heap.size, 3, none⟩ (.slice none 0 0)).setCell ⟨w.heap.size, 4, none⟩ (.int .i64 0)).setCell ⟨w.heap.size, 5, none⟩ (.int .i64 0)).setCell ⟨w.heap.size, 6, none⟩ (.string ⟨#[]⟩)).setCell ⟨w.heap.size, 7, none⟩ (.string ⟨#[]⟩)).setCell ⟨w.heap.size, 8, none⟩ (.string ⟨#[]⟩)).setCell ⟨w.heap.size, 9, none⟩ (.string ⟨#[]⟩)).setCell ⟨w.heap.size, 10, none⟩ (.int .i64 0)).setCell ⟨w.heap.size, 11, none⟩ (.bool false))) := (only_step (only_step (only_step (only_step (only_step (only_step (only_step (only_step (only_step (only_step (only_step (only_set (R := fun y => y = w.heap.size) (p := ⟨w.heap.size, 0, none⟩) rfl _) rfl 1 _) rfl 2 _) rfl 3 _) rfl 4 _) rfl 5 _) rfl 6 _) rfl 7 _) rfl 8 _) rfl 9 _) rfl 10 _) rfl 11 _)
            have OFx : Hid (True ∨ Only (At 0) w ((((((((((((v8.setCell ⟨w.heap.size, 0, none⟩ (.int .i64 0)).setCell ⟨w.heap.size, 1, none⟩ (.int .i64 0)).setCell ⟨w.heap.size, 2, none⟩ (.int .i64 0)).setCell ⟨w.heap.size, 3, none⟩ (.slice none 0 0)).setCell ⟨w.heap.size, 4, none⟩ (.int .i64 0)).setCell ⟨w.heap.size, 5, none⟩ (.int .i64 0)).setCell ⟨w.heap.size, 6, none⟩ (.string ⟨#[]⟩)).setCell ⟨w.heap.size, 7, none⟩ (.string ⟨#[]⟩)).setCell ⟨w.heap.size, 8, none⟩ (.string ⟨#[]⟩)).setCell ⟨w.heap.size, 9, none⟩ (.string ⟨#[]⟩)).setCell ⟨w.heap.size, 10, none⟩ (.int .i64 0)).setCell ⟨w.heap.size, 11, none⟩ (.bool false))) := .inl trivial
            have BF := hid (B8.out.trans (OS.out.below B8.out.size (fun b hb q => by omega)))
            go_wp2
            try simp only [Exit.inBlock, Exit.then]
            refine bodyPost_ret (v := .tuple #[.agg #[.int .i64 0, .int .i64 0, .int .i64 0, .slice none 0 0, .int .i64 0, .int .i64 0, .string ⟨#[]⟩, .string ⟨#[]⟩, .string ⟨#[]⟩, .string ⟨#[]⟩, .int .i64 0, .bool false], .bool false]) ?_ rfl ?_
            · exact results_stepb rfl _ _ _ rfl rfl (KF.out.cell (j := 0) rfl) (KF.out.cell (j := 1) rfl) (KF.out.cell (j := 2) rfl) (KF.out.cell (j := 3) rfl) (KF.out.cell (j := 4) rfl) (KF.out.cell (j := 5) rfl) (KF.out.cell (j := 6) rfl) (KF.out.cell (j := 7) rfl) (KF.out.cell (j := 8) rfl) (KF.out.cell (j := 9) rfl) (KF.out.cell (j := 10) rfl) (KF.out.cell (j := 11) rfl)
            · exact ⟨none, 0, 0, by rw [HV.out.1, HV.out.2]; try rfl, by rw [HV.out.1]; exact World.ownsRow_nil _ _ _ _, BF.out⟩
          have h0 : ¬ (s.toList = []) := fun q => he (ByteArray.size_eq_zero_iff.1 (wb_nil.1 q))
          have h1 : s.toList.isEmpty = false := by
            cases q : s.toList with
            | nil => exact absurd q h0
            | cons _ _ => rfl
          have x0 := X8.out.cell (j := 0) rfl
          have x1 := X8.out.cell (j := 1) rfl
          have x2 := X8.out.cell (j := 2) rfl
          have x3 := X8.out.cell (j := 3) rfl
          have x4 := X8.out.cell (j := 4) rfl
          have x5 := X8.out.cell (j := 5) rfl
          have x6 := X8.out.cell (j := 6) rfl
          have x7 := X8.out.cell (j := 7) rfl
          have x8 := X8.out.cell (j := 8) rfl
          have x9 := X8.out.cell (j := 9) rfl
          have x10 := X8.out.cell (j := 10) rfl
          have x11 := X8.out.cell (j := 11) rfl
          have CS := hid (specStepText_any _ (1) (tgN (rdW W 1)) (0) none 0 0 ([]) (c0) (c1) (c2) (c3) (c4) (c5) (c6) (c7) _ (show Ir v8 (fun b => w.heap.size + 2 ≤ b) (.slice none 0 0) [] from rw_nil _ _) (by decide))
          go_wp2_with fail
          refine CS.out.mono ?_
          rintro r v90 ⟨rfl, hb⟩
          have X90 := hid (X8.out.below hb)
          have B90 := hid (B8.out.trans (hb.mono B8.out.size))
          have K90 := hid (K8.out.below hb)
          rw [← HSY.out]
          clear hb X8 B8 K8 CS h0 h1 x0 x1 x2 x3 x4 x5 x6 x7 x8 x9 x10 x11
          by_cases hq : stT (stS W) = s
          · have HV := hid (HI.out.1 ⟨he, hq⟩)
            have hne : (s.toList == s.toList) = true := bl_same s
            rw [hq]
            clear hq he HI
            go_upto_region 20 with (fail)
            clear hne
            have x0 := X90.out.cell (j := 0) rfl
            have x1 := X90.out.cell (j := 1) rfl
            have x2 := X90.out.cell (j := 2) rfl
            have x3 := X90.out.cell (j := 3) rfl
            have x4 := X90.out.cell (j := 4) rfl
            have x5 := X90.out.cell (j := 5) rfl
            have x6 := X90.out.cell (j := 6) rfl
            have x7 := X90.out.cell (j := 7) rfl
            have x8 := X90.out.cell (j := 8) rfl
            have x9 := X90.out.cell (j := 9) rfl
            have x10 := X90.out.cell (j := 10) rfl
            have x11 := X90.out.cell (j := 11) rfl
            have r0 := K90.out.cell (j := 0) rfl
            have rf0 := K90.out.free 0
            have r1 := K90.out.cell (j := 1) rfl
            have rf1 := K90.out.free 1
            have r2 := K90.out.cell (j := 2) rfl
            have rf2 := K90.out.free 2
            have r3 := K90.out.cell (j := 3) rfl
            have rf3 := K90.out.free 3
            have r4 := K90.out.cell (j := 4) rfl
            have rf4 := K90.out.free 4
            have r5 := K90.out.cell (j := 5) rfl
            have rf5 := K90.out.free 5
            have r6 := K90.out.cell (j := 6) rfl
            have rf6 := K90.out.free 6
            have r7 := K90.out.cell (j := 7) rfl
            have rf7 := K90.out.free 7
            have r8 := K90.out.cell (j := 8) rfl
            have rf8 := K90.out.free 8
            have r9 := K90.out.cell (j := 9) rfl
            have rf9 := K90.out.free 9
            have r10 := K90.out.cell (j := 10) rfl
            have rf10 := K90.out.free 10
            have r11 := K90.out.cell (j := 11) rfl
            have rf11 := K90.out.free 11
            have KF : Hid (Bk ((((((((((((v90.setCell ⟨w.heap.size, 0, none⟩ (.int .i64 1)).setCell ⟨w.heap.size, 1, none⟩ (.int .i64 (tgN (rdW W 1)))).setCell ⟨w.heap.size, 2, none⟩ (.int .i64 0)).setCell ⟨w.heap.size, 3, none⟩ (.slice none 0 0)).setCell ⟨w.heap.size, 4, none⟩ (.int .i64 c0)).setCell ⟨w.heap.size, 5, none⟩ (.int .i64 c1)).setCell ⟨w.heap.size, 6, none⟩ (.string c2)).setCell ⟨w.heap.size, 7, none⟩ (.string c3)).setCell ⟨w.heap.size, 8, none⟩ (.string c4)).setCell ⟨w.heap.size, 9, none⟩ (.string c5)).setCell ⟨w.heap.size, 10, none⟩ (.int .i64 c6)).setCell ⟨w.heap.size, 11, none⟩ (.bool c7)) w.heap.size 30 [.int .i64 1, .int .i64 (tgN (rdW W 1)), .int .i64 0, .slice none 0 0, .int .i64 c0, .int .i64 c1, .string c2, .string c3, .string c4, .string c5, .int .i64 c6, .bool c7]) := ((((((((((((K90.out.set 0 _).set 1 _).set 2 _).set 3 _).set 4 _).set 5 _).set 6 _).set 7 _).set 8 _).set 9 _).set 10 _).set 11 _)
            have OS : Hid (Only (fun y => y = w.heap.size) v90 ((((((((((((v90.setCell ⟨w.heap.size, 0, none⟩ (.int .i64 1)).setCell ⟨w.heap.size, 1, none⟩ (.int .i64 (tgN (rdW W 1)))).setCell ⟨w.heap.size, 2, none⟩ (.int .i64 0)).setCell ⟨w.heap.size, 3, none⟩ (.slice none 0 0)).setCell ⟨w.heap.size, 4, none⟩ (.int .i64 c0)).setCell ⟨w.heap.size, 5, none⟩ (.int .i64 c1)).setCell ⟨w.heap.size, 6, none⟩ (.string c2)).setCell ⟨w.heap.size, 7, none⟩ (.string c3)).setCell ⟨w.heap.size, 8, none⟩ (.string c4)).setCell ⟨w.heap.size, 9, none⟩ (.string c5)).setCell ⟨w.heap.size, 10, none⟩ (.int .i64 c6)).setCell ⟨w.heap.size, 11, none⟩ (.bool c7))) := (only_step (only_step (only_step (only_step (only_step (only_step (only_step (only_step (only_step (only_step (only_step (only_set (R := fun y => y = w.heap.size) (p := ⟨w.heap.size, 0, none⟩) rfl _) rfl 1 _) rfl 2 _) rfl 3 _) rfl 4 _) rfl 5 _) rfl 6 _) rfl 7 _) rfl 8 _) rfl 9 _) rfl 10 _) rfl 11 _)
            have OFx : Hid (True ∨ Only (At 0) w ((((((((((((v90.setCell ⟨w.heap.size, 0, none⟩ (.int .i64 1)).setCell ⟨w.heap.size, 1, none⟩ (.int .i64 (tgN (rdW W 1)))).setCell ⟨w.heap.size, 2, none⟩ (.int .i64 0)).setCell ⟨w.heap.size, 3, none⟩ (.slice none 0 0)).setCell ⟨w.heap.size, 4, none⟩ (.int .i64 c0)).setCell ⟨w.heap.size, 5, none⟩ (.int .i64 c1)).setCell ⟨w.heap.size, 6, none⟩ (.string c2)).setCell ⟨w.heap.size, 7, none⟩ (.string c3)).setCell ⟨w.heap.size, 8, none⟩ (.string c4)).setCell ⟨w.heap.size, 9, none⟩ (.string c5)).setCell ⟨w.heap.size, 10, none⟩ (.int .i64 c6)).setCell ⟨w.heap.size, 11, none⟩ (.bool c7))) := .inl trivial
            have BF := hid (B90.out.trans (OS.out.below B90.out.size (fun b hb q => by omega)))
            rw [HSY.out] at HV
            go_wp2
            try simp only [Exit.inBlock, Exit.then]
            refine bodyPost_ret (v := .tuple #[.agg #[.int .i64 1, .int .i64 (tgN (rdW W 1)), .int .i64 0, .slice none 0 0, .int .i64 c0, .int .i64 c1, .string c2, .string c3, .string c4, .string c5, .int .i64 c6, .bool c7], .bool true]) ?_ rfl ?_
            · exact results_stepb rfl _ _ _ rfl rfl (KF.out.cell (j := 0) rfl) (KF.out.cell (j := 1) rfl) (KF.out.cell (j := 2) rfl) (KF.out.cell (j := 3) rfl) (KF.out.cell (j := 4) rfl) (KF.out.cell (j := 5) rfl) (KF.out.cell (j := 6) rfl) (KF.out.cell (j := 7) rfl) (KF.out.cell (j := 8) rfl) (KF.out.cell (j := 9) rfl) (KF.out.cell (j := 10) rfl) (KF.out.cell (j := 11) rfl)
            · exact ⟨none, 0, 0, by rw [HV.out.1, HV.out.2]; try rfl, by rw [HV.out.1]; exact World.ownsRow_nil _ _ _ _, BF.out⟩
          · have HV := hid (HI.out.2 (.inr hq))
            have hne : ((stT (stS W)).toList == s.toList) = false := str_ne hq
            clear hq he HI
            go_upto_region 19 with (fail)
            clear hne
            have r0 := K90.out.cell (j := 0) rfl
            have rf0 := K90.out.free 0
            have r1 := K90.out.cell (j := 1) rfl
            have rf1 := K90.out.free 1
            have r2 := K90.out.cell (j := 2) rfl
            have rf2 := K90.out.free 2
            have r3 := K90.out.cell (j := 3) rfl
            have rf3 := K90.out.free 3
            have r4 := K90.out.cell (j := 4) rfl
            have rf4 := K90.out.free 4
            have r5 := K90.out.cell (j := 5) rfl
            have rf5 := K90.out.free 5
            have r6 := K90.out.cell (j := 6) rfl
            have rf6 := K90.out.free 6
            have r7 := K90.out.cell (j := 7) rfl
            have rf7 := K90.out.free 7
            have r8 := K90.out.cell (j := 8) rfl
            have rf8 := K90.out.free 8
            have r9 := K90.out.cell (j := 9) rfl
            have rf9 := K90.out.free 9
            have r10 := K90.out.cell (j := 10) rfl
            have rf10 := K90.out.free 10
            have r11 := K90.out.cell (j := 11) rfl
            have rf11 := K90.out.free 11
            have KF : Hid (Bk ((((((((((((v90.setCell ⟨w.heap.size, 0, none⟩ (.int .i64 0)).setCell ⟨w.heap.size, 1, none⟩ (.int .i64 0)).setCell ⟨w.heap.size, 2, none⟩ (.int .i64 0)).setCell ⟨w.heap.size, 3, none⟩ (.slice none 0 0)).setCell ⟨w.heap.size, 4, none⟩ (.int .i64 0)).setCell ⟨w.heap.size, 5, none⟩ (.int .i64 0)).setCell ⟨w.heap.size, 6, none⟩ (.string ⟨#[]⟩)).setCell ⟨w.heap.size, 7, none⟩ (.string ⟨#[]⟩)).setCell ⟨w.heap.size, 8, none⟩ (.string ⟨#[]⟩)).setCell ⟨w.heap.size, 9, none⟩ (.string ⟨#[]⟩)).setCell ⟨w.heap.size, 10, none⟩ (.int .i64 0)).setCell ⟨w.heap.size, 11, none⟩ (.bool false)) w.heap.size 30 [.int .i64 0, .int .i64 0, .int .i64 0, .slice none 0 0, .int .i64 0, .int .i64 0, .string ⟨#[]⟩, .string ⟨#[]⟩, .string ⟨#[]⟩, .string ⟨#[]⟩, .int .i64 0, .bool false]) := ((((((((((((K90.out.set 0 _).set 1 _).set 2 _).set 3 _).set 4 _).set 5 _).set 6 _).set 7 _).set 8 _).set 9 _).set 10 _).set 11 _)
            have OS : Hid (Only (fun y => y = w.heap.size) v90 ((((((((((((v90.setCell ⟨w.heap.size, 0, none⟩ (.int .i64 0)).setCell ⟨w.heap.size, 1, none⟩ (.int .i64 0)).setCell ⟨w.heap.size, 2, none⟩ (.int .i64 0)).setCell ⟨w.heap.size, 3, none⟩ (.slice none 0 0)).setCell ⟨w.heap.size, 4, none⟩ (.int .i64 0)).setCell ⟨w.heap.size, 5, none⟩ (.int .i64 0)).setCell ⟨w.heap.size, 6, none⟩ (.string ⟨#[]⟩)).setCell ⟨w.heap.size, 7, none⟩ (.string ⟨#[]⟩)).setCell ⟨w.heap.size, 8, none⟩ (.string ⟨#[]⟩)).setCell ⟨w.heap.size, 9, none⟩ (.string ⟨#[]⟩)).setCell ⟨w.heap.size, 10, none⟩ (.int .i64 0)).setCell ⟨w.heap.size, 11, none⟩ (.bool false))) := (only_step (only_step (only_step (only_step (only_step (only_step (only_step (only_step (only_step (only_step (only_step (only_set (R := fun y => y = w.heap.size) (p := ⟨w.heap.size, 0, none⟩) rfl _) rfl 1 _) rfl 2 _) rfl 3 _) rfl 4 _) rfl 5 _) rfl 6 _) rfl 7 _) rfl 8 _) rfl 9 _) rfl 10 _) rfl 11 _)
            have OFx : Hid (True ∨ Only (At 0) w ((((((((((((v90.setCell ⟨w.heap.size, 0, none⟩ (.int .i64 0)).setCell ⟨w.heap.size, 1, none⟩ (.int .i64 0)).setCell ⟨w.heap.size, 2, none⟩ (.int .i64 0)).setCell ⟨w.heap.size, 3, none⟩ (.slice none 0 0)).setCell ⟨w.heap.size, 4, none⟩ (.int .i64 0)).setCell ⟨w.heap.size, 5, none⟩ (.int .i64 0)).setCell ⟨w.heap.size, 6, none⟩ (.string ⟨#[]⟩)).setCell ⟨w.heap.size, 7, none⟩ (.string ⟨#[]⟩)).setCell ⟨w.heap.size, 8, none⟩ (.string ⟨#[]⟩)).setCell ⟨w.heap.size, 9, none⟩ (.string ⟨#[]⟩)).setCell ⟨w.heap.size, 10, none⟩ (.int .i64 0)).setCell ⟨w.heap.size, 11, none⟩ (.bool false))) := .inl trivial
            have BF := hid (B90.out.trans (OS.out.below B90.out.size (fun b hb q => by omega)))
            go_wp2
            try simp only [Exit.inBlock, Exit.then]
            refine bodyPost_ret (v := .tuple #[.agg #[.int .i64 0, .int .i64 0, .int .i64 0, .slice none 0 0, .int .i64 0, .int .i64 0, .string ⟨#[]⟩, .string ⟨#[]⟩, .string ⟨#[]⟩, .string ⟨#[]⟩, .int .i64 0, .bool false], .bool false]) ?_ rfl ?_
            · exact results_stepb rfl _ _ _ rfl rfl (KF.out.cell (j := 0) rfl) (KF.out.cell (j := 1) rfl) (KF.out.cell (j := 2) rfl) (KF.out.cell (j := 3) rfl) (KF.out.cell (j := 4) rfl) (KF.out.cell (j := 5) rfl) (KF.out.cell (j := 6) rfl) (KF.out.cell (j := 7) rfl) (KF.out.cell (j := 8) rfl) (KF.out.cell (j := 9) rfl) (KF.out.cell (j := 10) rfl) (KF.out.cell (j := 11) rfl)
            · exact ⟨none, 0, 0, by rw [HV.out.1, HV.out.2]; try rfl, by rw [HV.out.1]; exact World.ownsRow_nil _ _ _ _, BF.out⟩
        · have HSY : Hid (stS W = ⟨1, tgN (rdW W 1), 0, [], 0, 0, ⟨#[]⟩, ⟨#[]⟩, ⟨#[]⟩, ⟨#[]⟩, 0, false⟩) := stS_1n hkk (by rw [← HWn.out]; exact h2)
          clear hkk
          have h2' : ¬ (2 : Int) < (wn : Int) := by omega
          have CA := hid (CN.out v4 1 W4.out)
          go_wp2_with fail
          refine CA.out.mono ?_
          rintro r v5 ⟨rfl, hb⟩
          have X5 := hid (X4.out.below hb)
          have K5 := hid (K4.out.below hb)
          have B5 := hid (B4.out.trans (hb.mono B4.out.size))
          have W5 := hid (W4.out.below hb)
          clear hb X4 K4 B4 W4 CA
          have x0 := X5.out.cell (j := 0) rfl
          have x1 := X5.out.cell (j := 1) rfl
          have f1 := X5.out.free 1
          have X6 : Hid (Bk (v5.setCell ⟨w.heap.size + 1, 1, none⟩ (.int .i64 (tgN (rdW W 1)))) (w.heap.size + 1) 30 [.int .i64 1, .int .i64 (tgN (rdW W 1)), .int .i64 0, .slice none 0 0, .int .i64 0, .int .i64 0, .string ⟨#[]⟩, .string ⟨#[]⟩, .string ⟨#[]⟩, .string ⟨#[]⟩, .int .i64 0, .bool false]) := (X5.out.set 1 _)
          have OX : Hid (Only (fun y => y = w.heap.size + 1) v5 (v5.setCell ⟨w.heap.size + 1, 1, none⟩ (.int .i64 (tgN (rdW W 1))))) := (only_set (R := fun y => y = w.heap.size + 1) (p := ⟨w.heap.size + 1, 1, none⟩) rfl _)
          have K6 := hid (K5.out.to OX.out (by omega))
          have B6 := hid (B5.out.trans (OX.out.below B5.out.size (fun b hb q => by omega)))
          have W6 := hid (W5.out.to OX.out (fun b hb _ q => by omega))
          clear OX X5 K5 B5 W5
          go_upto_region 18 with (fail)
          generalize v5.setCell ⟨w.heap.size + 1, 1, none⟩ (.int .i64 (tgN (rdW W 1))) = v6 at *
          clear x0 x1 f1
          by_cases he : s = ⟨#[]⟩
          · have HV := hid (HI.out.2 (.inl he))
            have h0 : s.toList = [] := wb_nil.2 (by rw [he]; rfl)
            have h1 : s.toList.isEmpty = true := by rw [h0]; rfl
            clear he HI
            go_upto_region 19 with (fail)
            clear h0 h1
            have r0 := K6.out.cell (j := 0) rfl
            have rf0 := K6.out.free 0
            have r1 := K6.out.cell (j := 1) rfl
            have rf1 := K6.out.free 1
            have r2 := K6.out.cell (j := 2) rfl
            have rf2 := K6.out.free 2
            have r3 := K6.out.cell (j := 3) rfl
            have rf3 := K6.out.free 3
            have r4 := K6.out.cell (j := 4) rfl
            have rf4 := K6.out.free 4
            have r5 := K6.out.cell (j := 5) rfl
            have rf5 := K6.out.free 5
            have r6 := K6.out.cell (j := 6) rfl
            have rf6 := K6.out.free 6
            have r7 := K6.out.cell (j := 7) rfl
            have rf7 := K6.out.free 7
            have r8 := K6.out.cell (j := 8) rfl
            have rf8 := K6.out.free 8
            have r9 := K6.out.cell (j := 9) rfl
            have rf9 := K6.out.free 9
            have r10 := K6.out.cell (j := 10) rfl
            have rf10 := K6.out.free 10
            have r11 := K6.out.cell (j := 11) rfl
            have rf11 := K6.out.free 11
            have KF : Hid (Bk ((((((((((((v6.setCell ⟨w.heap.size, 0, none⟩ (.int .i64 0)).setCell ⟨w.heap.size, 1, none⟩ (.int .i64 0)).setCell ⟨w.heap.size, 2, none⟩ (.int .i64 0)).setCell ⟨w.heap.size, 3, none⟩ (.slice none 0 0)).setCell ⟨w.heap.size, 4, none⟩ (.int .i64 0)).setCell ⟨w.heap.size, 5, none⟩ (.int .i64 0)).setCell ⟨w.heap.size, 6, none⟩ (.string ⟨#[]⟩)).setCell ⟨w.heap.size, 7, none⟩ (.string ⟨#[]⟩)).setCell ⟨w.heap.size, 8, none⟩ (.string ⟨#[]⟩)).setCell ⟨w.heap.size, 9, none⟩ (.string ⟨#[]⟩)).setCell ⟨w.heap.size, 10, none⟩ (.int .i64 0)).setCell ⟨w.heap.size, 11, none⟩ (.bool false)) w.heap.size 30 [.int .i64 0, .int .i64 0, .int .i64 0, .slice none 0 0, .int .i64 0, .int .i64 0, .string ⟨#[]⟩, .string ⟨#[]⟩, .string ⟨#[]⟩, .string ⟨#[]⟩, .int .i64 0, .bool false]) := ((((((((((((K6.out.set 0 _).set 1 _).set 2 _).set 3 _).set 4 _).set 5 _).set 6 _).set 7 _).set 8 _).set 9 _).set 10 _).set 11 _)
            have OS : Hid (Only (fun y => y = w.heap.size) v6 ((((((((((((v6.setCell ⟨w.heap.size, 0, none⟩ (.int .i64 0)).setCell ⟨w.heap.size, 1, none⟩ (.int .i64 0)).setCell ⟨w.heap.size, 2, none⟩ (.int .i64 0)).setCell ⟨w.heap.size, 3, none⟩ (.slice none 0 0)).setCell ⟨w.heap.size, 4, none⟩ (.int .i64 0)).setCell ⟨w.heap.size, 5, none⟩ (.int .i64 0)).setCell ⟨w.heap.size, 6, none⟩ (.string ⟨#[]⟩)).setCell ⟨w.heap.size, 7, none⟩ (.string ⟨#[]⟩)).setCell ⟨w.heap.size, 8, none⟩ (.string ⟨#[]⟩)).setCell ⟨w.heap.size, 9, none⟩ (.string ⟨#[]⟩)).setCell ⟨w.heap.size, 10, none⟩ (.int .i64 0)).setCell ⟨w.heap.size, 11, none⟩ (.bool false))) := (only_step (only_step (only_step (only_step (only_step (only_step (only_step (only_step (only_step (only_step (only_step (only_set (R := fun y => y = w.heap.size) (p := ⟨w.heap.size, 0, none⟩) rfl _) rfl 1 _) rfl 2 _) rfl 3 _) rfl 4 _) rfl 5 _) rfl 6 _) rfl 7 _) rfl 8 _) rfl 9 _) rfl 10 _) rfl 11 _)
            have OFx : Hid (True ∨ Only (At 0) w ((((((((((((v6.setCell ⟨w.heap.size, 0, none⟩ (.int .i64 0)).setCell ⟨w.heap.size, 1, none⟩ (.int .i64 0)).setCell ⟨w.heap.size, 2, none⟩ (.int .i64 0)).setCell ⟨w.heap.size, 3, none⟩ (.slice none 0 0)).setCell ⟨w.heap.size, 4, none⟩ (.int .i64 0)).setCell ⟨w.heap.size, 5, none⟩ (.int .i64 0)).setCell ⟨w.heap.size, 6, none⟩ (.string ⟨#[]⟩)).setCell ⟨w.heap.size, 7, none⟩ (.string ⟨#[]⟩)).setCell ⟨w.heap.size, 8, none⟩ (.string ⟨#[]⟩)).setCell ⟨w.heap.size, 9, none⟩ (.string ⟨#[]⟩)).setCell ⟨w.heap.size, 10, none⟩ (.int .i64 0)).setCell ⟨w.heap.size, 11, none⟩ (.bool false))) := .inl trivial
            have BF := hid (B6.out.trans (OS.out.below B6.out.size (fun b hb q => by omega)))
            go_wp2
            try simp only [Exit.inBlock, Exit.then]
            refine bodyPost_ret (v := .tuple #[.agg #[.int .i64 0, .int .i64 0, .int .i64 0, .slice none 0 0, .int .i64 0, .int .i64 0, .string ⟨#[]⟩, .string ⟨#[]⟩, .string ⟨#[]⟩, .string ⟨#[]⟩, .int .i64 0, .bool false], .bool false]) ?_ rfl ?_
            · exact results_stepb rfl _ _ _ rfl rfl (KF.out.cell (j := 0) rfl) (KF.out.cell (j := 1) rfl) (KF.out.cell (j := 2) rfl) (KF.out.cell (j := 3) rfl) (KF.out.cell (j := 4) rfl) (KF.out.cell (j := 5) rfl) (KF.out.cell (j := 6) rfl) (KF.out.cell (j := 7) rfl) (KF.out.cell (j := 8) rfl) (KF.out.cell (j := 9) rfl) (KF.out.cell (j := 10) rfl) (KF.out.cell (j := 11) rfl)
            · exact ⟨none, 0, 0, by rw [HV.out.1, HV.out.2]; try rfl, by rw [HV.out.1]; exact World.ownsRow_nil _ _ _ _, BF.out⟩
          have h0 : ¬ (s.toList = []) := fun q => he (ByteArray.size_eq_zero_iff.1 (wb_nil.1 q))
          have h1 : s.toList.isEmpty = false := by
            cases q : s.toList with
            | nil => exact absurd q h0
            | cons _ _ => rfl
          have x0 := X6.out.cell (j := 0) rfl
          have x1 := X6.out.cell (j := 1) rfl
          have x2 := X6.out.cell (j := 2) rfl
          have x3 := X6.out.cell (j := 3) rfl
          have x4 := X6.out.cell (j := 4) rfl
          have x5 := X6.out.cell (j := 5) rfl
          have x6 := X6.out.cell (j := 6) rfl
          have x7 := X6.out.cell (j := 7) rfl
          have x8 := X6.out.cell (j := 8) rfl
          have x9 := X6.out.cell (j := 9) rfl
          have x10 := X6.out.cell (j := 10) rfl
          have x11 := X6.out.cell (j := 11) rfl
          have CS := hid (specStepText_any _ (1) (tgN (rdW W 1)) (0) none 0 0 ([]) (0) (0) (⟨#[]⟩) (⟨#[]⟩) (⟨#[]⟩) (⟨#[]⟩) (0) (false) _ (show Ir v6 (fun b => w.heap.size + 2 ≤ b) (.slice none 0 0) [] from rw_nil _ _) (by decide))
          go_wp2_with fail
          refine CS.out.mono ?_
          rintro r v90 ⟨rfl, hb⟩
          have X90 := hid (X6.out.below hb)
          have B90 := hid (B6.out.trans (hb.mono B6.out.size))
          have K90 := hid (K6.out.below hb)
          rw [← HSY.out]
          clear hb X6 B6 K6 CS h0 h1 x0 x1 x2 x3 x4 x5 x6 x7 x8 x9 x10 x11
          by_cases hq : stT (stS W) = s
          · have HV := hid (HI.out.1 ⟨he, hq⟩)
            have hne : (s.toList == s.toList) = true := bl_same s
            rw [hq]
            clear hq he HI
            go_upto_region 20 with (fail)
            clear hne
            have x0 := X90.out.cell (j := 0) rfl
            have x1 := X90.out.cell (j := 1) rfl
            have x2 := X90.out.cell (j := 2) rfl
            have x3 := X90.out.cell (j := 3) rfl
            have x4 := X90.out.cell (j := 4) rfl
            have x5 := X90.out.cell (j := 5) rfl
            have x6 := X90.out.cell (j := 6) rfl
            have x7 := X90.out.cell (j := 7) rfl
            have x8 := X90.out.cell (j := 8) rfl
            have x9 := X90.out.cell (j := 9) rfl
            have x10 := X90.out.cell (j := 10) rfl
            have x11 := X90.out.cell (j := 11) rfl
            have r0 := K90.out.cell (j := 0) rfl
            have rf0 := K90.out.free 0
            have r1 := K90.out.cell (j := 1) rfl
            have rf1 := K90.out.free 1
            have r2 := K90.out.cell (j := 2) rfl
            have rf2 := K90.out.free 2
            have r3 := K90.out.cell (j := 3) rfl
            have rf3 := K90.out.free 3
            have r4 := K90.out.cell (j := 4) rfl
            have rf4 := K90.out.free 4
            have r5 := K90.out.cell (j := 5) rfl
            have rf5 := K90.out.free 5
            have r6 := K90.out.cell (j := 6) rfl
            have rf6 := K90.out.free 6
            have r7 := K90.out.cell (j := 7) rfl
            have rf7 := K90.out.free 7
            have r8 := K90.out.cell (j := 8) rfl
            have rf8 := K90.out.free 8
            have r9 := K90.out.cell (j := 9) rfl
            have rf9 := K90.out.free 9
            have r10 := K90.out.cell (j := 10) rfl
            have rf10 := K90.out.free 10
            have r11 := K90.out.cell (j := 11) rfl
            have rf11 := K90.out.free 11
            have KF : Hid (Bk ((((((((((((v90.setCell ⟨w.heap.size, 0, none⟩ (.int .i64 1)).setCell ⟨w.heap.size, 1, none⟩ (.int .i64 (tgN (rdW W 1)))).setCell ⟨w.heap.size, 2, none⟩ (.int .i64 0)).setCell ⟨w.heap.size, 3, none⟩ (.slice none 0 0)).setCell ⟨w.heap.size, 4, none⟩ (.int .i64 0)).setCell ⟨w.heap.size, 5, none⟩ (.int .i64 0)).setCell ⟨w.heap.size, 6, none⟩ (.string ⟨#[]⟩)).setCell ⟨w.heap.size, 7, none⟩ (.string ⟨#[]⟩)).setCell ⟨w.heap.size, 8, none⟩ (.string ⟨#[]⟩)).setCell ⟨w.heap.size, 9, none⟩ (.string ⟨#[]⟩)).setCell ⟨w.heap.size, 10, none⟩ (.int .i64 0)).setCell ⟨w.heap.size, 11, none⟩ (.bool false)) w.heap.size 30 [.int .i64 1, .int .i64 (tgN (rdW W 1)), .int .i64 0, .slice none 0 0, .int .i64 0, .int .i64 0, .string ⟨#[]⟩, .string ⟨#[]⟩, .string ⟨#[]⟩, .string ⟨#[]⟩, .int .i64 0, .bool false]) := ((((((((((((K90.out.set 0 _).set 1 _).set 2 _).set 3 _).set 4 _).set 5 _).set 6 _).set 7 _).set 8 _).set 9 _).set 10 _).set 11 _)
            have OS : Hid (Only (fun y => y = w.heap.size) v90 ((((((((((((v90.setCell ⟨w.heap.size, 0, none⟩ (.int .i64 1)).setCell ⟨w.heap.size, 1, none⟩ (.int .i64 (tgN (rdW W 1)))).setCell ⟨w.heap.size, 2, none⟩ (.int .i64 0)).setCell ⟨w.heap.size, 3, none⟩ (.slice none 0 0)).setCell ⟨w.heap.size, 4, none⟩ (.int .i64 0)).setCell ⟨w.heap.size, 5, none⟩ (.int .i64 0)).setCell ⟨w.heap.size, 6, none⟩ (.string ⟨#[]⟩)).setCell ⟨w.heap.size, 7, none⟩ (.string ⟨#[]⟩)).setCell ⟨w.heap.size, 8, none⟩ (.string ⟨#[]⟩)).setCell ⟨w.heap.size, 9, none⟩ (.string ⟨#[]⟩)).setCell ⟨w.heap.size, 10, none⟩ (.int .i64 0)).setCell ⟨w.heap.size, 11, none⟩ (.bool false))) := (only_step (only_step (only_step (only_step (only_step (only_step (only_step (only_step (only_step (only_step (only_step (only_set (R := fun y => y = w.heap.size) (p := ⟨w.heap.size, 0, none⟩) rfl _) rfl 1 _) rfl 2 _) rfl 3 _) rfl 4 _) rfl 5 _) rfl 6 _) rfl 7 _) rfl 8 _) rfl 9 _) rfl 10 _) rfl 11 _)
            have OFx : Hid (True ∨ Only (At 0) w ((((((((((((v90.setCell ⟨w.heap.size, 0, none⟩ (.int .i64 1)).setCell ⟨w.heap.size, 1, none⟩ (.int .i64 (tgN (rdW W 1)))).setCell ⟨w.heap.size, 2, none⟩ (.int .i64 0)).setCell ⟨w.heap.size, 3, none⟩ (.slice none 0 0)).setCell ⟨w.heap.size, 4, none⟩ (.int .i64 0)).setCell ⟨w.heap.size, 5, none⟩ (.int .i64 0)).setCell ⟨w.heap.size, 6, none⟩ (.string ⟨#[]⟩)).setCell ⟨w.heap.size, 7, none⟩ (.string ⟨#[]⟩)).setCell ⟨w.heap.size, 8, none⟩ (.string ⟨#[]⟩)).setCell ⟨w.heap.size, 9, none⟩ (.string ⟨#[]⟩)).setCell ⟨w.heap.size, 10, none⟩ (.int .i64 0)).setCell ⟨w.heap.size, 11, none⟩ (.bool false))) := .inl trivial
            have BF := hid (B90.out.trans (OS.out.below B90.out.size (fun b hb q => by omega)))
            rw [HSY.out] at HV
            go_wp2
            try simp only [Exit.inBlock, Exit.then]
            refine bodyPost_ret (v := .tuple #[.agg #[.int .i64 1, .int .i64 (tgN (rdW W 1)), .int .i64 0, .slice none 0 0, .int .i64 0, .int .i64 0, .string ⟨#[]⟩, .string ⟨#[]⟩, .string ⟨#[]⟩, .string ⟨#[]⟩, .int .i64 0, .bool false], .bool true]) ?_ rfl ?_
            · exact results_stepb rfl _ _ _ rfl rfl (KF.out.cell (j := 0) rfl) (KF.out.cell (j := 1) rfl) (KF.out.cell (j := 2) rfl) (KF.out.cell (j := 3) rfl) (KF.out.cell (j := 4) rfl) (KF.out.cell (j := 5) rfl) (KF.out.cell (j := 6) rfl) (KF.out.cell (j := 7) rfl) (KF.out.cell (j := 8) rfl) (KF.out.cell (j := 9) rfl) (KF.out.cell (j := 10) rfl) (KF.out.cell (j := 11) rfl)
            · exact ⟨none, 0, 0, by rw [HV.out.1, HV.out.2]; try rfl, by rw [HV.out.1]; exact World.ownsRow_nil _ _ _ _, BF.out⟩
          · have HV := hid (HI.out.2 (.inr hq))
            have hne : ((stT (stS W)).toList == s.toList) = false := str_ne hq
            clear hq he HI
            go_upto_region 19 with (fail)
            clear hne
            have r0 := K90.out.cell (j := 0) rfl
            have rf0 := K90.out.free 0
            have r1 := K90.out.cell (j := 1) rfl
            have rf1 := K90.out.free 1
            have r2 := K90.out.cell (j := 2) rfl
            have rf2 := K90.out.free 2
            have r3 := K90.out.cell (j := 3) rfl
            have rf3 := K90.out.free 3
            have r4 := K90.out.cell (j := 4) rfl
            have rf4 := K90.out.free 4
            have r5 := K90.out.cell (j := 5) rfl
            have rf5 := K90.out.free 5
            have r6 := K90.out.cell (j := 6) rfl
            have rf6 := K90.out.free 6
            have r7 := K90.out.cell (j := 7) rfl
            have rf7 := K90.out.free 7
            have r8 := K90.out.cell (j := 8) rfl
            have rf8 := K90.out.free 8
            have r9 := K90.out.cell (j := 9) rfl
            have rf9 := K90.out.free 9
            have r10 := K90.out.cell (j := 10) rfl
            have rf10 := K90.out.free 10
            have r11 := K90.out.cell (j := 11) rfl
            have rf11 := K90.out.free 11
            have KF : Hid (Bk ((((((((((((v90.setCell ⟨w.heap.size, 0, none⟩ (.int .i64 0)).setCell ⟨w.heap.size, 1, none⟩ (.int .i64 0)).setCell ⟨w.heap.size, 2, none⟩ (.int .i64 0)).setCell ⟨w.heap.size, 3, none⟩ (.slice none 0 0)).setCell ⟨w.heap.size, 4, none⟩ (.int .i64 0)).setCell ⟨w.heap.size, 5, none⟩ (.int .i64 0)).setCell ⟨w.heap.size, 6, none⟩ (.string ⟨#[]⟩)).setCell ⟨w.heap.size, 7, none⟩ (.string ⟨#[]⟩)).setCell ⟨w.heap.size, 8, none⟩ (.string ⟨#[]⟩)).setCell ⟨w.heap.size, 9, none⟩ (.string ⟨#[]⟩)).setCell ⟨w.heap.size, 10, none⟩ (.int .i64 0)).setCell ⟨w.heap.size, 11, none⟩ (.bool false)) w.heap.size 30 [.int .i64 0, .int .i64 0, .int .i64 0, .slice none 0 0, .int .i64 0, .int .i64 0, .string ⟨#[]⟩, .string ⟨#[]⟩, .string ⟨#[]⟩, .string ⟨#[]⟩, .int .i64 0, .bool false]) := ((((((((((((K90.out.set 0 _).set 1 _).set 2 _).set 3 _).set 4 _).set 5 _).set 6 _).set 7 _).set 8 _).set 9 _).set 10 _).set 11 _)
            have OS : Hid (Only (fun y => y = w.heap.size) v90 ((((((((((((v90.setCell ⟨w.heap.size, 0, none⟩ (.int .i64 0)).setCell ⟨w.heap.size, 1, none⟩ (.int .i64 0)).setCell ⟨w.heap.size, 2, none⟩ (.int .i64 0)).setCell ⟨w.heap.size, 3, none⟩ (.slice none 0 0)).setCell ⟨w.heap.size, 4, none⟩ (.int .i64 0)).setCell ⟨w.heap.size, 5, none⟩ (.int .i64 0)).setCell ⟨w.heap.size, 6, none⟩ (.string ⟨#[]⟩)).setCell ⟨w.heap.size, 7, none⟩ (.string ⟨#[]⟩)).setCell ⟨w.heap.size, 8, none⟩ (.string ⟨#[]⟩)).setCell ⟨w.heap.size, 9, none⟩ (.string ⟨#[]⟩)).setCell ⟨w.heap.size, 10, none⟩ (.int .i64 0)).setCell ⟨w.heap.size, 11, none⟩ (.bool false))) := (only_step (only_step (only_step (only_step (only_step (only_step (only_step (only_step (only_step (only_step (only_step (only_set (R := fun y => y = w.heap.size) (p := ⟨w.heap.size, 0, none⟩) rfl _) rfl 1 _) rfl 2 _) rfl 3 _) rfl 4 _) rfl 5 _) rfl 6 _) rfl 7 _) rfl 8 _) rfl 9 _) rfl 10 _) rfl 11 _)
            have OFx : Hid (True ∨ Only (At 0) w ((((((((((((v90.setCell ⟨w.heap.size, 0, none⟩ (.int .i64 0)).setCell ⟨w.heap.size, 1, none⟩ (.int .i64 0)).setCell ⟨w.heap.size, 2, none⟩ (.int .i64 0)).setCell ⟨w.heap.size, 3, none⟩ (.slice none 0 0)).setCell ⟨w.heap.size, 4, none⟩ (.int .i64 0)).setCell ⟨w.heap.size, 5, none⟩ (.int .i64 0)).setCell ⟨w.heap.size, 6, none⟩ (.string ⟨#[]⟩)).setCell ⟨w.heap.size, 7, none⟩ (.string ⟨#[]⟩)).setCell ⟨w.heap.size, 8, none⟩ (.string ⟨#[]⟩)).setCell ⟨w.heap.size, 9, none⟩ (.string ⟨#[]⟩)).setCell ⟨w.heap.size, 10, none⟩ (.int .i64 0)).setCell ⟨w.heap.size, 11, none⟩ (.bool false))) := .inl trivial
            have BF := hid (B90.out.trans (OS.out.below B90.out.size (fun b hb q => by omega)))
            go_wp2
            try simp only [Exit.inBlock, Exit.then]
            refine bodyPost_ret (v := .tuple #[.agg #[.int .i64 0, .int .i64 0, .int .i64 0, .slice none 0 0, .int .i64 0, .int .i64 0, .string ⟨#[]⟩, .string ⟨#[]⟩, .string ⟨#[]⟩, .string ⟨#[]⟩, .int .i64 0, .bool false], .bool false]) ?_ rfl ?_
            · exact results_stepb rfl _ _ _ rfl rfl (KF.out.cell (j := 0) rfl) (KF.out.cell (j := 1) rfl) (KF.out.cell (j := 2) rfl) (KF.out.cell (j := 3) rfl) (KF.out.cell (j := 4) rfl) (KF.out.cell (j := 5) rfl) (KF.out.cell (j := 6) rfl) (KF.out.cell (j := 7) rfl) (KF.out.cell (j := 8) rfl) (KF.out.cell (j := 9) rfl) (KF.out.cell (j := 10) rfl) (KF.out.cell (j := 11) rfl)
            · exact ⟨none, 0, 0, by rw [HV.out.1, HV.out.2]; try rfl, by rw [HV.out.1]; exact World.ownsRow_nil _ _ _ _, BF.out⟩
      by_cases h7 : kk = 7
      · subst h7
        have HSY : Hid (stS W = ⟨7, tgN (rdW W 1), tgN (rdW W 2), (W.drop 3).map tgN, 0, 0, ⟨#[]⟩, ⟨#[]⟩, ⟨#[]⟩, ⟨#[]⟩, 0, false⟩) := stS_7 hkk
        clear hkk h1
        have CA := hid (CN.out v4 1 W4.out)
        go_wp2_with fail
        refine CA.out.mono ?_
        rintro r v5 ⟨rfl, hb⟩
        have X5 := hid (X4.out.below hb)
        have K5 := hid (K4.out.below hb)
        have B5 := hid (B4.out.trans (hb.mono B4.out.size))
        have W5 := hid (W4.out.below hb)
        clear hb X4 K4 B4 W4 CA
        have x0 := X5.out.cell (j := 0) rfl
        have x1 := X5.out.cell (j := 1) rfl
        have f1 := X5.out.free 1
        have X6 : Hid (Bk (v5.setCell ⟨w.heap.size + 1, 1, none⟩ (.int .i64 (tgN (rdW W 1)))) (w.heap.size + 1) 30 [.int .i64 7, .int .i64 (tgN (rdW W 1)), .int .i64 0, .slice none 0 0, .int .i64 0, .int .i64 0, .string ⟨#[]⟩, .string ⟨#[]⟩, .string ⟨#[]⟩, .string ⟨#[]⟩, .int .i64 0, .bool false]) := (X5.out.set 1 _)
        have OX : Hid (Only (fun y => y = w.heap.size + 1) v5 (v5.setCell ⟨w.heap.size + 1, 1, none⟩ (.int .i64 (tgN (rdW W 1))))) := (only_set (R := fun y => y = w.heap.size + 1) (p := ⟨w.heap.size + 1, 1, none⟩) rfl _)
        have K6 := hid (K5.out.to OX.out (by omega))
        have B6 := hid (B5.out.trans (OX.out.below B5.out.size (fun b hb q => by omega)))
        have W6 := hid (W5.out.to OX.out (fun b hb _ q => by omega))
        clear OX X5 K5 B5 W5
        have CA := hid (CN.out _ 2 W6.out)
        go_wp2_with fail
        refine CA.out.mono ?_
        generalize v5.setCell ⟨w.heap.size + 1, 1, none⟩ (.int .i64 (tgN (rdW W 1))) = v6 at *
        clear x0 x1 f1
        rintro r v7 ⟨rfl, hb⟩
        have X7 := hid (X6.out.below hb)
        have K7 := hid (K6.out.below hb)
        have B7 := hid (B6.out.trans (hb.mono B6.out.size))
        have W7 := hid (W6.out.below hb)
        have HS7 : Hid (w.heap.size + 2 ≤ v7.heap.size) := by have := W7.out; have h := W7.out.at hwn; obtain ⟨b, o, -, h1, h2, -⟩ := h; show _ ≤ _; omega
        clear hb X6 K6 B6 W6 CA
        have x2 := X7.out.cell (j := 2) rfl
        have f2 := X7.out.free 2
        skip
        have X8 : Hid (Bk (v7.setCell ⟨w.heap.size + 1, 2, none⟩ (.int .i64 (tgN (rdW W 2)))) (w.heap.size + 1) 30 [.int .i64 7, .int .i64 (tgN (rdW W 1)), .int .i64 (tgN (rdW W 2)), .slice none 0 0, .int .i64 0, .int .i64 0, .string ⟨#[]⟩, .string ⟨#[]⟩, .string ⟨#[]⟩, .string ⟨#[]⟩, .int .i64 0, .bool false]) := (X7.out.set 2 _)
        have OX : Hid (Only (fun y => y = w.heap.size + 1) v7 (v7.setCell ⟨w.heap.size + 1, 2, none⟩ (.int .i64 (tgN (rdW W 2))))) := (only_set (R := fun y => y = w.heap.size + 1) (p := ⟨w.heap.size + 1, 2, none⟩) rfl _)
        have K8 := hid (K7.out.to OX.out (by omega))
        have B8 := hid (B7.out.trans (OX.out.below B7.out.size (fun b hb q => by omega)))
        have W8 := hid (W7.out.to OX.out (fun b hb _ q => by omega))
        have HS8 : Hid (w.heap.size + 2 ≤ (v7.setCell ⟨w.heap.size + 1, 2, none⟩ (.int .i64 (tgN (rdW W 2)))).heap.size) := Nat.le_trans HS7.out OX.out.size
        clear OX X7 K7 B7 W7
        go_wp2_with fail
        generalize v7.setCell ⟨w.heap.size + 1, 2, none⟩ (.int .i64 (tgN (rdW W 2))) = v8 at *
        clear x2 f2
        obtain ⟨h8, hh8⟩ : ∃ h, v8.heap.size = h := ⟨_, rfl⟩
        have H8 : Hid (w.heap.size + 2 ≤ h8) := by have := HS8.out; show _ ≤ _; omega
        have W8b : Hid (Sr v8 (fun b => w.heap.size + 2 ≤ b ∧ b < h8) (.slice wa wn wc) W) := Rw.mono W8.out (fun b h hb => ⟨h, by omega⟩)
        have HS8b : Hid (h8 ≤ v8.heap.size) := by show _ ≤ _; omega
        clear hh8
        go_loopw [8] (fun i v => ∃ (j : Nat) (xa : Option Addr) (xn xc : Nat), i = .int .i64 j ∧ 3 ≤ j ∧ (j ≤ wn ∨ (j = 3 ∧ wn < 3)) ∧ Hid (Bk v (w.heap.size + 1) 30 [.int .i64 7, .int .i64 (tgN (rdW W 1)), .int .i64 (tgN (rdW W 2)), .slice xa xn xc, .int .i64 0, .int .i64 0, .string ⟨#[]⟩, .string ⟨#[]⟩, .string ⟨#[]⟩, .string ⟨#[]⟩, .int .i64 0, .bool false]) ∧ Hid (IW v h8 (.slice xa xn xc) (((W.drop 3).map tgN).take (j - 3))) ∧ Hid (Bk v w.heap.size 30 [.int .i64 0, .int .i64 0, .int .i64 0, .slice none 0 0, .int .i64 0, .int .i64 0, .string ⟨#[]⟩, .string ⟨#[]⟩, .string ⟨#[]⟩, .string ⟨#[]⟩, .int .i64 0, .bool false]) ∧ Hid (Below w.heap.size w v) ∧ Hid (Sr v (fun b => w.heap.size + 2 ≤ b ∧ b < h8) (.slice wa wn wc) W) ∧ Hid (h8 ≤ v.heap.size)) (fun i _ => wn - (intOf i).toNat)
        case atStart => exact ⟨3, none, 0, 0, rfl, Nat.le_refl _, by omega, X8.out, World.ownsRow_nil _ _ _ _, K8.out, B8.out, W8b.out, HS8b.out⟩
        case round =>
          clear X8 K8 B8 W8 HS8 W8b HS8b
          obtain ⟨j, xa, xn, xc, rfl, hj3, hjw, HX, HR, HK, HB, HW, HSZ⟩ := hrel
          by_cases hlt : j < wn
          · have hlt' : (j : Int) < (wn : Int) := by omega
            go_wp2_with fail
            refine wp_region_noPanic ?_
            refine wp_region_held_drew (S := fun _ => True) (by kernel_rfl) (trivial) (fun hHeld => ?_)
            simp only [List.size_toArray, List.length_cons, List.length_nil, Array.replicate_succ, Array.replicate_zero, Nat.reduceAdd, List.push_toArray, List.nil_append, List.cons_append]
            refine wpAnyH_take (i := 0) (v := (.pointer (some ⟨w.heap.size + 1, 3, none⟩))) rfl (by kernel_rfl) (by kernel_rfl) (by kernel_rfl) (fun _ _ _ h => h) (Or.inl ⟨by rfl, ?_⟩) (by assumption) ?_
            · intro w hSw
              (try dsimp only at hSw)
              go_simp
            try simp only [List.getElem_toArray]
            try simp only [List.getElem_cons_succ]
            try simp only [List.getElem_cons_zero]
            try simp only [Act.put]
            try simp only [List.setIfInBounds_toArray]
            try simp only [List.set_cons_succ]
            try simp only [List.set_cons_zero]
            refine wpAnyH_take (i := 2) (v := (.slice wa wn wc)) rfl (by kernel_rfl) (by kernel_rfl) (by kernel_rfl) (fun _ _ _ h => h) (Or.inl ⟨by rfl, ?_⟩) (by assumption) ?_
            · intro w hSw
              (try dsimp only at hSw)
              go_simp
            try simp only [List.getElem_toArray]
            try simp only [List.getElem_cons_succ]
            try simp only [List.getElem_cons_zero]
            try simp only [Act.put]
            try simp only [List.setIfInBounds_toArray]
            try simp only [List.set_cons_succ]
            try simp only [List.set_cons_zero]
            refine wpAnyH_take (i := 3) (v := (.int .i64 j)) rfl (by kernel_rfl) (by kernel_rfl) (by kernel_rfl) (fun _ _ _ h => h) (Or.inl ⟨by rfl, ?_⟩) (by assumption) ?_
            · intro w hSw
              (try dsimp only at hSw)
              go_simp
            try simp only [List.getElem_toArray]
            try simp only [List.getElem_cons_succ]
            try simp only [List.getElem_cons_zero]
            try simp only [Act.put]
            try simp only [List.setIfInBounds_toArray]
            try simp only [List.set_cons_succ]
            try simp only [List.set_cons_zero]
            have Xq0 := HX
            have Rq0 := HR
            have Kq0 := HK
            have Wq0 := HW
            have Bq0 := HB
            have Sq0 := HSZ
            clear HX HR HK HW HB HSZ
            have hd := below_drew wr
            generalize hdw : wr.drew = vq1 at *
            clear hdw
            have Xq1 := hid (Xq0.out.below hd)
            have Rq1 := hid (Rq0.out.below hd)
            have Kq1 := hid (Kq0.out.below hd)
            have Wq1 := hid (Wq0.out.below hd)
            have Bq1 := hid (Bq0.out.trans (hd.mono Bq0.out.size))
            have Sq1 : Hid (h8 ≤ vq1.heap.size) := Nat.le_trans Sq0.out hd.size
            clear Xq0 Rq0 Kq0 Wq0 Bq0 Sq0
            clear hd
            refine wpAnyH_ready (rs := [1, 4]) (by kernel_rfl) (by simp) ?_
            refine AllReadyH.cons rfl (fun K1 hK => ?_) (AllReadyH.cons rfl (fun K1 hK => ?_) AllReadyH.nil)
            · have x3 := Xq1.out.cell (j := 3) rfl
              go_simp
              try go_wp2_with fail
              clear x3
              refine hK.out _ _ ?_ (fun hHeld => ?_)
              · trivial
              clear hK K1
              try simp only [List.getElem_toArray]
              try simp only [List.getElem_cons_succ]
              try simp only [List.getElem_cons_zero]
              try simp only [Act.put]
              try simp only [List.setIfInBounds_toArray]
              try simp only [List.set_cons_succ]
              try simp only [List.set_cons_zero]
              refine wpAnyH_ready (rs := [4]) (by kernel_rfl) (by simp) ?_
              refine AllReadyH.cons rfl (fun K1 hK => ?_) AllReadyH.nil
              go_simp
              refine (CN.out _ j (Rw.mono Wq1.out (fun b h _ => h.1))).mono ?_
              rintro r vq2 ⟨rfl, hb⟩
              go_wp2_with fail
              have Xq2 := hid (Xq1.out.below hb)
              have Rq2 := hid (Rq1.out.below hb)
              have Kq2 := hid (Kq1.out.below hb)
              have Wq2 := hid (Wq1.out.below hb)
              have Bq2 := hid (Bq1.out.trans (hb.mono Bq1.out.size))
              have Sq2 : Hid (h8 ≤ vq2.heap.size) := Nat.le_trans Sq1.out hb.size
              clear Xq1 Rq1 Kq1 Wq1 Bq1 Sq1
              clear hb
              refine hK.out _ _ ?_ (fun hHeld => ?_)
              · trivial
              clear hK K1
              try simp only [List.getElem_toArray]
              try simp only [List.getElem_cons_succ]
              try simp only [List.getElem_cons_zero]
              try simp only [Act.put]
              try simp only [List.setIfInBounds_toArray]
              try simp only [List.set_cons_succ]
              try simp only [List.set_cons_zero]
              refine wpAnyH_ready (rs := [5]) (by kernel_rfl) (by simp) ?_
              refine AllReadyH.cons rfl (fun K1 hK => ?_) AllReadyH.nil
              go_simp
              try go_wp2_with fail
              have hb := below_new (o := .cells #[.int .i64 (tgN (rdW W j))] 3) (w := vq2) (Below.refl _ _)
              have N3 := hid (Bk.new vq2 3 [.int .i64 (tgN (rdW W j))])
              generalize hdw : vq2.alloc (.cells #[.int .i64 (tgN (rdW W j))] 3) = vq3 at *
              clear hdw
              have Xq3 := hid (Xq2.out.below hb)
              have Rq3 := hid (Rq2.out.below hb)
              have Kq3 := hid (Kq2.out.below hb)
              have Wq3 := hid (Wq2.out.below hb)
              have Bq3 := hid (Bq2.out.trans (hb.mono Bq2.out.size))
              have Sq3 : Hid (h8 ≤ vq3.heap.size) := Nat.le_trans Sq2.out hb.size
              clear Xq2 Rq2 Kq2 Wq2 Bq2 Sq2
              clear hb
              refine hK.out _ _ ?_ (fun hHeld => ?_)
              · trivial
              clear hK K1
              try simp only [List.getElem_toArray]
              try simp only [List.getElem_cons_succ]
              try simp only [List.getElem_cons_zero]
              try simp only [Act.put]
              try simp only [List.setIfInBounds_toArray]
              try simp only [List.set_cons_succ]
              try simp only [List.set_cons_zero]
              refine wpAnyH_ready (rs := [6]) (by kernel_rfl) (by simp) ?_
              refine AllReadyH.cons rfl (fun K1 hK => ?_) AllReadyH.nil
              refine step_append_iw rfl _ _ rfl h8 _ _ rfl Rq3.out _ (tgN (rdW W j)) rfl N3.out (by have := HWL.out; simp; omega) Sq3.out ?_
              intro a4 n4 c4 vq9 hI hg _
              have hon := only_of_grown hg (R := fun y => (Value.slice xa xn xc).ownBlock = some y) (fun k q => q)
              have hlo : ∀ k, (Value.slice xa xn xc).ownBlock = some k → h8 ≤ k := fun k q => (Rq3.out.lt q).1
              have h8w := H8.out
              have Xq9 := hid (Xq3.out.to hon (fun q => by have := hlo _ q; omega))
              have Kq9 := hid (Kq3.out.to hon (fun q => by have := hlo _ q; omega))
              have Bq9 := hid (Bq3.out.trans (hon.below Bq3.out.size (fun b hb q => by have := hlo _ q; omega)))
              have Sq9 : Hid (h8 ≤ vq9.heap.size) := Nat.le_trans Sq3.out hon.size
              have Rq9 := hid hI
              have Wq9 := hid (Wq3.out.to hon (fun b hb _ q => by have := hlo _ q; have := hb.2; omega))
              clear hI hg hon hlo N3 Xq3 Rq3 Kq3 Wq3 Bq3 Sq3
              refine hK.out _ _ ?_ (fun hHeld => ?_)
              · trivial
              clear hK K1
              try simp only [List.getElem_toArray]
              try simp only [List.getElem_cons_succ]
              try simp only [List.getElem_cons_zero]
              try simp only [Act.put]
              try simp only [List.setIfInBounds_toArray]
              try simp only [List.set_cons_succ]
              try simp only [List.set_cons_zero]
              refine wpAnyH_take (i := 7) (v := (.pointer (some ⟨w.heap.size + 1, 3, none⟩))) rfl (by kernel_rfl) (by kernel_rfl) (by kernel_rfl) (fun _ _ _ h => h) (Or.inl ⟨by rfl, ?_⟩) (by assumption) ?_
              · intro w hSw
                (try dsimp only at hSw)
                go_simp
              try simp only [List.getElem_toArray]
              try simp only [List.getElem_cons_succ]
              try simp only [List.getElem_cons_zero]
              try simp only [Act.put]
              try simp only [List.setIfInBounds_toArray]
              try simp only [List.set_cons_succ]
              try simp only [List.set_cons_zero]
              have x3 := Xq9.out.cell (j := 3) rfl
              have f3 := Xq9.out.free 3
              have OX : Hid (Only (fun y => y = w.heap.size + 1) vq9 (vq9.setCell ⟨w.heap.size + 1, 3, none⟩ (.slice a4 n4 c4))) := only_set (R := fun y => y = w.heap.size + 1) (p := ⟨w.heap.size + 1, 3, none⟩) rfl _
              have Xq5 : Hid (Bk (vq9.setCell ⟨w.heap.size + 1, 3, none⟩ (.slice a4 n4 c4)) (w.heap.size + 1) 30 [.int .i64 7, .int .i64 (tgN (rdW W 1)), .int .i64 (tgN (rdW W 2)), .slice a4 n4 c4, .int .i64 0, .int .i64 0, .string ⟨#[]⟩, .string ⟨#[]⟩, .string ⟨#[]⟩, .string ⟨#[]⟩, .int .i64 0, .bool false]) := Xq9.out.set 3 _
              have Kq5 := hid (Kq9.out.to OX.out (by omega))
              have Bq5 := hid (Bq9.out.trans (OX.out.below Bq9.out.size (fun b hb q => by omega)))
              have Sq5 : Hid (h8 ≤ (vq9.setCell ⟨w.heap.size + 1, 3, none⟩ (.slice a4 n4 c4)).heap.size) := Nat.le_trans Sq9.out OX.out.size
              have Rq5 := hid (Rq9.out.to OX.out (fun k e q => by have := (Rq9.out.lt e).1; omega))
              have Wq5 := hid (Wq9.out.to OX.out (fun b hb _ q => by have := hb.1; omega))
              clear Xq9 Kq9 Bq9 Sq9 Rq9 Wq9 OX
              refine wpAnyH_ready (rs := [8]) (by kernel_rfl) (by simp) ?_
              refine AllReadyH.cons rfl (fun K1 hK => ?_) AllReadyH.nil
              go_simp
              try go_wp2_with fail
              refine hK.out _ _ ?_ (fun hHeld => ?_)
              · trivial
              clear hK K1
              try simp only [List.getElem_toArray]
              try simp only [List.getElem_cons_succ]
              try simp only [List.getElem_cons_zero]
              try simp only [Act.put]
              try simp only [List.setIfInBounds_toArray]
              try simp only [List.set_cons_succ]
              try simp only [List.set_cons_zero]
              refine wpAnyH_done (by kernel_rfl) ?_ _
              refine NoPanic.normal ?_
              generalize vq9.setCell ⟨w.heap.size + 1, 3, none⟩ (.slice a4 n4 c4) = vq5 at *
              clear x3 f3
              have hjl : j < W.length := by rw [← HWn.out]; exact hlt
              have HL5 : Hid (((W.drop 3).map tgN).take (j - 3) ++ [tgN (rdW W j)] = ((W.drop 3).map tgN).take (j + 1 - 3)) := by
                show _ = _
                have e : j + 1 - 3 = (j - 3) + 1 := by omega
                have e2 : 3 + (j - 3) = j := by omega
                have hlen : j - 3 < ((W.drop 3).map tgN).length := by rw [List.length_map, List.length_drop]; omega
                rw [e, List.take_succ_eq_append_getElem hlen]
                congr 1
                simp [rdW, e2, hjl]
              rw [HL5.out] at Rq5
              clear HL5
              have hjb : j < 1048577 := by have := HWn.out; have := HWL.out; omega
              go_wp2
              go_roundw
              case rel => exact ⟨j + 1, a4, n4, c4, by go_num, by omega, .inl (by omega), Xq5.out, Rq5.out, Kq5.out, Bq5.out, Wq5.out, Sq5.out⟩
              case measure => simp [intOf]; omega
            · go_simp
              refine (CN.out _ j (Rw.mono Wq1.out (fun b h _ => h.1))).mono ?_
              rintro r vq2 ⟨rfl, hb⟩
              go_wp2_with fail
              have Xq2 := hid (Xq1.out.below hb)
              have Rq2 := hid (Rq1.out.below hb)
              have Kq2 := hid (Kq1.out.below hb)
              have Wq2 := hid (Wq1.out.below hb)
              have Bq2 := hid (Bq1.out.trans (hb.mono Bq1.out.size))
              have Sq2 : Hid (h8 ≤ vq2.heap.size) := Nat.le_trans Sq1.out hb.size
              clear Xq1 Rq1 Kq1 Wq1 Bq1 Sq1
              clear hb
              refine hK.out _ _ ?_ (fun hHeld => ?_)
              · trivial
              clear hK K1
              try simp only [List.getElem_toArray]
              try simp only [List.getElem_cons_succ]
              try simp only [List.getElem_cons_zero]
              try simp only [Act.put]
              try simp only [List.setIfInBounds_toArray]
              try simp only [List.set_cons_succ]
              try simp only [List.set_cons_zero]
              refine wpAnyH_ready (rs := [1, 5]) (by kernel_rfl) (by simp) ?_
              refine AllReadyH.cons rfl (fun K1 hK => ?_) (AllReadyH.cons rfl (fun K1 hK => ?_) AllReadyH.nil)
              · have x3 := Xq2.out.cell (j := 3) rfl
                go_simp
                try go_wp2_with fail
                clear x3
                refine hK.out _ _ ?_ (fun hHeld => ?_)
                · trivial
                clear hK K1
                try simp only [List.getElem_toArray]
                try simp only [List.getElem_cons_succ]
                try simp only [List.getElem_cons_zero]
                try simp only [Act.put]
                try simp only [List.setIfInBounds_toArray]
                try simp only [List.set_cons_succ]
                try simp only [List.set_cons_zero]
                refine wpAnyH_ready (rs := [5]) (by kernel_rfl) (by simp) ?_
                refine AllReadyH.cons rfl (fun K1 hK => ?_) AllReadyH.nil
                go_simp
                try go_wp2_with fail
                have hb := below_new (o := .cells #[.int .i64 (tgN (rdW W j))] 3) (w := vq2) (Below.refl _ _)
                have N3 := hid (Bk.new vq2 3 [.int .i64 (tgN (rdW W j))])
                generalize hdw : vq2.alloc (.cells #[.int .i64 (tgN (rdW W j))] 3) = vq3 at *
                clear hdw
                have Xq3 := hid (Xq2.out.below hb)
                have Rq3 := hid (Rq2.out.below hb)
                have Kq3 := hid (Kq2.out.below hb)
                have Wq3 := hid (Wq2.out.below hb)
                have Bq3 := hid (Bq2.out.trans (hb.mono Bq2.out.size))
                have Sq3 : Hid (h8 ≤ vq3.heap.size) := Nat.le_trans Sq2.out hb.size
                clear Xq2 Rq2 Kq2 Wq2 Bq2 Sq2
                clear hb
                refine hK.out _ _ ?_ (fun hHeld => ?_)
                · trivial
                clear hK K1
                try simp only [List.getElem_toArray]
                try simp only [List.getElem_cons_succ]
                try simp only [List.getElem_cons_zero]
                try simp only [Act.put]
                try simp only [List.setIfInBounds_toArray]
                try simp only [List.set_cons_succ]
                try simp only [List.set_cons_zero]
                refine wpAnyH_ready (rs := [6]) (by kernel_rfl) (by simp) ?_
                refine AllReadyH.cons rfl (fun K1 hK => ?_) AllReadyH.nil
                refine step_append_iw rfl _ _ rfl h8 _ _ rfl Rq3.out _ (tgN (rdW W j)) rfl N3.out (by have := HWL.out; simp; omega) Sq3.out ?_
                intro a4 n4 c4 vq9 hI hg _
                have hon := only_of_grown hg (R := fun y => (Value.slice xa xn xc).ownBlock = some y) (fun k q => q)
                have hlo : ∀ k, (Value.slice xa xn xc).ownBlock = some k → h8 ≤ k := fun k q => (Rq3.out.lt q).1
                have h8w := H8.out
                have Xq9 := hid (Xq3.out.to hon (fun q => by have := hlo _ q; omega))
                have Kq9 := hid (Kq3.out.to hon (fun q => by have := hlo _ q; omega))
                have Bq9 := hid (Bq3.out.trans (hon.below Bq3.out.size (fun b hb q => by have := hlo _ q; omega)))
                have Sq9 : Hid (h8 ≤ vq9.heap.size) := Nat.le_trans Sq3.out hon.size
                have Rq9 := hid hI
                have Wq9 := hid (Wq3.out.to hon (fun b hb _ q => by have := hlo _ q; have := hb.2; omega))
                clear hI hg hon hlo N3 Xq3 Rq3 Kq3 Wq3 Bq3 Sq3
                refine hK.out _ _ ?_ (fun hHeld => ?_)
                · trivial
                clear hK K1
                try simp only [List.getElem_toArray]
                try simp only [List.getElem_cons_succ]
                try simp only [List.getElem_cons_zero]
                try simp only [Act.put]
                try simp only [List.setIfInBounds_toArray]
                try simp only [List.set_cons_succ]
                try simp only [List.set_cons_zero]
                refine wpAnyH_take (i := 7) (v := (.pointer (some ⟨w.heap.size + 1, 3, none⟩))) rfl (by kernel_rfl) (by kernel_rfl) (by kernel_rfl) (fun _ _ _ h => h) (Or.inl ⟨by rfl, ?_⟩) (by assumption) ?_
                · intro w hSw
                  (try dsimp only at hSw)
                  go_simp
                try simp only [List.getElem_toArray]
                try simp only [List.getElem_cons_succ]
                try simp only [List.getElem_cons_zero]
                try simp only [Act.put]
                try simp only [List.setIfInBounds_toArray]
                try simp only [List.set_cons_succ]
                try simp only [List.set_cons_zero]
                have x3 := Xq9.out.cell (j := 3) rfl
                have f3 := Xq9.out.free 3
                have OX : Hid (Only (fun y => y = w.heap.size + 1) vq9 (vq9.setCell ⟨w.heap.size + 1, 3, none⟩ (.slice a4 n4 c4))) := only_set (R := fun y => y = w.heap.size + 1) (p := ⟨w.heap.size + 1, 3, none⟩) rfl _
                have Xq5 : Hid (Bk (vq9.setCell ⟨w.heap.size + 1, 3, none⟩ (.slice a4 n4 c4)) (w.heap.size + 1) 30 [.int .i64 7, .int .i64 (tgN (rdW W 1)), .int .i64 (tgN (rdW W 2)), .slice a4 n4 c4, .int .i64 0, .int .i64 0, .string ⟨#[]⟩, .string ⟨#[]⟩, .string ⟨#[]⟩, .string ⟨#[]⟩, .int .i64 0, .bool false]) := Xq9.out.set 3 _
                have Kq5 := hid (Kq9.out.to OX.out (by omega))
                have Bq5 := hid (Bq9.out.trans (OX.out.below Bq9.out.size (fun b hb q => by omega)))
                have Sq5 : Hid (h8 ≤ (vq9.setCell ⟨w.heap.size + 1, 3, none⟩ (.slice a4 n4 c4)).heap.size) := Nat.le_trans Sq9.out OX.out.size
                have Rq5 := hid (Rq9.out.to OX.out (fun k e q => by have := (Rq9.out.lt e).1; omega))
                have Wq5 := hid (Wq9.out.to OX.out (fun b hb _ q => by have := hb.1; omega))
                clear Xq9 Kq9 Bq9 Sq9 Rq9 Wq9 OX
                refine wpAnyH_ready (rs := [8]) (by kernel_rfl) (by simp) ?_
                refine AllReadyH.cons rfl (fun K1 hK => ?_) AllReadyH.nil
                go_simp
                try go_wp2_with fail
                refine hK.out _ _ ?_ (fun hHeld => ?_)
                · trivial
                clear hK K1
                try simp only [List.getElem_toArray]
                try simp only [List.getElem_cons_succ]
                try simp only [List.getElem_cons_zero]
                try simp only [Act.put]
                try simp only [List.setIfInBounds_toArray]
                try simp only [List.set_cons_succ]
                try simp only [List.set_cons_zero]
                refine wpAnyH_done (by kernel_rfl) ?_ _
                refine NoPanic.normal ?_
                generalize vq9.setCell ⟨w.heap.size + 1, 3, none⟩ (.slice a4 n4 c4) = vq5 at *
                clear x3 f3
                have hjl : j < W.length := by rw [← HWn.out]; exact hlt
                have HL5 : Hid (((W.drop 3).map tgN).take (j - 3) ++ [tgN (rdW W j)] = ((W.drop 3).map tgN).take (j + 1 - 3)) := by
                  show _ = _
                  have e : j + 1 - 3 = (j - 3) + 1 := by omega
                  have e2 : 3 + (j - 3) = j := by omega
                  have hlen : j - 3 < ((W.drop 3).map tgN).length := by rw [List.length_map, List.length_drop]; omega
                  rw [e, List.take_succ_eq_append_getElem hlen]
                  congr 1
                  simp [rdW, e2, hjl]
                rw [HL5.out] at Rq5
                clear HL5
                have hjb : j < 1048577 := by have := HWn.out; have := HWL.out; omega
                go_wp2
                go_roundw
                case rel => exact ⟨j + 1, a4, n4, c4, by go_num, by omega, .inl (by omega), Xq5.out, Rq5.out, Kq5.out, Bq5.out, Wq5.out, Sq5.out⟩
                case measure => simp [intOf]; omega
              · go_simp
                try go_wp2_with fail
                have hb := below_new (o := .cells #[.int .i64 (tgN (rdW W j))] 3) (w := vq2) (Below.refl _ _)
                have N3 := hid (Bk.new vq2 3 [.int .i64 (tgN (rdW W j))])
                generalize hdw : vq2.alloc (.cells #[.int .i64 (tgN (rdW W j))] 3) = vq3 at *
                clear hdw
                have Xq3 := hid (Xq2.out.below hb)
                have Rq3 := hid (Rq2.out.below hb)
                have Kq3 := hid (Kq2.out.below hb)
                have Wq3 := hid (Wq2.out.below hb)
                have Bq3 := hid (Bq2.out.trans (hb.mono Bq2.out.size))
                have Sq3 : Hid (h8 ≤ vq3.heap.size) := Nat.le_trans Sq2.out hb.size
                clear Xq2 Rq2 Kq2 Wq2 Bq2 Sq2
                clear hb
                refine hK.out _ _ ?_ (fun hHeld => ?_)
                · trivial
                clear hK K1
                try simp only [List.getElem_toArray]
                try simp only [List.getElem_cons_succ]
                try simp only [List.getElem_cons_zero]
                try simp only [Act.put]
                try simp only [List.setIfInBounds_toArray]
                try simp only [List.set_cons_succ]
                try simp only [List.set_cons_zero]
                refine wpAnyH_ready (rs := [1]) (by kernel_rfl) (by simp) ?_
                refine AllReadyH.cons rfl (fun K1 hK => ?_) AllReadyH.nil
                have x3 := Xq3.out.cell (j := 3) rfl
                go_simp
                try go_wp2_with fail
                clear x3
                refine hK.out _ _ ?_ (fun hHeld => ?_)
                · trivial
                clear hK K1
                try simp only [List.getElem_toArray]
                try simp only [List.getElem_cons_succ]
                try simp only [List.getElem_cons_zero]
                try simp only [Act.put]
                try simp only [List.setIfInBounds_toArray]
                try simp only [List.set_cons_succ]
                try simp only [List.set_cons_zero]
                refine wpAnyH_ready (rs := [6]) (by kernel_rfl) (by simp) ?_
                refine AllReadyH.cons rfl (fun K1 hK => ?_) AllReadyH.nil
                refine step_append_iw rfl _ _ rfl h8 _ _ rfl Rq3.out _ (tgN (rdW W j)) rfl N3.out (by have := HWL.out; simp; omega) Sq3.out ?_
                intro a4 n4 c4 vq9 hI hg _
                have hon := only_of_grown hg (R := fun y => (Value.slice xa xn xc).ownBlock = some y) (fun k q => q)
                have hlo : ∀ k, (Value.slice xa xn xc).ownBlock = some k → h8 ≤ k := fun k q => (Rq3.out.lt q).1
                have h8w := H8.out
                have Xq9 := hid (Xq3.out.to hon (fun q => by have := hlo _ q; omega))
                have Kq9 := hid (Kq3.out.to hon (fun q => by have := hlo _ q; omega))
                have Bq9 := hid (Bq3.out.trans (hon.below Bq3.out.size (fun b hb q => by have := hlo _ q; omega)))
                have Sq9 : Hid (h8 ≤ vq9.heap.size) := Nat.le_trans Sq3.out hon.size
                have Rq9 := hid hI
                have Wq9 := hid (Wq3.out.to hon (fun b hb _ q => by have := hlo _ q; have := hb.2; omega))
                clear hI hg hon hlo N3 Xq3 Rq3 Kq3 Wq3 Bq3 Sq3
                refine hK.out _ _ ?_ (fun hHeld => ?_)
                · trivial
                clear hK K1
                try simp only [List.getElem_toArray]
                try simp only [List.getElem_cons_succ]
                try simp only [List.getElem_cons_zero]
                try simp only [Act.put]
                try simp only [List.setIfInBounds_toArray]
                try simp only [List.set_cons_succ]
                try simp only [List.set_cons_zero]
                refine wpAnyH_take (i := 7) (v := (.pointer (some ⟨w.heap.size + 1, 3, none⟩))) rfl (by kernel_rfl) (by kernel_rfl) (by kernel_rfl) (fun _ _ _ h => h) (Or.inl ⟨by rfl, ?_⟩) (by assumption) ?_
                · intro w hSw
                  (try dsimp only at hSw)
                  go_simp
                try simp only [List.getElem_toArray]
                try simp only [List.getElem_cons_succ]
                try simp only [List.getElem_cons_zero]
                try simp only [Act.put]
                try simp only [List.setIfInBounds_toArray]
                try simp only [List.set_cons_succ]
                try simp only [List.set_cons_zero]
                have x3 := Xq9.out.cell (j := 3) rfl
                have f3 := Xq9.out.free 3
                have OX : Hid (Only (fun y => y = w.heap.size + 1) vq9 (vq9.setCell ⟨w.heap.size + 1, 3, none⟩ (.slice a4 n4 c4))) := only_set (R := fun y => y = w.heap.size + 1) (p := ⟨w.heap.size + 1, 3, none⟩) rfl _
                have Xq5 : Hid (Bk (vq9.setCell ⟨w.heap.size + 1, 3, none⟩ (.slice a4 n4 c4)) (w.heap.size + 1) 30 [.int .i64 7, .int .i64 (tgN (rdW W 1)), .int .i64 (tgN (rdW W 2)), .slice a4 n4 c4, .int .i64 0, .int .i64 0, .string ⟨#[]⟩, .string ⟨#[]⟩, .string ⟨#[]⟩, .string ⟨#[]⟩, .int .i64 0, .bool false]) := Xq9.out.set 3 _
                have Kq5 := hid (Kq9.out.to OX.out (by omega))
                have Bq5 := hid (Bq9.out.trans (OX.out.below Bq9.out.size (fun b hb q => by omega)))
                have Sq5 : Hid (h8 ≤ (vq9.setCell ⟨w.heap.size + 1, 3, none⟩ (.slice a4 n4 c4)).heap.size) := Nat.le_trans Sq9.out OX.out.size
                have Rq5 := hid (Rq9.out.to OX.out (fun k e q => by have := (Rq9.out.lt e).1; omega))
                have Wq5 := hid (Wq9.out.to OX.out (fun b hb _ q => by have := hb.1; omega))
                clear Xq9 Kq9 Bq9 Sq9 Rq9 Wq9 OX
                refine wpAnyH_ready (rs := [8]) (by kernel_rfl) (by simp) ?_
                refine AllReadyH.cons rfl (fun K1 hK => ?_) AllReadyH.nil
                go_simp
                try go_wp2_with fail
                refine hK.out _ _ ?_ (fun hHeld => ?_)
                · trivial
                clear hK K1
                try simp only [List.getElem_toArray]
                try simp only [List.getElem_cons_succ]
                try simp only [List.getElem_cons_zero]
                try simp only [Act.put]
                try simp only [List.setIfInBounds_toArray]
                try simp only [List.set_cons_succ]
                try simp only [List.set_cons_zero]
                refine wpAnyH_done (by kernel_rfl) ?_ _
                refine NoPanic.normal ?_
                generalize vq9.setCell ⟨w.heap.size + 1, 3, none⟩ (.slice a4 n4 c4) = vq5 at *
                clear x3 f3
                have hjl : j < W.length := by rw [← HWn.out]; exact hlt
                have HL5 : Hid (((W.drop 3).map tgN).take (j - 3) ++ [tgN (rdW W j)] = ((W.drop 3).map tgN).take (j + 1 - 3)) := by
                  show _ = _
                  have e : j + 1 - 3 = (j - 3) + 1 := by omega
                  have e2 : 3 + (j - 3) = j := by omega
                  have hlen : j - 3 < ((W.drop 3).map tgN).length := by rw [List.length_map, List.length_drop]; omega
                  rw [e, List.take_succ_eq_append_getElem hlen]
                  congr 1
                  simp [rdW, e2, hjl]
                rw [HL5.out] at Rq5
                clear HL5
                have hjb : j < 1048577 := by have := HWn.out; have := HWL.out; omega
                go_wp2
                go_roundw
                case rel => exact ⟨j + 1, a4, n4, c4, by go_num, by omega, .inl (by omega), Xq5.out, Rq5.out, Kq5.out, Bq5.out, Wq5.out, Sq5.out⟩
                case measure => simp [intOf]; omega
          · have hlt' : ¬ (j : Int) < (wn : Int) := by omega
            have HF : Hid (((W.drop 3).map tgN).take (j - 3) = (W.drop 3).map tgN) := List.take_of_length_le (by rw [List.length_map, List.length_drop]; have := HWn.out; omega)
            rw [HF.out] at HR
            have R8 := hid (HR.out.base (show w.heap.size + 2 ≤ h8 from H8.out))
            have X8 := HX
            have K8 := HK
            have B8 := HB
            have hxn : xn ≤ 1048576 := by
              have h1 := (Rw.len HR.out.ir).1
              have h2 := HWL.out
              have h3 : ((W.drop 3).map tgN).length ≤ 1048576 := by rw [List.length_map, List.length_drop]; omega
              omega
            clear HX HK HB HR HW HSZ HF
            generalize wr = v8 at *
            go_upto_region 18 with (fail)
            by_cases he : s = ⟨#[]⟩
            · have HV := hid (HI.out.2 (.inl he))
              have h0 : s.toList = [] := wb_nil.2 (by rw [he]; rfl)
              have h1 : s.toList.isEmpty = true := by rw [h0]; rfl
              clear he HI
              go_upto_region 19 with (fail)
              clear h0 h1
              have r0 := K8.out.cell (j := 0) rfl
              have rf0 := K8.out.free 0
              have r1 := K8.out.cell (j := 1) rfl
              have rf1 := K8.out.free 1
              have r2 := K8.out.cell (j := 2) rfl
              have rf2 := K8.out.free 2
              have r3 := K8.out.cell (j := 3) rfl
              have rf3 := K8.out.free 3
              have r4 := K8.out.cell (j := 4) rfl
              have rf4 := K8.out.free 4
              have r5 := K8.out.cell (j := 5) rfl
              have rf5 := K8.out.free 5
              have r6 := K8.out.cell (j := 6) rfl
              have rf6 := K8.out.free 6
              have r7 := K8.out.cell (j := 7) rfl
              have rf7 := K8.out.free 7
              have r8 := K8.out.cell (j := 8) rfl
              have rf8 := K8.out.free 8
              have r9 := K8.out.cell (j := 9) rfl
              have rf9 := K8.out.free 9
              have r10 := K8.out.cell (j := 10) rfl
              have rf10 := K8.out.free 10
              have r11 := K8.out.cell (j := 11) rfl
              have rf11 := K8.out.free 11
              have KF : Hid (Bk ((((((((((((v8.setCell ⟨w.heap.size, 0, none⟩ (.int .i64 0)).setCell ⟨w.heap.size, 1, none⟩ (.int .i64 0)).setCell ⟨w.heap.size, 2, none⟩ (.int .i64 0)).setCell ⟨w.heap.size, 3, none⟩ (.slice none 0 0)).setCell ⟨w.heap.size, 4, none⟩ (.int .i64 0)).setCell ⟨w.heap.size, 5, none⟩ (.int .i64 0)).setCell ⟨w.heap.size, 6, none⟩ (.string ⟨#[]⟩)).setCell ⟨w.heap.size, 7, none⟩ (.string ⟨#[]⟩)).setCell ⟨w.heap.size, 8, none⟩ (.string ⟨#[]⟩)).setCell ⟨w.heap.size, 9, none⟩ (.string ⟨#[]⟩)).setCell ⟨w.heap.size, 10, none⟩ (.int .i64 0)).setCell ⟨w.heap.size, 11, none⟩ (.bool false)) w.heap.size 30 [.int .i64 0, .int .i64 0, .int .i64 0, .slice none 0 0, .int .i64 0, .int .i64 0, .string ⟨#[]⟩, .string ⟨#[]⟩, .string ⟨#[]⟩, .string ⟨#[]⟩, .int .i64 0, .bool false]) := ((((((((((((K8.out.set 0 _).set 1 _).set 2 _).set 3 _).set 4 _).set 5 _).set 6 _).set 7 _).set 8 _).set 9 _).set 10 _).set 11 _)
              have OS : Hid (Only (fun y => y = w.heap.size) v8 ((((((((((((v8.setCell ⟨w.heap.size, 0, none⟩ (.int .i64 0)).setCell ⟨w.heap.size, 1, none⟩ (.int .i64 0)).setCell ⟨w.heap.size, 2, none⟩ (.int .i64 0)).setCell ⟨w.heap.size, 3, none⟩ (.slice none 0 0)).setCell ⟨w.heap.size, 4, none⟩ (.int .i64 0)).setCell ⟨w.heap.size, 5, none⟩ (.int .i64 0)).setCell ⟨w.heap.size, 6, none⟩ (.string ⟨#[]⟩)).setCell ⟨w.heap.size, 7, none⟩ (.string ⟨#[]⟩)).setCell ⟨w.heap.size, 8, none⟩ (.string ⟨#[]⟩)).setCell ⟨w.heap.size, 9, none⟩ (.string ⟨#[]⟩)).setCell ⟨w.heap.size, 10, none⟩ (.int .i64 0)).setCell ⟨w.heap.size, 11, none⟩ (.bool false))) := (only_step (only_step (only_step (only_step (only_step (only_step (only_step (only_step (only_step (only_step (only_step (only_set (R := fun y => y = w.heap.size) (p := ⟨w.heap.size, 0, none⟩) rfl _) rfl 1 _) rfl 2 _) rfl 3 _) rfl 4 _) rfl 5 _) rfl 6 _) rfl 7 _) rfl 8 _) rfl 9 _) rfl 10 _) rfl 11 _)
              have OFx : Hid (True ∨ Only (At 0) w ((((((((((((v8.setCell ⟨w.heap.size, 0, none⟩ (.int .i64 0)).setCell ⟨w.heap.size, 1, none⟩ (.int .i64 0)).setCell ⟨w.heap.size, 2, none⟩ (.int .i64 0)).setCell ⟨w.heap.size, 3, none⟩ (.slice none 0 0)).setCell ⟨w.heap.size, 4, none⟩ (.int .i64 0)).setCell ⟨w.heap.size, 5, none⟩ (.int .i64 0)).setCell ⟨w.heap.size, 6, none⟩ (.string ⟨#[]⟩)).setCell ⟨w.heap.size, 7, none⟩ (.string ⟨#[]⟩)).setCell ⟨w.heap.size, 8, none⟩ (.string ⟨#[]⟩)).setCell ⟨w.heap.size, 9, none⟩ (.string ⟨#[]⟩)).setCell ⟨w.heap.size, 10, none⟩ (.int .i64 0)).setCell ⟨w.heap.size, 11, none⟩ (.bool false))) := .inl trivial
              have BF := hid (B8.out.trans (OS.out.below B8.out.size (fun b hb q => by omega)))
              go_wp2
              try simp only [Exit.inBlock, Exit.then]
              refine bodyPost_ret (v := .tuple #[.agg #[.int .i64 0, .int .i64 0, .int .i64 0, .slice none 0 0, .int .i64 0, .int .i64 0, .string ⟨#[]⟩, .string ⟨#[]⟩, .string ⟨#[]⟩, .string ⟨#[]⟩, .int .i64 0, .bool false], .bool false]) ?_ rfl ?_
              · exact results_stepb rfl _ _ _ rfl rfl (KF.out.cell (j := 0) rfl) (KF.out.cell (j := 1) rfl) (KF.out.cell (j := 2) rfl) (KF.out.cell (j := 3) rfl) (KF.out.cell (j := 4) rfl) (KF.out.cell (j := 5) rfl) (KF.out.cell (j := 6) rfl) (KF.out.cell (j := 7) rfl) (KF.out.cell (j := 8) rfl) (KF.out.cell (j := 9) rfl) (KF.out.cell (j := 10) rfl) (KF.out.cell (j := 11) rfl)
              · exact ⟨none, 0, 0, by rw [HV.out.1, HV.out.2]; try rfl, by rw [HV.out.1]; exact World.ownsRow_nil _ _ _ _, BF.out⟩
            have h0 : ¬ (s.toList = []) := fun q => he (ByteArray.size_eq_zero_iff.1 (wb_nil.1 q))
            have h1 : s.toList.isEmpty = false := by
              cases q : s.toList with
              | nil => exact absurd q h0
              | cons _ _ => rfl
            have x0 := X8.out.cell (j := 0) rfl
            have x1 := X8.out.cell (j := 1) rfl
            have x2 := X8.out.cell (j := 2) rfl
            have x3 := X8.out.cell (j := 3) rfl
            have x4 := X8.out.cell (j := 4) rfl
            have x5 := X8.out.cell (j := 5) rfl
            have x6 := X8.out.cell (j := 6) rfl
            have x7 := X8.out.cell (j := 7) rfl
            have x8 := X8.out.cell (j := 8) rfl
            have x9 := X8.out.cell (j := 9) rfl
            have x10 := X8.out.cell (j := 10) rfl
            have x11 := X8.out.cell (j := 11) rfl
            have CS := hid (specStepText_any _ (7) (tgN (rdW W 1)) (tgN (rdW W 2)) xa xn xc ((W.drop 3).map tgN) (0) (0) (⟨#[]⟩) (⟨#[]⟩) (⟨#[]⟩) (⟨#[]⟩) (0) (false) _ R8.out.ir hxn)
            go_wp2_with fail
            refine CS.out.mono ?_
            rintro r v90 ⟨rfl, hb⟩
            have X90 := hid (X8.out.below hb)
            have B90 := hid (B8.out.trans (hb.mono B8.out.size))
            have K90 := hid (K8.out.below hb)
            have R90 := hid (R8.out.below hb)
            rw [← HSY.out]
            clear hb X8 B8 K8 CS h0 h1 R8 x0 x1 x2 x3 x4 x5 x6 x7 x8 x9 x10 x11
            by_cases hq : stT (stS W) = s
            · have HV := hid (HI.out.1 ⟨he, hq⟩)
              have hne : (s.toList == s.toList) = true := bl_same s
              rw [hq]
              clear hq he HI
              go_upto_region 20 with (fail)
              clear hne
              have x0 := X90.out.cell (j := 0) rfl
              have x1 := X90.out.cell (j := 1) rfl
              have x2 := X90.out.cell (j := 2) rfl
              have x3 := X90.out.cell (j := 3) rfl
              have x4 := X90.out.cell (j := 4) rfl
              have x5 := X90.out.cell (j := 5) rfl
              have x6 := X90.out.cell (j := 6) rfl
              have x7 := X90.out.cell (j := 7) rfl
              have x8 := X90.out.cell (j := 8) rfl
              have x9 := X90.out.cell (j := 9) rfl
              have x10 := X90.out.cell (j := 10) rfl
              have x11 := X90.out.cell (j := 11) rfl
              have r0 := K90.out.cell (j := 0) rfl
              have rf0 := K90.out.free 0
              have r1 := K90.out.cell (j := 1) rfl
              have rf1 := K90.out.free 1
              have r2 := K90.out.cell (j := 2) rfl
              have rf2 := K90.out.free 2
              have r3 := K90.out.cell (j := 3) rfl
              have rf3 := K90.out.free 3
              have r4 := K90.out.cell (j := 4) rfl
              have rf4 := K90.out.free 4
              have r5 := K90.out.cell (j := 5) rfl
              have rf5 := K90.out.free 5
              have r6 := K90.out.cell (j := 6) rfl
              have rf6 := K90.out.free 6
              have r7 := K90.out.cell (j := 7) rfl
              have rf7 := K90.out.free 7
              have r8 := K90.out.cell (j := 8) rfl
              have rf8 := K90.out.free 8
              have r9 := K90.out.cell (j := 9) rfl
              have rf9 := K90.out.free 9
              have r10 := K90.out.cell (j := 10) rfl
              have rf10 := K90.out.free 10
              have r11 := K90.out.cell (j := 11) rfl
              have rf11 := K90.out.free 11
              have KF : Hid (Bk ((((((((((((v90.setCell ⟨w.heap.size, 0, none⟩ (.int .i64 7)).setCell ⟨w.heap.size, 1, none⟩ (.int .i64 (tgN (rdW W 1)))).setCell ⟨w.heap.size, 2, none⟩ (.int .i64 (tgN (rdW W 2)))).setCell ⟨w.heap.size, 3, none⟩ (.slice xa xn xc)).setCell ⟨w.heap.size, 4, none⟩ (.int .i64 0)).setCell ⟨w.heap.size, 5, none⟩ (.int .i64 0)).setCell ⟨w.heap.size, 6, none⟩ (.string ⟨#[]⟩)).setCell ⟨w.heap.size, 7, none⟩ (.string ⟨#[]⟩)).setCell ⟨w.heap.size, 8, none⟩ (.string ⟨#[]⟩)).setCell ⟨w.heap.size, 9, none⟩ (.string ⟨#[]⟩)).setCell ⟨w.heap.size, 10, none⟩ (.int .i64 0)).setCell ⟨w.heap.size, 11, none⟩ (.bool false)) w.heap.size 30 [.int .i64 7, .int .i64 (tgN (rdW W 1)), .int .i64 (tgN (rdW W 2)), .slice xa xn xc, .int .i64 0, .int .i64 0, .string ⟨#[]⟩, .string ⟨#[]⟩, .string ⟨#[]⟩, .string ⟨#[]⟩, .int .i64 0, .bool false]) := ((((((((((((K90.out.set 0 _).set 1 _).set 2 _).set 3 _).set 4 _).set 5 _).set 6 _).set 7 _).set 8 _).set 9 _).set 10 _).set 11 _)
              have OS : Hid (Only (fun y => y = w.heap.size) v90 ((((((((((((v90.setCell ⟨w.heap.size, 0, none⟩ (.int .i64 7)).setCell ⟨w.heap.size, 1, none⟩ (.int .i64 (tgN (rdW W 1)))).setCell ⟨w.heap.size, 2, none⟩ (.int .i64 (tgN (rdW W 2)))).setCell ⟨w.heap.size, 3, none⟩ (.slice xa xn xc)).setCell ⟨w.heap.size, 4, none⟩ (.int .i64 0)).setCell ⟨w.heap.size, 5, none⟩ (.int .i64 0)).setCell ⟨w.heap.size, 6, none⟩ (.string ⟨#[]⟩)).setCell ⟨w.heap.size, 7, none⟩ (.string ⟨#[]⟩)).setCell ⟨w.heap.size, 8, none⟩ (.string ⟨#[]⟩)).setCell ⟨w.heap.size, 9, none⟩ (.string ⟨#[]⟩)).setCell ⟨w.heap.size, 10, none⟩ (.int .i64 0)).setCell ⟨w.heap.size, 11, none⟩ (.bool false))) := (only_step (only_step (only_step (only_step (only_step (only_step (only_step (only_step (only_step (only_step (only_step (only_set (R := fun y => y = w.heap.size) (p := ⟨w.heap.size, 0, none⟩) rfl _) rfl 1 _) rfl 2 _) rfl 3 _) rfl 4 _) rfl 5 _) rfl 6 _) rfl 7 _) rfl 8 _) rfl 9 _) rfl 10 _) rfl 11 _)
              have OFx : Hid (True ∨ Only (At 0) w ((((((((((((v90.setCell ⟨w.heap.size, 0, none⟩ (.int .i64 7)).setCell ⟨w.heap.size, 1, none⟩ (.int .i64 (tgN (rdW W 1)))).setCell ⟨w.heap.size, 2, none⟩ (.int .i64 (tgN (rdW W 2)))).setCell ⟨w.heap.size, 3, none⟩ (.slice xa xn xc)).setCell ⟨w.heap.size, 4, none⟩ (.int .i64 0)).setCell ⟨w.heap.size, 5, none⟩ (.int .i64 0)).setCell ⟨w.heap.size, 6, none⟩ (.string ⟨#[]⟩)).setCell ⟨w.heap.size, 7, none⟩ (.string ⟨#[]⟩)).setCell ⟨w.heap.size, 8, none⟩ (.string ⟨#[]⟩)).setCell ⟨w.heap.size, 9, none⟩ (.string ⟨#[]⟩)).setCell ⟨w.heap.size, 10, none⟩ (.int .i64 0)).setCell ⟨w.heap.size, 11, none⟩ (.bool false))) := .inl trivial
              have BF := hid (B90.out.trans (OS.out.below B90.out.size (fun b hb q => by omega)))
              have IF := hid ((R90.out.to OS.out (fun q e r => by have := (R90.out.lt e).1; omega)).base (show w.heap.size ≤ w.heap.size + 2 by omega))
              rw [HSY.out] at HV
              go_wp2
              try simp only [Exit.inBlock, Exit.then]
              refine bodyPost_ret (v := .tuple #[.agg #[.int .i64 7, .int .i64 (tgN (rdW W 1)), .int .i64 (tgN (rdW W 2)), .slice xa xn xc, .int .i64 0, .int .i64 0, .string ⟨#[]⟩, .string ⟨#[]⟩, .string ⟨#[]⟩, .string ⟨#[]⟩, .int .i64 0, .bool false], .bool true]) ?_ rfl ?_
              · exact results_stepb rfl _ _ _ rfl rfl (KF.out.cell (j := 0) rfl) (KF.out.cell (j := 1) rfl) (KF.out.cell (j := 2) rfl) (KF.out.cell (j := 3) rfl) (KF.out.cell (j := 4) rfl) (KF.out.cell (j := 5) rfl) (KF.out.cell (j := 6) rfl) (KF.out.cell (j := 7) rfl) (KF.out.cell (j := 8) rfl) (KF.out.cell (j := 9) rfl) (KF.out.cell (j := 10) rfl) (KF.out.cell (j := 11) rfl)
              · exact ⟨xa, xn, xc, by rw [HV.out.1, HV.out.2]; try rfl, by rw [HV.out.1]; exact IF.out, BF.out⟩
            · have HV := hid (HI.out.2 (.inr hq))
              have hne : ((stT (stS W)).toList == s.toList) = false := str_ne hq
              clear hq he HI
              go_upto_region 19 with (fail)
              clear hne
              have r0 := K90.out.cell (j := 0) rfl
              have rf0 := K90.out.free 0
              have r1 := K90.out.cell (j := 1) rfl
              have rf1 := K90.out.free 1
              have r2 := K90.out.cell (j := 2) rfl
              have rf2 := K90.out.free 2
              have r3 := K90.out.cell (j := 3) rfl
              have rf3 := K90.out.free 3
              have r4 := K90.out.cell (j := 4) rfl
              have rf4 := K90.out.free 4
              have r5 := K90.out.cell (j := 5) rfl
              have rf5 := K90.out.free 5
              have r6 := K90.out.cell (j := 6) rfl
              have rf6 := K90.out.free 6
              have r7 := K90.out.cell (j := 7) rfl
              have rf7 := K90.out.free 7
              have r8 := K90.out.cell (j := 8) rfl
              have rf8 := K90.out.free 8
              have r9 := K90.out.cell (j := 9) rfl
              have rf9 := K90.out.free 9
              have r10 := K90.out.cell (j := 10) rfl
              have rf10 := K90.out.free 10
              have r11 := K90.out.cell (j := 11) rfl
              have rf11 := K90.out.free 11
              have KF : Hid (Bk ((((((((((((v90.setCell ⟨w.heap.size, 0, none⟩ (.int .i64 0)).setCell ⟨w.heap.size, 1, none⟩ (.int .i64 0)).setCell ⟨w.heap.size, 2, none⟩ (.int .i64 0)).setCell ⟨w.heap.size, 3, none⟩ (.slice none 0 0)).setCell ⟨w.heap.size, 4, none⟩ (.int .i64 0)).setCell ⟨w.heap.size, 5, none⟩ (.int .i64 0)).setCell ⟨w.heap.size, 6, none⟩ (.string ⟨#[]⟩)).setCell ⟨w.heap.size, 7, none⟩ (.string ⟨#[]⟩)).setCell ⟨w.heap.size, 8, none⟩ (.string ⟨#[]⟩)).setCell ⟨w.heap.size, 9, none⟩ (.string ⟨#[]⟩)).setCell ⟨w.heap.size, 10, none⟩ (.int .i64 0)).setCell ⟨w.heap.size, 11, none⟩ (.bool false)) w.heap.size 30 [.int .i64 0, .int .i64 0, .int .i64 0, .slice none 0 0, .int .i64 0, .int .i64 0, .string ⟨#[]⟩, .string ⟨#[]⟩, .string ⟨#[]⟩, .string ⟨#[]⟩, .int .i64 0, .bool false]) := ((((((((((((K90.out.set 0 _).set 1 _).set 2 _).set 3 _).set 4 _).set 5 _).set 6 _).set 7 _).set 8 _).set 9 _).set 10 _).set 11 _)
              have OS : Hid (Only (fun y => y = w.heap.size) v90 ((((((((((((v90.setCell ⟨w.heap.size, 0, none⟩ (.int .i64 0)).setCell ⟨w.heap.size, 1, none⟩ (.int .i64 0)).setCell ⟨w.heap.size, 2, none⟩ (.int .i64 0)).setCell ⟨w.heap.size, 3, none⟩ (.slice none 0 0)).setCell ⟨w.heap.size, 4, none⟩ (.int .i64 0)).setCell ⟨w.heap.size, 5, none⟩ (.int .i64 0)).setCell ⟨w.heap.size, 6, none⟩ (.string ⟨#[]⟩)).setCell ⟨w.heap.size, 7, none⟩ (.string ⟨#[]⟩)).setCell ⟨w.heap.size, 8, none⟩ (.string ⟨#[]⟩)).setCell ⟨w.heap.size, 9, none⟩ (.string ⟨#[]⟩)).setCell ⟨w.heap.size, 10, none⟩ (.int .i64 0)).setCell ⟨w.heap.size, 11, none⟩ (.bool false))) := (only_step (only_step (only_step (only_step (only_step (only_step (only_step (only_step (only_step (only_step (only_step (only_set (R := fun y => y = w.heap.size) (p := ⟨w.heap.size, 0, none⟩) rfl _) rfl 1 _) rfl 2 _) rfl 3 _) rfl 4 _) rfl 5 _) rfl 6 _) rfl 7 _) rfl 8 _) rfl 9 _) rfl 10 _) rfl 11 _)
              have OFx : Hid (True ∨ Only (At 0) w ((((((((((((v90.setCell ⟨w.heap.size, 0, none⟩ (.int .i64 0)).setCell ⟨w.heap.size, 1, none⟩ (.int .i64 0)).setCell ⟨w.heap.size, 2, none⟩ (.int .i64 0)).setCell ⟨w.heap.size, 3, none⟩ (.slice none 0 0)).setCell ⟨w.heap.size, 4, none⟩ (.int .i64 0)).setCell ⟨w.heap.size, 5, none⟩ (.int .i64 0)).setCell ⟨w.heap.size, 6, none⟩ (.string ⟨#[]⟩)).setCell ⟨w.heap.size, 7, none⟩ (.string ⟨#[]⟩)).setCell ⟨w.heap.size, 8, none⟩ (.string ⟨#[]⟩)).setCell ⟨w.heap.size, 9, none⟩ (.string ⟨#[]⟩)).setCell ⟨w.heap.size, 10, none⟩ (.int .i64 0)).setCell ⟨w.heap.size, 11, none⟩ (.bool false))) := .inl trivial
              have BF := hid (B90.out.trans (OS.out.below B90.out.size (fun b hb q => by omega)))
              go_wp2
              try simp only [Exit.inBlock, Exit.then]
              refine bodyPost_ret (v := .tuple #[.agg #[.int .i64 0, .int .i64 0, .int .i64 0, .slice none 0 0, .int .i64 0, .int .i64 0, .string ⟨#[]⟩, .string ⟨#[]⟩, .string ⟨#[]⟩, .string ⟨#[]⟩, .int .i64 0, .bool false], .bool false]) ?_ rfl ?_
              · exact results_stepb rfl _ _ _ rfl rfl (KF.out.cell (j := 0) rfl) (KF.out.cell (j := 1) rfl) (KF.out.cell (j := 2) rfl) (KF.out.cell (j := 3) rfl) (KF.out.cell (j := 4) rfl) (KF.out.cell (j := 5) rfl) (KF.out.cell (j := 6) rfl) (KF.out.cell (j := 7) rfl) (KF.out.cell (j := 8) rfl) (KF.out.cell (j := 9) rfl) (KF.out.cell (j := 10) rfl) (KF.out.cell (j := 11) rfl)
              · exact ⟨none, 0, 0, by rw [HV.out.1, HV.out.2]; try rfl, by rw [HV.out.1]; exact World.ownsRow_nil _ _ _ _, BF.out⟩
      have HSY : Hid (stS W = ⟨kk, tgN (rdW W 1), 0, [], 0, 0, ⟨#[]⟩, ⟨#[]⟩, ⟨#[]⟩, ⟨#[]⟩, 0, false⟩) := stS_e hkk h1 h7
      clear hkk
      have CA := hid (CN.out v4 1 W4.out)
      go_wp2_with fail
      refine CA.out.mono ?_
      rintro r v5 ⟨rfl, hb⟩
      have X5 := hid (X4.out.below hb)
      have K5 := hid (K4.out.below hb)
      have B5 := hid (B4.out.trans (hb.mono B4.out.size))
      have W5 := hid (W4.out.below hb)
      clear hb X4 K4 B4 W4 CA
      have x0 := X5.out.cell (j := 0) rfl
      have x1 := X5.out.cell (j := 1) rfl
      have f1 := X5.out.free 1
      have X6 : Hid (Bk (v5.setCell ⟨w.heap.size + 1, 1, none⟩ (.int .i64 (tgN (rdW W 1)))) (w.heap.size + 1) 30 [.int .i64 kk, .int .i64 (tgN (rdW W 1)), .int .i64 0, .slice none 0 0, .int .i64 0, .int .i64 0, .string ⟨#[]⟩, .string ⟨#[]⟩, .string ⟨#[]⟩, .string ⟨#[]⟩, .int .i64 0, .bool false]) := (X5.out.set 1 _)
      have OX : Hid (Only (fun y => y = w.heap.size + 1) v5 (v5.setCell ⟨w.heap.size + 1, 1, none⟩ (.int .i64 (tgN (rdW W 1))))) := (only_set (R := fun y => y = w.heap.size + 1) (p := ⟨w.heap.size + 1, 1, none⟩) rfl _)
      have K6 := hid (K5.out.to OX.out (by omega))
      have B6 := hid (B5.out.trans (OX.out.below B5.out.size (fun b hb q => by omega)))
      have W6 := hid (W5.out.to OX.out (fun b hb _ q => by omega))
      clear OX X5 K5 B5 W5
      go_upto_region 18 with (fail)
      generalize v5.setCell ⟨w.heap.size + 1, 1, none⟩ (.int .i64 (tgN (rdW W 1))) = v6 at *
      clear x0 x1 f1
      by_cases he : s = ⟨#[]⟩
      · have HV := hid (HI.out.2 (.inl he))
        have h0 : s.toList = [] := wb_nil.2 (by rw [he]; rfl)
        have h1 : s.toList.isEmpty = true := by rw [h0]; rfl
        clear he HI
        go_upto_region 19 with (fail)
        clear h0 h1
        have r0 := K6.out.cell (j := 0) rfl
        have rf0 := K6.out.free 0
        have r1 := K6.out.cell (j := 1) rfl
        have rf1 := K6.out.free 1
        have r2 := K6.out.cell (j := 2) rfl
        have rf2 := K6.out.free 2
        have r3 := K6.out.cell (j := 3) rfl
        have rf3 := K6.out.free 3
        have r4 := K6.out.cell (j := 4) rfl
        have rf4 := K6.out.free 4
        have r5 := K6.out.cell (j := 5) rfl
        have rf5 := K6.out.free 5
        have r6 := K6.out.cell (j := 6) rfl
        have rf6 := K6.out.free 6
        have r7 := K6.out.cell (j := 7) rfl
        have rf7 := K6.out.free 7
        have r8 := K6.out.cell (j := 8) rfl
        have rf8 := K6.out.free 8
        have r9 := K6.out.cell (j := 9) rfl
        have rf9 := K6.out.free 9
        have r10 := K6.out.cell (j := 10) rfl
        have rf10 := K6.out.free 10
        have r11 := K6.out.cell (j := 11) rfl
        have rf11 := K6.out.free 11
        have KF : Hid (Bk ((((((((((((v6.setCell ⟨w.heap.size, 0, none⟩ (.int .i64 0)).setCell ⟨w.heap.size, 1, none⟩ (.int .i64 0)).setCell ⟨w.heap.size, 2, none⟩ (.int .i64 0)).setCell ⟨w.heap.size, 3, none⟩ (.slice none 0 0)).setCell ⟨w.heap.size, 4, none⟩ (.int .i64 0)).setCell ⟨w.heap.size, 5, none⟩ (.int .i64 0)).setCell ⟨w.heap.size, 6, none⟩ (.string ⟨#[]⟩)).setCell ⟨w.heap.size, 7, none⟩ (.string ⟨#[]⟩)).setCell ⟨w.heap.size, 8, none⟩ (.string ⟨#[]⟩)).setCell ⟨w.heap.size, 9, none⟩ (.string ⟨#[]⟩)).setCell ⟨w.heap.size, 10, none⟩ (.int .i64 0)).setCell ⟨w.heap.size, 11, none⟩ (.bool false)) w.heap.size 30 [.int .i64 0, .int .i64 0, .int .i64 0, .slice none 0 0, .int .i64 0, .int .i64 0, .string ⟨#[]⟩, .string ⟨#[]⟩, .string ⟨#[]⟩, .string ⟨#[]⟩, .int .i64 0, .bool false]) := ((((((((((((K6.out.set 0 _).set 1 _).set 2 _).set 3 _).set 4 _).set 5 _).set 6 _).set 7 _).set 8 _).set 9 _).set 10 _).set 11 _)
        have OS : Hid (Only (fun y => y = w.heap.size) v6 ((((((((((((v6.setCell ⟨w.heap.size, 0, none⟩ (.int .i64 0)).setCell ⟨w.heap.size, 1, none⟩ (.int .i64 0)).setCell ⟨w.heap.size, 2, none⟩ (.int .i64 0)).setCell ⟨w.heap.size, 3, none⟩ (.slice none 0 0)).setCell ⟨w.heap.size, 4, none⟩ (.int .i64 0)).setCell ⟨w.heap.size, 5, none⟩ (.int .i64 0)).setCell ⟨w.heap.size, 6, none⟩ (.string ⟨#[]⟩)).setCell ⟨w.heap.size, 7, none⟩ (.string ⟨#[]⟩)).setCell ⟨w.heap.size, 8, none⟩ (.string ⟨#[]⟩)).setCell ⟨w.heap.size, 9, none⟩ (.string ⟨#[]⟩)).setCell ⟨w.heap.size, 10, none⟩ (.int .i64 0)).setCell ⟨w.heap.size, 11, none⟩ (.bool false))) := (only_step (only_step (only_step (only_step (only_step (only_step (only_step (only_step (only_step (only_step (only_step (only_set (R := fun y => y = w.heap.size) (p := ⟨w.heap.size, 0, none⟩) rfl _) rfl 1 _) rfl 2 _) rfl 3 _) rfl 4 _) rfl 5 _) rfl 6 _) rfl 7 _) rfl 8 _) rfl 9 _) rfl 10 _) rfl 11 _)
        have OFx : Hid (True ∨ Only (At 0) w ((((((((((((v6.setCell ⟨w.heap.size, 0, none⟩ (.int .i64 0)).setCell ⟨w.heap.size, 1, none⟩ (.int .i64 0)).setCell ⟨w.heap.size, 2, none⟩ (.int .i64 0)).setCell ⟨w.heap.size, 3, none⟩ (.slice none 0 0)).setCell ⟨w.heap.size, 4, none⟩ (.int .i64 0)).setCell ⟨w.heap.size, 5, none⟩ (.int .i64 0)).setCell ⟨w.heap.size, 6, none⟩ (.string ⟨#[]⟩)).setCell ⟨w.heap.size, 7, none⟩ (.string ⟨#[]⟩)).setCell ⟨w.heap.size, 8, none⟩ (.string ⟨#[]⟩)).setCell ⟨w.heap.size, 9, none⟩ (.string ⟨#[]⟩)).setCell ⟨w.heap.size, 10, none⟩ (.int .i64 0)).setCell ⟨w.heap.size, 11, none⟩ (.bool false))) := .inl trivial
        have BF := hid (B6.out.trans (OS.out.below B6.out.size (fun b hb q => by omega)))
        go_wp2
        try simp only [Exit.inBlock, Exit.then]
        refine bodyPost_ret (v := .tuple #[.agg #[.int .i64 0, .int .i64 0, .int .i64 0, .slice none 0 0, .int .i64 0, .int .i64 0, .string ⟨#[]⟩, .string ⟨#[]⟩, .string ⟨#[]⟩, .string ⟨#[]⟩, .int .i64 0, .bool false], .bool false]) ?_ rfl ?_
        · exact results_stepb rfl _ _ _ rfl rfl (KF.out.cell (j := 0) rfl) (KF.out.cell (j := 1) rfl) (KF.out.cell (j := 2) rfl) (KF.out.cell (j := 3) rfl) (KF.out.cell (j := 4) rfl) (KF.out.cell (j := 5) rfl) (KF.out.cell (j := 6) rfl) (KF.out.cell (j := 7) rfl) (KF.out.cell (j := 8) rfl) (KF.out.cell (j := 9) rfl) (KF.out.cell (j := 10) rfl) (KF.out.cell (j := 11) rfl)
        · exact ⟨none, 0, 0, by rw [HV.out.1, HV.out.2]; try rfl, by rw [HV.out.1]; exact World.ownsRow_nil _ _ _ _, BF.out⟩
      have h0 : ¬ (s.toList = []) := fun q => he (ByteArray.size_eq_zero_iff.1 (wb_nil.1 q))
      have h1 : s.toList.isEmpty = false := by
        cases q : s.toList with
        | nil => exact absurd q h0
        | cons _ _ => rfl
      have x0 := X6.out.cell (j := 0) rfl
      have x1 := X6.out.cell (j := 1) rfl
      have x2 := X6.out.cell (j := 2) rfl
      have x3 := X6.out.cell (j := 3) rfl
      have x4 := X6.out.cell (j := 4) rfl
      have x5 := X6.out.cell (j := 5) rfl
      have x6 := X6.out.cell (j := 6) rfl
      have x7 := X6.out.cell (j := 7) rfl
      have x8 := X6.out.cell (j := 8) rfl
      have x9 := X6.out.cell (j := 9) rfl
      have x10 := X6.out.cell (j := 10) rfl
      have x11 := X6.out.cell (j := 11) rfl
      have CS := hid (specStepText_any _ (kk) (tgN (rdW W 1)) (0) none 0 0 ([]) (0) (0) (⟨#[]⟩) (⟨#[]⟩) (⟨#[]⟩) (⟨#[]⟩) (0) (false) _ (show Ir v6 (fun b => w.heap.size + 2 ≤ b) (.slice none 0 0) [] from rw_nil _ _) (by decide))
      go_wp2_with fail
      refine CS.out.mono ?_
      rintro r v90 ⟨rfl, hb⟩
      have X90 := hid (X6.out.below hb)
      have B90 := hid (B6.out.trans (hb.mono B6.out.size))
      have K90 := hid (K6.out.below hb)
      rw [← HSY.out]
      clear hb X6 B6 K6 CS h0 h1 x0 x1 x2 x3 x4 x5 x6 x7 x8 x9 x10 x11
      by_cases hq : stT (stS W) = s
      · have HV := hid (HI.out.1 ⟨he, hq⟩)
        have hne : (s.toList == s.toList) = true := bl_same s
        rw [hq]
        clear hq he HI
        go_upto_region 20 with (fail)
        clear hne
        have x0 := X90.out.cell (j := 0) rfl
        have x1 := X90.out.cell (j := 1) rfl
        have x2 := X90.out.cell (j := 2) rfl
        have x3 := X90.out.cell (j := 3) rfl
        have x4 := X90.out.cell (j := 4) rfl
        have x5 := X90.out.cell (j := 5) rfl
        have x6 := X90.out.cell (j := 6) rfl
        have x7 := X90.out.cell (j := 7) rfl
        have x8 := X90.out.cell (j := 8) rfl
        have x9 := X90.out.cell (j := 9) rfl
        have x10 := X90.out.cell (j := 10) rfl
        have x11 := X90.out.cell (j := 11) rfl
        have r0 := K90.out.cell (j := 0) rfl
        have rf0 := K90.out.free 0
        have r1 := K90.out.cell (j := 1) rfl
        have rf1 := K90.out.free 1
        have r2 := K90.out.cell (j := 2) rfl
        have rf2 := K90.out.free 2
        have r3 := K90.out.cell (j := 3) rfl
        have rf3 := K90.out.free 3
        have r4 := K90.out.cell (j := 4) rfl
        have rf4 := K90.out.free 4
        have r5 := K90.out.cell (j := 5) rfl
        have rf5 := K90.out.free 5
        have r6 := K90.out.cell (j := 6) rfl
        have rf6 := K90.out.free 6
        have r7 := K90.out.cell (j := 7) rfl
        have rf7 := K90.out.free 7
        have r8 := K90.out.cell (j := 8) rfl
        have rf8 := K90.out.free 8
        have r9 := K90.out.cell (j := 9) rfl
        have rf9 := K90.out.free 9
        have r10 := K90.out.cell (j := 10) rfl
        have rf10 := K90.out.free 10
        have r11 := K90.out.cell (j := 11) rfl
        have rf11 := K90.out.free 11
        have KF : Hid (Bk ((((((((((((v90.setCell ⟨w.heap.size, 0, none⟩ (.int .i64 kk)).setCell ⟨w.heap.size, 1, none⟩ (.int .i64 (tgN (rdW W 1)))).setCell ⟨w.heap.size, 2, none⟩ (.int .i64 0)).setCell ⟨w.heap.size, 3, none⟩ (.slice none 0 0)).setCell ⟨w.heap.size, 4, none⟩ (.int .i64 0)).setCell ⟨w.heap.size, 5, none⟩ (.int .i64 0)).setCell ⟨w.heap.size, 6, none⟩ (.string ⟨#[]⟩)).setCell ⟨w.heap.size, 7, none⟩ (.string ⟨#[]⟩)).setCell ⟨w.heap.size, 8, none⟩ (.string ⟨#[]⟩)).setCell ⟨w.heap.size, 9, none⟩ (.string ⟨#[]⟩)).setCell ⟨w.heap.size, 10, none⟩ (.int .i64 0)).setCell ⟨w.heap.size, 11, none⟩ (.bool false)) w.heap.size 30 [.int .i64 kk, .int .i64 (tgN (rdW W 1)), .int .i64 0, .slice none 0 0, .int .i64 0, .int .i64 0, .string ⟨#[]⟩, .string ⟨#[]⟩, .string ⟨#[]⟩, .string ⟨#[]⟩, .int .i64 0, .bool false]) := ((((((((((((K90.out.set 0 _).set 1 _).set 2 _).set 3 _).set 4 _).set 5 _).set 6 _).set 7 _).set 8 _).set 9 _).set 10 _).set 11 _)
        have OS : Hid (Only (fun y => y = w.heap.size) v90 ((((((((((((v90.setCell ⟨w.heap.size, 0, none⟩ (.int .i64 kk)).setCell ⟨w.heap.size, 1, none⟩ (.int .i64 (tgN (rdW W 1)))).setCell ⟨w.heap.size, 2, none⟩ (.int .i64 0)).setCell ⟨w.heap.size, 3, none⟩ (.slice none 0 0)).setCell ⟨w.heap.size, 4, none⟩ (.int .i64 0)).setCell ⟨w.heap.size, 5, none⟩ (.int .i64 0)).setCell ⟨w.heap.size, 6, none⟩ (.string ⟨#[]⟩)).setCell ⟨w.heap.size, 7, none⟩ (.string ⟨#[]⟩)).setCell ⟨w.heap.size, 8, none⟩ (.string ⟨#[]⟩)).setCell ⟨w.heap.size, 9, none⟩ (.string ⟨#[]⟩)).setCell ⟨w.heap.size, 10, none⟩ (.int .i64 0)).setCell ⟨w.heap.size, 11, none⟩ (.bool false))) := (only_step (only_step (only_step (only_step (only_step (only_step (only_step (only_step (only_step (only_step (only_step (only_set (R := fun y => y = w.heap.size) (p := ⟨w.heap.size, 0, none⟩) rfl _) rfl 1 _) rfl 2 _) rfl 3 _) rfl 4 _) rfl 5 _) rfl 6 _) rfl 7 _) rfl 8 _) rfl 9 _) rfl 10 _) rfl 11 _)
        have OFx : Hid (True ∨ Only (At 0) w ((((((((((((v90.setCell ⟨w.heap.size, 0, none⟩ (.int .i64 kk)).setCell ⟨w.heap.size, 1, none⟩ (.int .i64 (tgN (rdW W 1)))).setCell ⟨w.heap.size, 2, none⟩ (.int .i64 0)).setCell ⟨w.heap.size, 3, none⟩ (.slice none 0 0)).setCell ⟨w.heap.size, 4, none⟩ (.int .i64 0)).setCell ⟨w.heap.size, 5, none⟩ (.int .i64 0)).setCell ⟨w.heap.size, 6, none⟩ (.string ⟨#[]⟩)).setCell ⟨w.heap.size, 7, none⟩ (.string ⟨#[]⟩)).setCell ⟨w.heap.size, 8, none⟩ (.string ⟨#[]⟩)).setCell ⟨w.heap.size, 9, none⟩ (.string ⟨#[]⟩)).setCell ⟨w.heap.size, 10, none⟩ (.int .i64 0)).setCell ⟨w.heap.size, 11, none⟩ (.bool false))) := .inl trivial
        have BF := hid (B90.out.trans (OS.out.below B90.out.size (fun b hb q => by omega)))
        rw [HSY.out] at HV
        go_wp2
        try simp only [Exit.inBlock, Exit.then]
        refine bodyPost_ret (v := .tuple #[.agg #[.int .i64 kk, .int .i64 (tgN (rdW W 1)), .int .i64 0, .slice none 0 0, .int .i64 0, .int .i64 0, .string ⟨#[]⟩, .string ⟨#[]⟩, .string ⟨#[]⟩, .string ⟨#[]⟩, .int .i64 0, .bool false], .bool true]) ?_ rfl ?_
        · exact results_stepb rfl _ _ _ rfl rfl (KF.out.cell (j := 0) rfl) (KF.out.cell (j := 1) rfl) (KF.out.cell (j := 2) rfl) (KF.out.cell (j := 3) rfl) (KF.out.cell (j := 4) rfl) (KF.out.cell (j := 5) rfl) (KF.out.cell (j := 6) rfl) (KF.out.cell (j := 7) rfl) (KF.out.cell (j := 8) rfl) (KF.out.cell (j := 9) rfl) (KF.out.cell (j := 10) rfl) (KF.out.cell (j := 11) rfl)
        · exact ⟨none, 0, 0, by rw [HV.out.1, HV.out.2]; try rfl, by rw [HV.out.1]; exact World.ownsRow_nil _ _ _ _, BF.out⟩
      · have HV := hid (HI.out.2 (.inr hq))
        have hne : ((stT (stS W)).toList == s.toList) = false := str_ne hq
        clear hq he HI
        go_upto_region 19 with (fail)
        clear hne
        have r0 := K90.out.cell (j := 0) rfl
        have rf0 := K90.out.free 0
        have r1 := K90.out.cell (j := 1) rfl
        have rf1 := K90.out.free 1
        have r2 := K90.out.cell (j := 2) rfl
        have rf2 := K90.out.free 2
        have r3 := K90.out.cell (j := 3) rfl
        have rf3 := K90.out.free 3
        have r4 := K90.out.cell (j := 4) rfl
        have rf4 := K90.out.free 4
        have r5 := K90.out.cell (j := 5) rfl
        have rf5 := K90.out.free 5
        have r6 := K90.out.cell (j := 6) rfl
        have rf6 := K90.out.free 6
        have r7 := K90.out.cell (j := 7) rfl
        have rf7 := K90.out.free 7
        have r8 := K90.out.cell (j := 8) rfl
        have rf8 := K90.out.free 8
        have r9 := K90.out.cell (j := 9) rfl
        have rf9 := K90.out.free 9
        have r10 := K90.out.cell (j := 10) rfl
        have rf10 := K90.out.free 10
        have r11 := K90.out.cell (j := 11) rfl
        have rf11 := K90.out.free 11
        have KF : Hid (Bk ((((((((((((v90.setCell ⟨w.heap.size, 0, none⟩ (.int .i64 0)).setCell ⟨w.heap.size, 1, none⟩ (.int .i64 0)).setCell ⟨w.heap.size, 2, none⟩ (.int .i64 0)).setCell ⟨w.heap.size, 3, none⟩ (.slice none 0 0)).setCell ⟨w.heap.size, 4, none⟩ (.int .i64 0)).setCell ⟨w.heap.size, 5, none⟩ (.int .i64 0)).setCell ⟨w.heap.size, 6, none⟩ (.string ⟨#[]⟩)).setCell ⟨w.heap.size, 7, none⟩ (.string ⟨#[]⟩)).setCell ⟨w.heap.size, 8, none⟩ (.string ⟨#[]⟩)).setCell ⟨w.heap.size, 9, none⟩ (.string ⟨#[]⟩)).setCell ⟨w.heap.size, 10, none⟩ (.int .i64 0)).setCell ⟨w.heap.size, 11, none⟩ (.bool false)) w.heap.size 30 [.int .i64 0, .int .i64 0, .int .i64 0, .slice none 0 0, .int .i64 0, .int .i64 0, .string ⟨#[]⟩, .string ⟨#[]⟩, .string ⟨#[]⟩, .string ⟨#[]⟩, .int .i64 0, .bool false]) := ((((((((((((K90.out.set 0 _).set 1 _).set 2 _).set 3 _).set 4 _).set 5 _).set 6 _).set 7 _).set 8 _).set 9 _).set 10 _).set 11 _)
        have OS : Hid (Only (fun y => y = w.heap.size) v90 ((((((((((((v90.setCell ⟨w.heap.size, 0, none⟩ (.int .i64 0)).setCell ⟨w.heap.size, 1, none⟩ (.int .i64 0)).setCell ⟨w.heap.size, 2, none⟩ (.int .i64 0)).setCell ⟨w.heap.size, 3, none⟩ (.slice none 0 0)).setCell ⟨w.heap.size, 4, none⟩ (.int .i64 0)).setCell ⟨w.heap.size, 5, none⟩ (.int .i64 0)).setCell ⟨w.heap.size, 6, none⟩ (.string ⟨#[]⟩)).setCell ⟨w.heap.size, 7, none⟩ (.string ⟨#[]⟩)).setCell ⟨w.heap.size, 8, none⟩ (.string ⟨#[]⟩)).setCell ⟨w.heap.size, 9, none⟩ (.string ⟨#[]⟩)).setCell ⟨w.heap.size, 10, none⟩ (.int .i64 0)).setCell ⟨w.heap.size, 11, none⟩ (.bool false))) := (only_step (only_step (only_step (only_step (only_step (only_step (only_step (only_step (only_step (only_step (only_step (only_set (R := fun y => y = w.heap.size) (p := ⟨w.heap.size, 0, none⟩) rfl _) rfl 1 _) rfl 2 _) rfl 3 _) rfl 4 _) rfl 5 _) rfl 6 _) rfl 7 _) rfl 8 _) rfl 9 _) rfl 10 _) rfl 11 _)
        have OFx : Hid (True ∨ Only (At 0) w ((((((((((((v90.setCell ⟨w.heap.size, 0, none⟩ (.int .i64 0)).setCell ⟨w.heap.size, 1, none⟩ (.int .i64 0)).setCell ⟨w.heap.size, 2, none⟩ (.int .i64 0)).setCell ⟨w.heap.size, 3, none⟩ (.slice none 0 0)).setCell ⟨w.heap.size, 4, none⟩ (.int .i64 0)).setCell ⟨w.heap.size, 5, none⟩ (.int .i64 0)).setCell ⟨w.heap.size, 6, none⟩ (.string ⟨#[]⟩)).setCell ⟨w.heap.size, 7, none⟩ (.string ⟨#[]⟩)).setCell ⟨w.heap.size, 8, none⟩ (.string ⟨#[]⟩)).setCell ⟨w.heap.size, 9, none⟩ (.string ⟨#[]⟩)).setCell ⟨w.heap.size, 10, none⟩ (.int .i64 0)).setCell ⟨w.heap.size, 11, none⟩ (.bool false))) := .inl trivial
        have BF := hid (B90.out.trans (OS.out.below B90.out.size (fun b hb q => by omega)))
        go_wp2
        try simp only [Exit.inBlock, Exit.then]
        refine bodyPost_ret (v := .tuple #[.agg #[.int .i64 0, .int .i64 0, .int .i64 0, .slice none 0 0, .int .i64 0, .int .i64 0, .string ⟨#[]⟩, .string ⟨#[]⟩, .string ⟨#[]⟩, .string ⟨#[]⟩, .int .i64 0, .bool false], .bool false]) ?_ rfl ?_
        · exact results_stepb rfl _ _ _ rfl rfl (KF.out.cell (j := 0) rfl) (KF.out.cell (j := 1) rfl) (KF.out.cell (j := 2) rfl) (KF.out.cell (j := 3) rfl) (KF.out.cell (j := 4) rfl) (KF.out.cell (j := 5) rfl) (KF.out.cell (j := 6) rfl) (KF.out.cell (j := 7) rfl) (KF.out.cell (j := 8) rfl) (KF.out.cell (j := 9) rfl) (KF.out.cell (j := 10) rfl) (KF.out.cell (j := 11) rfl)
        · exact ⟨none, 0, 0, by rw [HV.out.1, HV.out.2]; try rfl, by rw [HV.out.1]; exact World.ownsRow_nil _ _ _ _, BF.out⟩
end Go.Proofs.YtjddkofpfmjojaaGreatDoor
/-
  Steps: how great the law's helper finds one; that one is the same as itself.
-/
namespace Go.Proofs.YtjddkofpfmjojaaGreatDoor
open Go.RowKit
set_option linter.unusedVariables false
set_option maxHeartbeats 3200000 in
theorem eqCall_same (kd ak : Int) (ky vl lo hi : ByteArray) (mo : Int) (bk : Bool) (w : World) : Calls Tryz.prog 24 #[.agg #[.int .i64 kd, .int .i64 ak, .string ky, .string vl, .string lo, .string hi, .int .i64 mo, .bool bk], .agg #[.int .i64 kd, .int .i64 ak, .string ky, .string vl, .string lo, .string hi, .int .i64 mo, .bool bk]] w fun r w' => r = .returned (.bool true) ∧ Below w.heap.size w w' := by
  have C1 := hid (fun w => eqAsk_same ak ky vl lo hi mo bk w)
  have hz0 : (kd != kd) = false := by simp
  have B0 : Hid (Below w.heap.size w ((w.alloc (.cells #[.int .i64 kd, .int .i64 ak, .string ky, .string vl, .string lo, .string hi, .int .i64 mo, .bool bk] 28)).alloc (.cells #[.int .i64 kd, .int .i64 ak, .string ky, .string vl, .string lo, .string hi, .int .i64 mo, .bool bk] 28))) := below_new (below_new (Below.refl _ _))
  have K0 := hid ((Bk.new w 28 [.int .i64 kd, .int .i64 ak, .string ky, .string vl, .string lo, .string hi, .int .i64 mo, .bool bk]).alloc (.cells #[.int .i64 kd, .int .i64 ak, .string ky, .string vl, .string lo, .string hi, .int .i64 mo, .bool bk] 28))
  have J0 := hid (Bk.new (w.alloc (.cells #[.int .i64 kd, .int .i64 ak, .string ky, .string vl, .string lo, .string hi, .int .i64 mo, .bool bk] 28)) 28 [.int .i64 kd, .int .i64 ak, .string ky, .string vl, .string lo, .string hi, .int .i64 mo, .bool bk])
  rw [show (w.alloc (.cells #[.int .i64 kd, .int .i64 ak, .string ky, .string vl, .string lo, .string hi, .int .i64 mo, .bool bk] 28)).heap.size = w.heap.size + 1 by simp] at J0
  have x0 := K0.out.cell (j := 0) rfl
  have y0 := J0.out.cell (j := 0) rfl
  have x1 := K0.out.cell (j := 1) rfl
  have y1 := J0.out.cell (j := 1) rfl
  have x2 := K0.out.cell (j := 2) rfl
  have y2 := J0.out.cell (j := 2) rfl
  have x3 := K0.out.cell (j := 3) rfl
  have y3 := J0.out.cell (j := 3) rfl
  have x4 := K0.out.cell (j := 4) rfl
  have y4 := J0.out.cell (j := 4) rfl
  have x5 := K0.out.cell (j := 5) rfl
  have y5 := J0.out.cell (j := 5) rfl
  have x6 := K0.out.cell (j := 6) rfl
  have y6 := J0.out.cell (j := 6) rfl
  have x7 := K0.out.cell (j := 7) rfl
  have y7 := J0.out.cell (j := 7) rfl
  go_enter Tryz.func24, Tryz.ntmps24
  go_wp2_with fail
  refine (C1.out _).mono ?_
  generalize (w.alloc (.cells #[.int .i64 kd, .int .i64 ak, .string ky, .string vl, .string lo, .string hi, .int .i64 mo, .bool bk] 28)).alloc (.cells #[.int .i64 kd, .int .i64 ak, .string ky, .string vl, .string lo, .string hi, .int .i64 mo, .bool bk] 28) = U at *
  rintro r w1 ⟨rfl, hb⟩
  have B1 := hid (btR B0.out hb)
  clear hb B0
  go_wp2
  go_ret
  exact ⟨rfl, B1.out⟩
set_option maxHeartbeats 8000000 in
theorem eqStep_same (S S' : Nat → Prop) (k a b : Int) (ka : Option Addr) (kn kc : Nat) (kp : List Int) (kd ak : Int) (ky vl lo hi : ByteArray) (mo : Int) (bk : Bool) (ka' : Option Addr) (kn' kc' : Nat) (w : World) (h : Ir w S (.slice ka kn kc) kp) (h' : Ir w S' (.slice ka' kn' kc') kp) :
    Calls Tryz.prog 7 #[.agg #[.int .i64 k, .int .i64 a, .int .i64 b, .slice ka kn kc, .int .i64 kd, .int .i64 ak, .string ky, .string vl, .string lo, .string hi, .int .i64 mo, .bool bk], .agg #[.int .i64 k, .int .i64 a, .int .i64 b, .slice ka' kn' kc', .int .i64 kd, .int .i64 ak, .string ky, .string vl, .string lo, .string hi, .int .i64 mo, .bool bk]] w fun r w' => r = .returned (.bool true) ∧ Below w.heap.size w w' := by
  have C1 : Hid (∀ v, Below w.heap.size w v → Calls Tryz.prog 23 #[.slice ka kn kc, .slice ka' kn' kc'] v fun e w' => e = .returned (.bool true) ∧ Below v.heap.size v w') := fun v hb => by
    have := eqIntS_at S S' ka ka' kn kn' kc kc' kp kp v (h.below hb) (h'.below hb)
    simpa using this
  have C2 := hid (fun w => eqCall_same kd ak ky vl lo hi mo bk w)
  have hz0 : (k != k) = false := by simp
  have hz1 : (a != a) = false := by simp
  have hz2 : (b != b) = false := by simp
  have B0 : Hid (Below w.heap.size w ((w.alloc (.cells #[.int .i64 k, .int .i64 a, .int .i64 b, .slice ka kn kc, .int .i64 kd, .int .i64 ak, .string ky, .string vl, .string lo, .string hi, .int .i64 mo, .bool bk] 30)).alloc (.cells #[.int .i64 k, .int .i64 a, .int .i64 b, .slice ka' kn' kc', .int .i64 kd, .int .i64 ak, .string ky, .string vl, .string lo, .string hi, .int .i64 mo, .bool bk] 30))) := below_new (below_new (Below.refl _ _))
  have K0 := hid ((Bk.new w 30 [.int .i64 k, .int .i64 a, .int .i64 b, .slice ka kn kc, .int .i64 kd, .int .i64 ak, .string ky, .string vl, .string lo, .string hi, .int .i64 mo, .bool bk]).alloc (.cells #[.int .i64 k, .int .i64 a, .int .i64 b, .slice ka' kn' kc', .int .i64 kd, .int .i64 ak, .string ky, .string vl, .string lo, .string hi, .int .i64 mo, .bool bk] 30))
  have J0 := hid (Bk.new (w.alloc (.cells #[.int .i64 k, .int .i64 a, .int .i64 b, .slice ka kn kc, .int .i64 kd, .int .i64 ak, .string ky, .string vl, .string lo, .string hi, .int .i64 mo, .bool bk] 30)) 30 [.int .i64 k, .int .i64 a, .int .i64 b, .slice ka' kn' kc', .int .i64 kd, .int .i64 ak, .string ky, .string vl, .string lo, .string hi, .int .i64 mo, .bool bk])
  rw [show (w.alloc (.cells #[.int .i64 k, .int .i64 a, .int .i64 b, .slice ka kn kc, .int .i64 kd, .int .i64 ak, .string ky, .string vl, .string lo, .string hi, .int .i64 mo, .bool bk] 30)).heap.size = w.heap.size + 1 by simp] at J0
  clear h h'
  have x0 := K0.out.cell (j := 0) rfl
  have y0 := J0.out.cell (j := 0) rfl
  have x1 := K0.out.cell (j := 1) rfl
  have y1 := J0.out.cell (j := 1) rfl
  have x2 := K0.out.cell (j := 2) rfl
  have y2 := J0.out.cell (j := 2) rfl
  have x3 := K0.out.cell (j := 3) rfl
  have y3 := J0.out.cell (j := 3) rfl
  go_enter Tryz.func7, Tryz.ntmps7
  go_wp2_with fail
  refine (C1.out _ B0.out).mono ?_
  generalize (w.alloc (.cells #[.int .i64 k, .int .i64 a, .int .i64 b, .slice ka kn kc, .int .i64 kd, .int .i64 ak, .string ky, .string vl, .string lo, .string hi, .int .i64 mo, .bool bk] 30)).alloc (.cells #[.int .i64 k, .int .i64 a, .int .i64 b, .slice ka' kn' kc', .int .i64 kd, .int .i64 ak, .string ky, .string vl, .string lo, .string hi, .int .i64 mo, .bool bk] 30) = U at *
  rintro r w1 ⟨rfl, hb⟩
  have B1 := hid (btR B0.out hb)
  have K1 := hid (K0.out.below hb)
  have J1 := hid (J0.out.below hb)
  clear hb B0 K0 J0 x0 y0 x1 y1 x2 y2 x3 y3
  have x4 := K1.out.cell (j := 4) rfl
  have y4 := J1.out.cell (j := 4) rfl
  have x5 := K1.out.cell (j := 5) rfl
  have y5 := J1.out.cell (j := 5) rfl
  have x6 := K1.out.cell (j := 6) rfl
  have y6 := J1.out.cell (j := 6) rfl
  have x7 := K1.out.cell (j := 7) rfl
  have y7 := J1.out.cell (j := 7) rfl
  have x8 := K1.out.cell (j := 8) rfl
  have y8 := J1.out.cell (j := 8) rfl
  have x9 := K1.out.cell (j := 9) rfl
  have y9 := J1.out.cell (j := 9) rfl
  have x10 := K1.out.cell (j := 10) rfl
  have y10 := J1.out.cell (j := 10) rfl
  have x11 := K1.out.cell (j := 11) rfl
  have y11 := J1.out.cell (j := 11) rfl
  go_wp2_with fail
  refine (C2.out _).mono ?_
  rintro r w2 ⟨rfl, hb⟩
  have B2 := hid (btR B1.out hb)
  clear hb B1 K1 J1 x4 y4 x5 y5 x6 y6 x7 y7 x8 y8 x9 y9 x10 y10 x11 y11
  go_wp2
  go_ret
  exact ⟨rfl, B2.out⟩
end Go.Proofs.YtjddkofpfmjojaaGreatDoor
/-
  What the law's helper markText does: it answers with one text for each number (for trees: greater numbers).
-/
namespace Go.Proofs.YtjddkofpfmjojaaGreatDoor
open Go.RowKit
theorem strOf_size (o : List Int) : (strOf o).size = o.length := by
  show (strOf o).data.size = o.length
  simp [strOf]
theorem rd_lit (w : World) (z : Int) (h0 : 0 ≤ z) (h1 : z ≤ 255) : Rd (w.alloc (.cells #[.int .u8 z] 5)) (some ⟨w.heap.size, 0, none⟩) 1 1 [z] := by
  have := rd_new w [z] (by simp) (fun i => by cases i <;> simp <;> omega)
  simpa [byteVals] using this
/-- The decimal digits of k ahead of acc. -/
def mtG : Nat → Nat → ByteArray → ByteArray
  | 0, _, acc => acc
  | f + 1, k, acc => if k = 0 then acc else mtG f (k / 10) (strOf [48 + ((k % 10 : Nat) : Int)] ++ acc)
theorem mtG_end (f : Nat) (acc : ByteArray) : mtG f 0 acc = acc := by cases f <;> simp [mtG]
theorem mtG_step (f k : Nat) (acc : ByteArray) (h : 0 < k) : mtG (f + 1) k acc = mtG f (k / 10) (strOf [48 + ((k % 10 : Nat) : Int)] ++ acc) := by
  simp [mtG]; omega
/-- The text for k. -/
def mt (k : Nat) : ByteArray := ⟨#[109]⟩ ++ mtG k k ⟨#[]⟩
set_option maxHeartbeats 4000000 in
theorem markText_any (k : Nat) (w : World) (h0 : 0 < k) (h1 : k ≤ 1152921504606846976) : Calls Tryz.prog 30 #[.int .i64 k] w fun e w' => e = .returned (.string (mt k)) ∧ Below w.heap.size w w' := by
  have h0' : ¬ (k : Int) ≤ 0 := by omega
  go_enter Tryz.func30, Tryz.ntmps30
  go_wp2_with fail
  go_loopw [0, 3] (fun x s wr => ∃ (j f : Nat) (acc : ByteArray), x = .int .i64 j ∧ s = .string acc ∧ j ≤ f ∧ Hid (mtG f j acc = mtG k k ⟨#[]⟩) ∧ j + acc.size ≤ k ∧ Hid (Below w.heap.size w wr)) (fun x _ _ => (intOf x).toNat)
  case atStart => exact ⟨k, k, ⟨#[]⟩, rfl, rfl, Nat.le_refl _, rfl, Nat.le_refl _, Below.refl _ _⟩
  case round =>
    obtain ⟨j, f, acc, rfl, rfl, hjf, HM, hsz, HB⟩ := hrel
    rcases Nat.eq_zero_or_pos j with rfl | hj
    · rw [mtG_end] at HM
      have hcat : (⟨#[109]⟩ : ByteArray).size = 1 := rfl
      have HE : Hid (⟨#[109]⟩ ++ acc = mt k) := by show ⟨#[109]⟩ ++ acc = mt k; rw [HM.out]; rfl
      go_wp2
      go_ret
      exact ⟨by rw [HE.out]; rfl, HB.out⟩
    · obtain ⟨f, rfl⟩ : ∃ g, f = g + 1 := ⟨f - 1, by omega⟩
      rw [mtG_step f j acc hj] at HM
      have hj' : (0 : Int) < (j : Int) := by omega
      obtain ⟨z, hz⟩ : ∃ z : Nat, z = j % 10 := ⟨_, rfl⟩
      obtain ⟨q, hq⟩ : ∃ q : Nat, q = j / 10 := ⟨_, rfl⟩
      rw [← hz, ← hq] at HM
      have hz1 : z < 10 := by omega
      have hmod : (j : Int).tmod 10 = (z : Int) := by rw [Int.tmod_eq_emod_of_nonneg (by omega)]; omega
      have hdiv : (j : Int).tdiv 10 = (q : Int) := by rw [Int.tdiv_eq_ediv_of_nonneg (by omega)]; omega
      have hqj : q < j := by omega
      have hq2 : q + 1 ≤ j := by omega
      clear hz hq
      have hst := run_str (rd_lit wr (48 + (z : Int)) (by omega) (by omega))
      have hts := strOf_size [48 + (z : Int)]
      simp only [List.length_cons, List.length_nil] at hts
      generalize strOf [48 + (z : Int)] = t at *
      go_wp2
      go_roundw
      case rel => exact ⟨q, f, t ++ acc, by go_num, rfl, by omega, HM, by rw [ByteArray.size_append]; omega, HB.out.alloc HB.out.size _⟩
      case measure => simp [intOf]; omega
theorem markText_at (k : Nat) (z : Int) (hz : z = k) (w : World) (h0 : 0 < k) (h1 : k ≤ 1152921504606846976) : Calls Tryz.prog 30 #[.int .i64 z] w fun e w' => e = .returned (.string (mt k)) ∧ Below w.heap.size w w' := by
  subst hz
  exact markText_any k w h0 h1
end Go.Proofs.YtjddkofpfmjojaaGreatDoor
/-
  Writing marks into slices: texts into cells of texts, numbers into cells of numbers; nothing else turns.
-/
namespace Go.Proofs.YtjddkofpfmjojaaGreatDoor
open Go.RowKit
set_option linter.unusedVariables false
def isStr (u : Value) : Prop := ∃ s, u = .string s
def isInt (u : Value) : Prop := ∃ i, u = .int .i64 i
/-- The cell is the same, or both are texts, or both are numbers. -/
def simV (x y : Value) : Prop := x = y ∨ (isStr x ∧ isStr y) ∨ (isInt x ∧ isInt y)
theorem simV.trans {x y z : Value} (h : simV x y) (k : simV y z) : simV x z := by
  rcases h with rfl | ⟨h1, h2⟩ | ⟨h1, h2⟩
  · exact k
  · rcases k with rfl | ⟨k1, k2⟩ | ⟨k1, k2⟩
    · exact .inr (.inl ⟨h1, h2⟩)
    · exact .inr (.inl ⟨h1, k2⟩)
    · obtain ⟨s, rfl⟩ := h2; obtain ⟨i, hi⟩ := k1; cases hi
  · rcases k with rfl | ⟨k1, k2⟩ | ⟨k1, k2⟩
    · exact .inr (.inr ⟨h1, h2⟩)
    · obtain ⟨s, rfl⟩ := h2; obtain ⟨i, hi⟩ := k1; cases hi
    · exact .inr (.inr ⟨h1, k2⟩)
def Kind (K : Value → Prop) : Prop := ∀ x y, K x → simV x y → K y
theorem kind_str : Kind isStr := by
  rintro x y hx (rfl | ⟨_, h⟩ | ⟨h, _⟩)
  · exact hx
  · exact h
  · obtain ⟨s, rfl⟩ := hx; obtain ⟨i, hi⟩ := h; cases hi
theorem kind_int : Kind isInt := by
  rintro x y hx (rfl | ⟨h, _⟩ | ⟨_, h⟩)
  · exact hx
  · obtain ⟨s, rfl⟩ := hx; obtain ⟨i, hi⟩ := h; cases hi
  · exact h
theorem kind_slice (v : Value) (hv : ∃ a n c, v = .slice a n c) : Kind (fun u => u = v) := by
  obtain ⟨a, n, c, rfl⟩ := hv
  rintro x y rfl (rfl | ⟨h, _⟩ | ⟨h, _⟩)
  · rfl
  · obtain ⟨s, hs⟩ := h; cases hs
  · obtain ⟨s, hs⟩ := h; cases hs
/-- From w to w' only rows of S have turned, and of these each cell keeps its kind. -/
structure Mk (S : Nat → Prop) (w w' : World) : Prop where
  only : Only S w w'
  sim : ∀ b T xs, Bk w b T xs → S b → ∃ ys, Bk w' b T ys ∧ ∀ (j : Nat) u, xs[j]? = some u → ∃ u', ys[j]? = some u' ∧ simV u u'
theorem Mk.refl (S : Nat → Prop) (w : World) : Mk S w w := ⟨Only.refl _ _, fun b T xs h _ => ⟨xs, h, fun j u hu => ⟨u, hu, .inl rfl⟩⟩⟩
theorem Mk.trans {S : Nat → Prop} {a b c : World} (h : Mk S a b) (k : Mk S b c) : Mk S a c := by
  refine ⟨h.only.trans k.only, fun g T xs hb hS => ?_⟩
  obtain ⟨ys, h1, h2⟩ := h.sim g T xs hb hS
  obtain ⟨zs, h3, h4⟩ := k.sim g T ys h1 hS
  refine ⟨zs, h3, fun j u hu => ?_⟩
  obtain ⟨u', h5, h6⟩ := h2 j u hu
  obtain ⟨u'', h7, h8⟩ := h4 j u' h5
  exact ⟨u'', h7, h6.trans h8⟩
theorem mk_below {S : Nat → Prop} {w w' : World} (h : Below w.heap.size w w') : Mk S w w' := ⟨only_of_below h S, fun b T xs hb _ => ⟨xs, hb.below h, fun j u hu => ⟨u, hu, .inl rfl⟩⟩⟩
theorem mk_set {S : Nat → Prop} {w : World} {b o : Nat} {T : TypeId} {xs : List Value} {x y : Value} (hb : Bk w b T xs) (hS : S b) (hx : xs[o]? = some x) (hs : simV x y) : Mk S w (w.setCell ⟨b, o, none⟩ y) := by
  refine ⟨only_set hS y, fun g T' zs hg _ => ?_⟩
  by_cases e : g = b
  · subst e
    refine ⟨_, hg.set o y, fun j u hu => ?_⟩
    have hz : some (Obj.cells xs.toArray T (0, 0)) = some (Obj.cells zs.toArray T' (0, 0)) := hb.symm.trans hg
    simp at hz
    obtain ⟨rfl, rfl⟩ := hz
    by_cases ej : j = o
    · subst ej
      rw [hx] at hu
      cases hu
      exact ⟨y, by simp [(List.getElem?_eq_some_iff.1 hx).1], hs⟩
    · exact ⟨u, by rw [List.getElem?_set_ne (Ne.symm ej)]; exact hu, .inl rfl⟩
  · exact ⟨zs, hg.setOther e _ _, fun j u hu => ⟨u, hu, .inl rfl⟩⟩
theorem Uf.bk {w : World} {b : Nat} (h : Uf w b) : ∃ T xs, Bk w b T xs := by
  obtain ⟨xs, T, h⟩ := h
  exact ⟨T, xs.toList, by show _ = _; simpa using h⟩
theorem Mk.uf {S : Nat → Prop} {w w' : World} (m : Mk S w w') {b : Nat} (h : Uf w b) : Uf w' b := by
  obtain ⟨T, xs, hb⟩ := h.bk
  by_cases hS : S b
  · obtain ⟨ys, h1, _⟩ := m.sim b T xs hb hS
    exact h1.uf
  · exact (hb.to m.only hS).uf
theorem bk_cell {w : World} {b o : Nat} {T : TypeId} {xs : List Value} {u : Value} (h : Bk w b T xs) (hc : w.cell? ⟨b, o, none⟩ = some u) : xs[o]? = some u := by
  have h' : w.heap[b]? = some (.cells xs.toArray T (0, 0)) := h
  simpa [World.cell?, h'] using hc
theorem Mk.cell {S : Nat → Prop} {w w' : World} (m : Mk S w w') {b o : Nat} {u : Value} (hu : Uf w b) (hc : w.cell? ⟨b, o, none⟩ = some u) : ∃ u', w'.cell? ⟨b, o, none⟩ = some u' ∧ simV u u' := by
  obtain ⟨T, xs, hb⟩ := hu.bk
  have hx := bk_cell hb hc
  by_cases hS : S b
  · obtain ⟨ys, h1, h2⟩ := m.sim b T xs hb hS
    obtain ⟨u', h3, h4⟩ := h2 o u hx
    exact ⟨u', h1.cell h3, h4⟩
  · exact ⟨u, (hb.to m.only hS).cell hx, .inl rfl⟩
/-- The slice value v leads to n elements of m cells of the kind K, in a row of S that may be written. -/
def Kw (w : World) (S : Nat → Prop) (v : Value) (n m : Nat) (K : Value → Prop) : Prop :=
  ∃ a c, v = .slice a n c ∧ n ≤ c ∧ c ≤ 9223372036854775807 ∧ (0 < n → ∃ b off, a = some ⟨b, off, none⟩ ∧ S b ∧ Uf w b ∧ ∀ j, j < m → ∃ u, w.cell? ⟨b, off + j, none⟩ = some u ∧ K u)
theorem Kw.mk {S S' : Nat → Prop} {w w' : World} {v : Value} {n m : Nat} {K : Value → Prop} (h : Kw w S v n m K) (hm : Mk S' w w') (hK : Kind K) : Kw w' S v n m K := by
  obtain ⟨a, c, h1, h2, h3, h4⟩ := h
  refine ⟨a, c, h1, h2, h3, fun hn => ?_⟩
  obtain ⟨b, off, h5, h6, h7, h8⟩ := h4 hn
  refine ⟨b, off, h5, h6, hm.uf h7, fun j hj => ?_⟩
  obtain ⟨u, h9, h10⟩ := h8 j hj
  obtain ⟨u', h11, h12⟩ := hm.cell h7 h9
  exact ⟨u', h11, hK _ _ h10 h12⟩
theorem kw_of {w : World} {S S' : Nat → Prop} {v : Value} {n : Nat} {xs : List Value} {K : Value → Prop} (h : Rw w S v n xs) (hx : ∀ u ∈ xs, K u) (hS : ∀ b, S b → b < w.heap.size → S' b ∧ Uf w b) : Kw w S' v n xs.length K := by
  obtain ⟨a, c, h1, h2, h3, h4, hn, h5⟩ := h
  refine ⟨a, c, h1, h2, h3, fun hp => ?_⟩
  obtain ⟨b, off, h6, h7, h8, h9⟩ := h5 hp
  refine ⟨b, off, h6, (hS b h8 h7).1, (hS b h8 h7).2, fun j hj => ?_⟩
  exact ⟨xs[j], h9 j _ (by simp [hj]), hx _ (by simp)⟩
/-- Of the m cells from off on the first i are V's. -/
def Mi (w : World) (b off m i : Nat) (V : Nat → Value) (K : Value → Prop) : Prop := ∃ T xs, Bk w b T xs ∧ (∀ j, j < m → ∃ u, xs[off + j]? = some u ∧ K u) ∧ ∀ j, j < i → xs[off + j]? = some (V j)
theorem Mi.start {w : World} {b off m : Nat} {V : Nat → Value} {K : Value → Prop} (hu : Uf w b) (h : ∀ j, j < m → ∃ u, w.cell? ⟨b, off + j, none⟩ = some u ∧ K u) : Mi w b off m 0 V K := by
  obtain ⟨T, xs, hb⟩ := hu.bk
  refine ⟨T, xs, hb, fun j hj => ?_, fun j hj => absurd hj (Nat.not_lt_zero _)⟩
  obtain ⟨u, h1, h2⟩ := h j hj
  exact ⟨u, bk_cell hb h1, h2⟩
theorem Mi.below {w w' : World} {b off m i : Nat} {V : Nat → Value} {K : Value → Prop} (h : Mi w b off m i V K) (hb : Below w.heap.size w w') : Mi w' b off m i V K := by
  obtain ⟨T, xs, h1, h2, h3⟩ := h
  exact ⟨T, xs, h1.below hb, h2, h3⟩
theorem Mi.cell {w : World} {b off m i : Nat} {V : Nat → Value} {K : Value → Prop} (h : Mi w b off m i V K) {j : Nat} (hj : j < m) : (∃ u, w.cell? ⟨b, off + j, none⟩ = some u ∧ K u) ∧ w.frozen? ⟨b, off + j, none⟩ = false := by
  obtain ⟨T, xs, h1, h2, h3⟩ := h
  obtain ⟨u, h4, h5⟩ := h2 j hj
  exact ⟨⟨u, h1.cell h4, h5⟩, h1.free _⟩
theorem Mi.set {w : World} {b off m i : Nat} {V : Nat → Value} {K : Value → Prop} (h : Mi w b off m i V K) {o : Nat} (ho : o = off + i) (hi : i < m) (hK : K (V i)) : Mi (w.setCell ⟨b, o, none⟩ (V i)) b off m (i + 1) V K := by
  subst ho
  obtain ⟨T, xs, h1, h2, h3⟩ := h
  refine ⟨T, _, h1.set _ _, fun j hj => ?_, fun j hj => ?_⟩
  · obtain ⟨u, h4, h5⟩ := h2 j hj
    by_cases e : j = i
    · subst e
      exact ⟨V j, by simp [(List.getElem?_eq_some_iff.1 h4).1], hK⟩
    · exact ⟨u, by rw [List.getElem?_set_ne (by omega)]; exact h4, h5⟩
  · by_cases e : j = i
    · subst e
      obtain ⟨u, h4, _⟩ := h2 j hi
      simp [(List.getElem?_eq_some_iff.1 h4).1]
    · rw [List.getElem?_set_ne (by omega)]
      exact h3 j (by omega)
end Go.Proofs.YtjddkofpfmjojaaGreatDoor
/-
  The law's helpers that write marks into slices: of pairs, of texts, of numbers.
-/
namespace Go.Proofs.YtjddkofpfmjojaaGreatDoor
open Go.RowKit
def mV (k : Nat) (j : Nat) : Value := .string (mt (k + j))
def mI (k : Nat) (j : Nat) : Value := .int .i64 ((k + j : Nat) : Int)
theorem mi_mk {S : Nat → Prop} {w : World} {b off m i : Nat} {V : Nat → Value} {K : Value → Prop} (h : Mi w b off m i V K) (hS : S b) {o : Nat} (ho : o = off + i) (hi : i < m) (hs : ∀ u, K u → simV u (V i)) : Mk S w (w.setCell ⟨b, o, none⟩ (V i)) := by
  subst ho
  obtain ⟨T, xs, h1, h2, h3⟩ := h
  obtain ⟨u, h4, h5⟩ := h2 i hi
  exact mk_set h1 hS h4 (hs u h5)
theorem sim_mV (k i : Nat) : ∀ u, isStr u → simV u (mV k i) := fun _ hu => .inr (.inl ⟨hu, _, rfl⟩)
theorem sim_mI (k i : Nat) : ∀ u, isInt u → simV u (mI k i) := fun _ hu => .inr (.inr ⟨hu, _, rfl⟩)
/-- What comes of writing marks into the m cells of a slice. -/
def Marked (S : Nat → Prop) (w : World) (a : Option Addr) (n m : Nat) (V : Nat → Value) (K : Value → Prop) (w' : World) : Prop := Mk S w w' ∧ (0 < n → ∃ b off, a = some ⟨b, off, none⟩ ∧ S b ∧ Mi w' b off m m V K)
set_option maxHeartbeats 4000000 in
theorem markIntS_any (S : Nat → Prop) (a : Option Addr) (n c k : Nat) (w : World) (h : Kw w S (.slice a n c) n n isInt) (hn : n ≤ 1048576) (hk0 : 0 < k) (hk : k ≤ 576460752303423488) :
    Calls Tryz.prog 25 #[.slice a n c, .int .i64 k] w fun e w' => e = .returned (.int .i64 ((k + n : Nat) : Int)) ∧ Marked S w a n n (mI k) isInt w' := by
  obtain ⟨a', c', h1, h2, h3, h4⟩ := h
  cases h1
  rcases Nat.eq_zero_or_pos n with hz | hp
  · clear h4
    subst hz
    go_enter Tryz.func25, Tryz.ntmps25
    go_wp2_with fail
    go_loop [1, 5] (fun x i => x = .int .i64 k ∧ i = .int .i64 (0 : Nat)) (fun _ _ => 0)
    case atStart => exact ⟨rfl, rfl⟩
    case round =>
      obtain ⟨rfl, rfl⟩ := hrel
      go_wp2
      go_ret
      exact ⟨rfl, Mk.refl _ _, fun h => absurd h (Nat.lt_irrefl _)⟩
  · obtain ⟨b, off, rfl, hS, hu, hc⟩ := h4 hp
    have HI : Hid (Mi w b off n 0 (mI k) isInt) := Mi.start hu hc
    have HS := hid hS
    clear h4 hc hu hS
    go_enter Tryz.func25, Tryz.ntmps25
    go_wp2_with fail
    go_loopw [1, 5] (fun x i wr => ∃ j : Nat, x = .int .i64 ((k + j : Nat) : Int) ∧ i = .int .i64 j ∧ j ≤ n ∧ Hid (Mi wr b off n j (mI k) isInt) ∧ Hid (Mk S w wr)) (fun _ i _ => n - (intOf i).toNat)
    case atStart => exact ⟨0, rfl, rfl, Nat.zero_le _, HI.out, Mk.refl _ _⟩
    case round =>
      obtain ⟨j, rfl, rfl, hj, HX, HG⟩ := hrel
      by_cases hlt : j < n
      · have hlt' : (j : Int) < (n : Int) := by omega
        have hj0 : (0 : Int) ≤ (j : Int) := by omega
        generalize hkz : k + j = kz
        have hkz0 : 0 < kz := by omega
        have hkz1 : kz ≤ 576460754400575488 := by omega
        have HK := hid hkz
        clear hkz
        obtain ⟨⟨u0, c0, s0⟩, f0⟩ := HX.out.cell hlt
        obtain ⟨u0, rfl⟩ := s0
        have HX2 : Hid (Mi (wr.setCell ⟨b, off + j, none⟩ (.int .i64 kz)) b off n (j + 1) (mI k) isInt) := by rw [← HK.out]; exact HX.out.set rfl hlt ⟨_, rfl⟩
        have HG2 : Hid (Mk S w (wr.setCell ⟨b, off + j, none⟩ (.int .i64 kz))) := by rw [← HK.out]; exact HG.out.trans (mi_mk HX.out HS.out rfl hlt (sim_mI k j))
        clear HX HG
        go_wp2
        go_roundw
        case rel => exact ⟨j + 1, by rw [show k + (j + 1) = kz + 1 by have := HK.out; omega]; go_num, by go_num, by omega, HX2.out, HG2.out⟩
        case measure => simp [intOf]; omega
      · have hlt' : ¬ (j : Int) < (n : Int) := by omega
        have hjn : j = n := by omega
        subst hjn
        generalize hkz : k + j = kz
        go_wp2
        go_ret
        exact ⟨rfl, HG.out, fun _ => ⟨b, off, rfl, HS.out, HX.out⟩⟩
end Go.Proofs.YtjddkofpfmjojaaGreatDoor
/-
  The law's helper that looks for marks in a slice of pairs: it finds them all.
-/
namespace Go.Proofs.YtjddkofpfmjojaaGreatDoor
open Go.RowKit
theorem kc1 {u v : World} {a0 : Addr} {x0 : Value} (h : KC u v [(a0, x0)]) : v.cell? a0 = some x0 ∧ KC u v [(a0, x0)] := ⟨h.at (by simp), h⟩
theorem kc0_1 {u : World} {a0 : Addr} {x0 : Value} (h0 : u.cell? a0 = some x0) : KC u u [(a0, x0)] := ⟨fun p hp => by simp at hp; rcases hp with rfl; assumption, Below.refl _ _⟩
theorem kc1c {u v v' : World} {a0 : Addr} {x0 : Value} (k : Below v.heap.size v v') (h : v.cell? a0 = some x0 ∧ KC u v [(a0, x0)]) : v'.cell? a0 = some x0 ∧ KC u v' [(a0, x0)] := kc1 (KC.call h.2 k)
/-- The marks lie there. -/
def Lies (w : World) (a : Option Addr) (n m : Nat) (V : Nat → Value) : Prop := 0 < n → ∃ b off, a = some ⟨b, off, none⟩ ∧ b < w.heap.size ∧ ∀ j, j < m → w.cell? ⟨b, off + j, none⟩ = some (V j)
theorem Lies.below {w w' : World} {a : Option Addr} {n m : Nat} {V : Nat → Value} (h : Lies w a n m V) (hb : Below w.heap.size w w') : Lies w' a n m V := by
  intro hn
  obtain ⟨b, off, h1, h2, h3⟩ := h hn
  exact ⟨b, off, h1, Nat.lt_of_lt_of_le h2 hb.size, fun j hj => by rw [hb.cell (p := ⟨b, off + j, none⟩) h2]; exact h3 j hj⟩
theorem Marked.lies {S : Nat → Prop} {w w' : World} {a : Option Addr} {n m : Nat} {V : Nat → Value} {K : Value → Prop} (h : Marked S w a n m V K w') : Lies w' a n m V := by
  intro hn
  obtain ⟨b, off, h1, _, T, xs, h2, _, h3⟩ := h.2 hn
  exact ⟨b, off, h1, h2.lt, fun j hj => h2.cell (h3 j hj)⟩
end Go.Proofs.YtjddkofpfmjojaaGreatDoor
/-
  The law's helpers that look whether marks are still there, in rows of strings and of numbers.
-/
namespace Go.Proofs.YtjddkofpfmjojaaGreatDoor
open Go.RowKit
set_option linter.unusedVariables false
set_option maxHeartbeats 2000000 in
theorem heldIntS_any (a : Option Addr) (n c k : Nat) (w : World) (h : Lies w a n n (mI k)) (hc : n ≤ c) (hn : n ≤ 1048576) (hk0 : 0 < k) (hk : k ≤ 576460752303423488) :
    Calls Tryz.prog 26 #[.slice a n c, .int .i64 k] w fun e w' => e = .returned (.int .i64 ((k + n : Nat) : Int)) ∧ w' = w := by
  have H0 := hid h
  clear h
  go_enter Tryz.func26, Tryz.ntmps26
  go_wp2_with fail
  go_loop [1, 5] (fun x i => ∃ j : Nat, x = .int .i64 ((k + j : Nat) : Int) ∧ i = .int .i64 j ∧ j ≤ n) (fun _ i => n - (intOf i).toNat)
  case atStart => exact ⟨0, rfl, rfl, Nat.zero_le _⟩
  case round =>
    obtain ⟨j, rfl, rfl, hj⟩ := hrel
    by_cases hlt : j < n
    · have hlt' : (j : Int) < (n : Int) := by omega
      have hj0 : (0 : Int) ≤ (j : Int) := by omega
      obtain ⟨b, off, ha, hbl, hcell⟩ := H0.out (by omega)
      subst ha
      have c0 := hcell j (by omega)
      simp only [mI] at c0
      clear hcell
      generalize hkz : k + j = kz at *
      have hkz1 : kz ≤ 576460754400575488 := by omega
      have HK := hid hkz
      clear hkz
      go_wp2
      go_round
      case rel => exact ⟨j + 1, by rw [show k + (j + 1) = kz + 1 by have := HK.out; omega]; go_num, by go_num, by omega⟩
      case measure => simp [intOf]; omega
    · have hlt' : ¬ (j : Int) < (n : Int) := by omega
      have hjn : j = n := by omega
      subst hjn
      have HK : Hid ((k : Int) + (j : Int) = ((k + j : Nat) : Int)) := by show _ = _; omega
      generalize k + j = kz at *
      go_wp2
      go_ret
      exact ⟨by rw [HK.out]; rfl, rfl⟩
end Go.Proofs.YtjddkofpfmjojaaGreatDoor
/-
  The law FnExactTextStep answers true at every text.
-/
namespace Go.Proofs.YtjddkofpfmjojaaGreatDoor
open Go.RowKit
set_option linter.unusedVariables false
theorem kw_ownW {w : World} {base : Nat} {e : TypeId} {size : Nat} {v : Value} {n : Nat} {xs : List Value} {K : Value → Prop} (h : w.ownsRow base e size v n xs) (hx : ∀ u ∈ xs, K u) : Kw w (fun y => v.ownBlock = some y) v n xs.length K :=
  kw_of (rw_own h (S := fun y => v.ownBlock = some y) (fun k hk _ _ => hk)) hx (fun b hb _ => ⟨hb, by
    rcases h.2 with ⟨rfl, _⟩ | ⟨g, cap, cur, rfl, _, h4, _⟩
    · cases hb
    · have e : g = b := by simpa [Value.ownBlock] using hb
      subst e
      exact ⟨_, _, h4⟩⟩)
theorem tsY_len (s : ByteArray) : (tsY s).kp.length ≤ s.size := by
  cases e : tsV s with
  | none => rw [(ts_no e).1]; exact Nat.zero_le _
  | some y =>
    rw [(ts_yes e).1]
    have hy : s ≠ ⟨#[]⟩ ∧ stT y = s := by
      unfold tsV at e
      split at e
      · rename_i h
        cases e
        exact h
      · cases e
    have hne : stT y ≠ ⟨#[]⟩ := by rw [hy.2]; exact hy.1
    have h1 := (read_stW y hne).2
    have h2 := pc_stW y hne
    rw [hy.2] at h2
    rw [← h2] at h1
    have h3 := stI_kp (pcK 32 s 0)
    rw [h1] at h3
    exact Nat.le_trans h3 (by have := pcK_len 32 s _ 0 (Nat.le_refl _); omega)
set_option maxHeartbeats 1600000 in
theorem markStep_any (B : Nat) (k a b : Int) (xa : Option Addr) (xn xc : Nat) (kp : List Int) (kd ak : Int) (ky vl lo hi : ByteArray) (mo : Int) (bk : Bool) (w : World) (h : IW w B (.slice xa xn xc) kp) (hn : kp.length ≤ 1048576) :
    Calls Tryz.prog 8 #[.agg #[.int .i64 k, .int .i64 a, .int .i64 b, .slice xa xn xc, .int .i64 kd, .int .i64 ak, .string ky, .string vl, .string lo, .string hi, .int .i64 mo, .bool bk], .int .i64 1] w fun e w' => e = .returned (.int .i64 ((1 + xn : Nat) : Int)) ∧ Lies w' xa xn xn (mI 1) ∧ Only (fun y => (Value.slice xa xn xc).ownBlock = some y) w w' := by
  have hb := below_new (o := .cells #[.int .i64 k, .int .i64 a, .int .i64 b, .slice xa xn xc, .int .i64 kd, .int .i64 ak, .string ky, .string vl, .string lo, .string hi, .int .i64 mo, .bool bk] 30) (w := w) (Below.refl _ _)
  have hxn : xn = kp.length := (Rw.len h.ir).1
  have K0 := hid (Bk.new w 30 [.int .i64 k, .int .i64 a, .int .i64 b, .slice xa xn xc, .int .i64 kd, .int .i64 ak, .string ky, .string vl, .string lo, .string hi, .int .i64 mo, .bool bk])
  have O0 := hid (only_of_below hb (fun y => (Value.slice xa xn xc).ownBlock = some y))
  have kw := kw_ownW (K := isInt) (h.below hb) (fun u hu => by obtain ⟨z, _, rfl⟩ := List.mem_map.1 hu; exact ⟨z, rfl⟩)
  rw [List.length_map, ← hxn] at kw
  have CM := hid (markIntS_any _ xa xn xc 1 _ kw (by omega) (by decide) (by decide))
  have x3 := K0.out.cell (j := 3) rfl
  clear hb kw h hn hxn
  go_enter Tryz.func8, Tryz.ntmps8
  go_wp2_with fail
  refine CM.out.mono ?_
  generalize w.alloc (.cells #[.int .i64 k, .int .i64 a, .int .i64 b, .slice xa xn xc, .int .i64 kd, .int .i64 ak, .string ky, .string vl, .string lo, .string hi, .int .i64 mo, .bool bk] 30) = U at *
  rintro r w1 ⟨rfl, hm⟩
  have L1 := hid hm.lies
  have O1 := hid (O0.out.trans hm.1.only)
  clear hm CM x3 O0 K0
  go_wp2
  go_ret
  exact ⟨rfl, L1.out, O1.out⟩
set_option maxHeartbeats 1600000 in
theorem heldStep_any (k a b : Int) (xa : Option Addr) (xn xc : Nat) (kd ak : Int) (ky vl lo hi : ByteArray) (mo : Int) (bk : Bool) (w : World) (h : Lies w xa xn xn (mI 1)) (hc : xn ≤ xc) (hn : xn ≤ 1048576) :
    Calls Tryz.prog 9 #[.agg #[.int .i64 k, .int .i64 a, .int .i64 b, .slice xa xn xc, .int .i64 kd, .int .i64 ak, .string ky, .string vl, .string lo, .string hi, .int .i64 mo, .bool bk], .int .i64 1] w fun e w' => e = .returned (.int .i64 ((1 + xn : Nat) : Int)) ∧ Below w.heap.size w w' := by
  have hb := below_new (o := .cells #[.int .i64 k, .int .i64 a, .int .i64 b, .slice xa xn xc, .int .i64 kd, .int .i64 ak, .string ky, .string vl, .string lo, .string hi, .int .i64 mo, .bool bk] 30) (w := w) (Below.refl _ _)
  have K0 := hid (Bk.new w 30 [.int .i64 k, .int .i64 a, .int .i64 b, .slice xa xn xc, .int .i64 kd, .int .i64 ak, .string ky, .string vl, .string lo, .string hi, .int .i64 mo, .bool bk])
  have B0 := hid hb
  have CM := hid (heldIntS_any xa xn xc 1 _ (h.below hb) hc hn (by decide) (by decide))
  have x3 := K0.out.cell (j := 3) rfl
  have hp : ¬ (((1 + xn : Nat) : Int) < 0) := by omega
  clear hb h
  go_enter Tryz.func9, Tryz.ntmps9
  go_wp2_with fail
  refine CM.out.mono ?_
  generalize w.alloc (.cells #[.int .i64 k, .int .i64 a, .int .i64 b, .slice xa xn xc, .int .i64 kd, .int .i64 ak, .string ky, .string vl, .string lo, .string hi, .int .i64 mo, .bool bk] 30) = U at *
  rintro r w1 ⟨rfl, rfl⟩
  clear CM x3 K0
  go_wp2
  go_ret
  exact ⟨rfl, B0.out⟩
theorem gz_up {w : World} {B C : Nat} (h : GZ w B) (hB : B ≤ C) : GZ w C := ⟨h.tab, h.e1, h.e2, h.e3, h.e4, Nat.lt_of_lt_of_le h.g0 hB, Nat.lt_of_lt_of_le h.g1 hB, Nat.lt_of_lt_of_le h.g2 hB, Nat.lt_of_lt_of_le h.g3 hB, Nat.lt_of_lt_of_le h.g4 hB⟩
set_option maxHeartbeats 16000000 in
set_option maxRecDepth 20000 in
theorem lawTextStep_walk (s : ByteArray) (w : World) (hl : s.size ≤ maxLen) (hG : GZ w w.heap.size) : Calls Tryz.prog 3 #[.string s] w fun e w' => e = .returned (.bool true) ∧ Below w.heap.size w w' := by
  unfold maxLen at hl
  by_cases hs : 1048576 < s.size
  · have hs' : (1048576 : Int) < (s.size : Int) := by omega
    go_enter Tryz.func3, Tryz.ntmps3
    go_wp2
    go_ret
    exact ⟨rfl, Below.refl _ _⟩
  have hs0 : s.size ≤ 1048576 := by omega
  have hs' : ¬ (1048576 : Int) < (s.size : Int) := by omega
  have CS := hid (fun w => specTextStep_any s w hs0)
  have CI := hid (fun w hG => implTextStep_any s w hs0 hG)
  have HLN : Hid ((tsY s).kp.length ≤ 1048576) := Nat.le_trans (tsY_len s) hs0
  have G0 := hid hG
  clear hG
  go_enter Tryz.func3, Tryz.ntmps3
  go_wp2_with fail
  refine (CS.out _).mono ?_
  unfold TsP at *
  obtain ⟨y, hy⟩ : ∃ y, tsY s = y := ⟨_, rfl⟩
  obtain ⟨z, hz⟩ : ∃ z, (tsV s).isSome = z := ⟨_, rfl⟩
  rw [hy] at CI CS HLN ⊢
  rw [hz] at CI CS ⊢
  rintro r v1 ⟨wa, wn, wc, rfl, hI, hb⟩
  have B1 := hid hb
  have W1 := hid hI
  have HWN : Hid (wn = y.kp.length) := (Rw.len hI.ir).1
  clear hI hb CS hy hz hl hs
  have hzz : (z != z) = false := by cases z <;> rfl
  have hb := below_new (o := .cells #[.int .i64 y.k, .int .i64 y.a, .int .i64 y.b, .slice wa wn wc, .int .i64 y.kd, .int .i64 y.ak, .string y.ky, .string y.vl, .string y.lo, .string y.hi, .int .i64 y.mo, .bool y.bk] 30) (w := v1) (Below.refl _ _)
  have X2 := hid (Bk.new v1 30 [.int .i64 y.k, .int .i64 y.a, .int .i64 y.b, .slice wa wn wc, .int .i64 y.kd, .int .i64 y.ak, .string y.ky, .string y.vl, .string y.lo, .string y.hi, .int .i64 y.mo, .bool y.bk])
  have B2 := hid (B1.out.trans (hb.mono B1.out.size))
  have W2 := hid (W1.out.below hb)
  have HX : Hid (w.heap.size ≤ v1.heap.size) := B1.out.size
  have GA : Hid (GZ (v1.alloc (.cells #[.int .i64 y.k, .int .i64 y.a, .int .i64 y.b, .slice wa wn wc, .int .i64 y.kd, .int .i64 y.ak, .string y.ky, .string y.vl, .string y.lo, .string y.hi, .int .i64 y.mo, .bool y.bk] 30)) (v1.alloc (.cells #[.int .i64 y.k, .int .i64 y.a, .int .i64 y.b, .slice wa wn wc, .int .i64 y.kd, .int .i64 y.ak, .string y.ky, .string y.vl, .string y.lo, .string y.hi, .int .i64 y.mo, .bool y.bk] 30)).heap.size) := gz_up (G0.out.to B2.out) B2.out.size
  clear hb B1 W1
  go_wp2_with fail
  refine (CI.out _ GA.out).mono ?_
  generalize v1.alloc (.cells #[.int .i64 y.k, .int .i64 y.a, .int .i64 y.b, .slice wa wn wc, .int .i64 y.kd, .int .i64 y.ak, .string y.ky, .string y.vl, .string y.lo, .string y.hi, .int .i64 y.mo, .bool y.bk] 30) = v2 at *
  generalize v1.heap.size = gX at *
  rintro r v3 ⟨ga, gn, gc, rfl, hI, hb⟩
  have I3 := hid hI
  have HV3 : Hid (v2.heap.size ≤ v3.heap.size) := hb.size
  have HB2 : Hid (gX < v2.heap.size) := X2.out.lt
  have HW2 : Hid (∀ k, (Value.slice wa wn wc).ownBlock = some k → k < v2.heap.size) := fun k q => (W2.out.lt q).2
  have X3 := hid (X2.out.below hb)
  have B3 := hid (B2.out.trans (hb.mono B2.out.size))
  have W3 := hid (W2.out.below hb)
  have HGN : Hid (gn = y.kp.length ∧ gn ≤ gc) := ⟨(Rw.len hI.ir).1, (Rw.len hI.ir).2.1⟩
  clear hI hb X2 B2 W2 GA
  have hb := below_new (o := .cells #[.int .i64 y.k, .int .i64 y.a, .int .i64 y.b, .slice ga gn gc, .int .i64 y.kd, .int .i64 y.ak, .string y.ky, .string y.vl, .string y.lo, .string y.hi, .int .i64 y.mo, .bool y.bk] 30) (w := v3) (Below.refl _ _)
  have Y4 := hid (Bk.new v3 30 [.int .i64 y.k, .int .i64 y.a, .int .i64 y.b, .slice ga gn gc, .int .i64 y.kd, .int .i64 y.ak, .string y.ky, .string y.vl, .string y.lo, .string y.hi, .int .i64 y.mo, .bool y.bk])
  have X4 := hid (X3.out.below hb)
  have B4 := hid (B3.out.trans (hb.mono B3.out.size))
  have W4 := hid (W3.out.below hb)
  have I4 := hid (I3.out.below hb)
  have HB3 : Hid (v2.heap.size ≤ v3.heap.size ∧ ∀ k, (Value.slice ga gn gc).ownBlock = some k → k < v3.heap.size) := ⟨HV3.out, fun k q => (I3.out.lt q).2⟩
  clear hb X3 B3 W3 I3
  have x0 := X4.out.cell (j := 0) rfl
  have x1 := X4.out.cell (j := 1) rfl
  have x2 := X4.out.cell (j := 2) rfl
  have x3 := X4.out.cell (j := 3) rfl
  have x4 := X4.out.cell (j := 4) rfl
  have x5 := X4.out.cell (j := 5) rfl
  have x6 := X4.out.cell (j := 6) rfl
  have x7 := X4.out.cell (j := 7) rfl
  have x8 := X4.out.cell (j := 8) rfl
  have x9 := X4.out.cell (j := 9) rfl
  have x10 := X4.out.cell (j := 10) rfl
  have x11 := X4.out.cell (j := 11) rfl
  have y0 := Y4.out.cell (j := 0) rfl
  have y1 := Y4.out.cell (j := 1) rfl
  have y2 := Y4.out.cell (j := 2) rfl
  have y3 := Y4.out.cell (j := 3) rfl
  have y4 := Y4.out.cell (j := 4) rfl
  have y5 := Y4.out.cell (j := 5) rfl
  have y6 := Y4.out.cell (j := 6) rfl
  have y7 := Y4.out.cell (j := 7) rfl
  have y8 := Y4.out.cell (j := 8) rfl
  have y9 := Y4.out.cell (j := 9) rfl
  have y10 := Y4.out.cell (j := 10) rfl
  have y11 := Y4.out.cell (j := 11) rfl
  go_wp2_with fail
  refine (eqStep_same _ _ y.k y.a y.b ga gn gc y.kp y.kd y.ak y.ky y.vl y.lo y.hi y.mo y.bk wa wn wc _ I4.out.ir W4.out.ir).mono ?_
  generalize v3.alloc (.cells #[.int .i64 y.k, .int .i64 y.a, .int .i64 y.b, .slice ga gn gc, .int .i64 y.kd, .int .i64 y.ak, .string y.ky, .string y.vl, .string y.lo, .string y.hi, .int .i64 y.mo, .bool y.bk] 30) = v4 at *
  generalize v3.heap.size = gY at *
  rintro r v5 ⟨rfl, hb⟩
  have X5 := hid (X4.out.below hb)
  have Y5 := hid (Y4.out.below hb)
  have W5 := hid (W4.out.below hb)
  have I5 := hid (I4.out.below hb)
  have B5 := hid (B4.out.trans (hb.mono B4.out.size))
  clear hb X4 Y4 W4 I4 B4 x0 x1 x2 x3 x4 x5 x6 x7 x8 x9 x10 x11 y0 y1 y2 y3 y4 y5 y6 y7 y8 y9 y10 y11
  have y0 := Y5.out.cell (j := 0) rfl
  have y1 := Y5.out.cell (j := 1) rfl
  have y2 := Y5.out.cell (j := 2) rfl
  have y3 := Y5.out.cell (j := 3) rfl
  have y4 := Y5.out.cell (j := 4) rfl
  have y5 := Y5.out.cell (j := 5) rfl
  have y6 := Y5.out.cell (j := 6) rfl
  have y7 := Y5.out.cell (j := 7) rfl
  have y8 := Y5.out.cell (j := 8) rfl
  have y9 := Y5.out.cell (j := 9) rfl
  have y10 := Y5.out.cell (j := 10) rfl
  have y11 := Y5.out.cell (j := 11) rfl
  go_wp2_with fail
  refine (markStep_any _ y.k y.a y.b ga gn gc y.kp y.kd y.ak y.ky y.vl y.lo y.hi y.mo y.bk _ I5.out HLN.out).mono ?_
  rintro r v6 ⟨rfl, hL, hO⟩
  have hlo : ∀ k, (Value.slice ga gn gc).ownBlock = some k → v2.heap.size ≤ k ∧ k < gY := fun k q => ⟨(I5.out.lt q).1, HB3.out.2 k q⟩
  have hgx := HB2.out
  have hxx := HX.out
  have L6 := hid hL
  have X6 := hid (X5.out.to hO (fun q => by have := hlo _ q; omega))
  have Y6 := hid (Y5.out.to hO (fun q => by have := hlo _ q; omega))
  have W6 := hid (W5.out.to hO (fun k e q => by have := hlo _ q; have := HW2.out k e; omega))
  have B6 := hid (B5.out.trans (hO.below B5.out.size (fun b hb q => by have := hlo _ q; omega)))
  clear hL hO hlo X5 Y5 W5 I5 B5 y0 y1 y2 y3 y4 y5 y6 y7 y8 y9 y10 y11
  have y0 := Y6.out.cell (j := 0) rfl
  have y1 := Y6.out.cell (j := 1) rfl
  have y2 := Y6.out.cell (j := 2) rfl
  have y3 := Y6.out.cell (j := 3) rfl
  have y4 := Y6.out.cell (j := 4) rfl
  have y5 := Y6.out.cell (j := 5) rfl
  have y6 := Y6.out.cell (j := 6) rfl
  have y7 := Y6.out.cell (j := 7) rfl
  have y8 := Y6.out.cell (j := 8) rfl
  have y9 := Y6.out.cell (j := 9) rfl
  have y10 := Y6.out.cell (j := 10) rfl
  have y11 := Y6.out.cell (j := 11) rfl
  have hgc := HGN.out.2
  have hgn : gn ≤ 1048576 := by have := HGN.out.1; have := HLN.out; omega
  have hp : ¬ (((1 + gn : Nat) : Int) < 0) := by omega
  have hne : ((((1 + gn : Nat) : Int)) != ((1 + gn : Nat) : Int)) = false := by simp
  go_wp2_with fail
  refine (heldStep_any y.k y.a y.b ga gn gc y.kd y.ak y.ky y.vl y.lo y.hi y.mo y.bk _ L6.out hgc hgn).mono ?_
  rintro r v7 ⟨rfl, hb⟩
  have X7 := hid (X6.out.below hb)
  have Y7 := hid (Y6.out.below hb)
  have W7 := hid (W6.out.below hb)
  have L7 := hid (L6.out.below hb)
  have B7 := hid (B6.out.trans (hb.mono B6.out.size))
  clear hb X6 Y6 W6 L6 B6 y0 y1 y2 y3 y4 y5 y6 y7 y8 y9 y10 y11
  have G7 := hid (gz_up (G0.out.to B7.out) B7.out.size)
  generalize hq : ((1 + gn : Nat) : Int) = qq at *
  go_wp2_with fail
  refine (CI.out _ G7.out).mono ?_
  rintro r v8 ⟨ha, hn, hc, rfl, hI, hb⟩
  have J8 := hid hI
  have X8 := hid (X7.out.below hb)
  have Y8 := hid (Y7.out.below hb)
  have W8 := hid (W7.out.below hb)
  have L8 := hid (L7.out.below hb)
  have B8 := hid (B7.out.trans (hb.mono B7.out.size))
  clear hI hb X7 Y7 W7 L7 B7 G7
  have hb := below_new (o := .cells #[.int .i64 y.k, .int .i64 y.a, .int .i64 y.b, .slice ha hn hc, .int .i64 y.kd, .int .i64 y.ak, .string y.ky, .string y.vl, .string y.lo, .string y.hi, .int .i64 y.mo, .bool y.bk] 30) (w := v8) (Below.refl _ _)
  have Z9 := hid (Bk.new v8 30 [.int .i64 y.k, .int .i64 y.a, .int .i64 y.b, .slice ha hn hc, .int .i64 y.kd, .int .i64 y.ak, .string y.ky, .string y.vl, .string y.lo, .string y.hi, .int .i64 y.mo, .bool y.bk])
  have X9 := hid (X8.out.below hb)
  have Y9 := hid (Y8.out.below hb)
  have W9 := hid (W8.out.below hb)
  have L9 := hid (L8.out.below hb)
  have J9 := hid (J8.out.below hb)
  have B9 := hid (B8.out.trans (hb.mono B8.out.size))
  clear hb X8 Y8 W8 L8 J8 B8
  have x0 := X9.out.cell (j := 0) rfl
  have x1 := X9.out.cell (j := 1) rfl
  have x2 := X9.out.cell (j := 2) rfl
  have x3 := X9.out.cell (j := 3) rfl
  have x4 := X9.out.cell (j := 4) rfl
  have x5 := X9.out.cell (j := 5) rfl
  have x6 := X9.out.cell (j := 6) rfl
  have x7 := X9.out.cell (j := 7) rfl
  have x8 := X9.out.cell (j := 8) rfl
  have x9 := X9.out.cell (j := 9) rfl
  have x10 := X9.out.cell (j := 10) rfl
  have x11 := X9.out.cell (j := 11) rfl
  have z0 := Z9.out.cell (j := 0) rfl
  have z1 := Z9.out.cell (j := 1) rfl
  have z2 := Z9.out.cell (j := 2) rfl
  have z3 := Z9.out.cell (j := 3) rfl
  have z4 := Z9.out.cell (j := 4) rfl
  have z5 := Z9.out.cell (j := 5) rfl
  have z6 := Z9.out.cell (j := 6) rfl
  have z7 := Z9.out.cell (j := 7) rfl
  have z8 := Z9.out.cell (j := 8) rfl
  have z9 := Z9.out.cell (j := 9) rfl
  have z10 := Z9.out.cell (j := 10) rfl
  have z11 := Z9.out.cell (j := 11) rfl
  go_wp2_with fail
  refine (eqStep_same _ _ y.k y.a y.b ha hn hc y.kp y.kd y.ak y.ky y.vl y.lo y.hi y.mo y.bk wa wn wc _ J9.out.ir W9.out.ir).mono ?_
  generalize v8.alloc (.cells #[.int .i64 y.k, .int .i64 y.a, .int .i64 y.b, .slice ha hn hc, .int .i64 y.kd, .int .i64 y.ak, .string y.ky, .string y.vl, .string y.lo, .string y.hi, .int .i64 y.mo, .bool y.bk] 30) = v9 at *
  generalize v8.heap.size = gZ at *
  rintro r v10 ⟨rfl, hb⟩
  have Y10 := hid (Y9.out.below hb)
  have L10 := hid (L9.out.below hb)
  have B10 := hid (B9.out.trans (hb.mono B9.out.size))
  clear hb X9 Y9 W9 L9 J9 Z9 B9 x0 x1 x2 x3 x4 x5 x6 x7 x8 x9 x10 x11 z0 z1 z2 z3 z4 z5 z6 z7 z8 z9 z10 z11
  have y0 := Y10.out.cell (j := 0) rfl
  have y1 := Y10.out.cell (j := 1) rfl
  have y2 := Y10.out.cell (j := 2) rfl
  have y3 := Y10.out.cell (j := 3) rfl
  have y4 := Y10.out.cell (j := 4) rfl
  have y5 := Y10.out.cell (j := 5) rfl
  have y6 := Y10.out.cell (j := 6) rfl
  have y7 := Y10.out.cell (j := 7) rfl
  have y8 := Y10.out.cell (j := 8) rfl
  have y9 := Y10.out.cell (j := 9) rfl
  have y10 := Y10.out.cell (j := 10) rfl
  have y11 := Y10.out.cell (j := 11) rfl
  go_wp2_with fail
  refine (heldStep_any y.k y.a y.b ga gn gc y.kd y.ak y.ky y.vl y.lo y.hi y.mo y.bk _ L10.out hgc hgn).mono ?_
  rw [hq]
  rintro r v11 ⟨rfl, hb⟩
  have B11 := hid (B10.out.trans (hb.mono B10.out.size))
  clear hb Y10 L10 B10 y0 y1 y2 y3 y4 y5 y6 y7 y8 y9 y10 y11
  go_wp2
  go_ret
  exact ⟨rfl, B11.out⟩
theorem lawTextStep_door (s : ByteArray) (w : World) (hl : s.size ≤ maxLen) (ht : Tab w) (e5 : Err w 3) (e6 : Err w 2) (e3 : Err w 1) (e4 : Err w 0) (l5 : 3 < w.heap.size) (l6 : 2 < w.heap.size) (l3 : 1 < w.heap.size) (l4 : 0 < w.heap.size) (tl : 5 < w.heap.size) :
    Calls Tryz.prog 3 #[.string s] w fun e w' => e = .returned (.bool true) ∧ Below w.heap.size w w' := lawTextStep_walk s w hl ⟨ht, e4, e3, e5, e6, tl, l4, l3, l5, l6⟩
end Go.Proofs.YtjddkofpfmjojaaGreatDoor
