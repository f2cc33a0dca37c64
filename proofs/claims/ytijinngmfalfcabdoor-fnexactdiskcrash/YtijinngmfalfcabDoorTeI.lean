/-
  Tear of the program.
-/
import Derived.Test.YtijinngmfalfcabDoorTeS
import Derived.Test.YtijinngmfalfcabDoorFill
import Derived.Test.YtijinngmfalfcabDoorDoor
import Derived.Laws.CopyOwn
namespace Go.Proofs.YtijinngmfalfcabDoor
open Go.RowKit
theorem shOk_iff (zs : List Int) : shOk zs = true ↔ zs.length = 0 ∨ zs.length = 512 := by simp only [shOk, Bool.or_eq_true, decide_eq_true_eq]
def shV (zs : List Int) : Option (List Int) := if shOk zs = true then some (sheet zs) else none
set_option maxHeartbeats 1000000 in
theorem sheetOk_any (a : Option Addr) (n c : Nat) (zs : List Int) (w : World) (h : n = zs.length) (hn : n ≤ 9223372036854775807) :
    Calls Tryd.prog 47 #[.slice a n c] w fun e w' => e = .returned (.bool (shOk zs)) ∧ w' = w := by
  by_cases h0 : n = 0
  · have HV : Hid (shOk zs = true) := (shOk_iff zs).2 (by omega)
    subst h0
    clear h
    go_enter Tryd.func47, Tryd.ntmps47
    go_wp2
    go_ret
    exact ⟨by rw [HV.out]; rfl, rfl⟩
  · have h0' : ((n : Int) == 0) = false := by simp; omega
    have h0'' : ¬ (n : Int) = 0 := by omega
    by_cases h5 : n = 512
    · have HV : Hid (shOk zs = true) := (shOk_iff zs).2 (by omega)
      subst h5
      clear h
      go_enter Tryd.func47, Tryd.ntmps47
      go_wp2
      go_ret
      exact ⟨by rw [HV.out]; rfl, rfl⟩
    · have h5' : ((n : Int) == 512) = false := by simp; omega
      have h5'' : ¬ (n : Int) = 512 := by omega
      have HV : Hid (shOk zs = false) := by
        show _ = false
        rw [Bool.eq_false_iff]
        intro e
        have := (shOk_iff zs).1 e
        omega
      clear h
      go_enter Tryd.func47, Tryd.ntmps47
      go_wp2
      go_ret
      exact ⟨by rw [HV.out]; rfl, rfl⟩
set_option maxHeartbeats 2000000 in
theorem sheetBytes_any (a : Option Addr) (n c : Nat) (zs : List Int) (w : World) (h : Rd w a n c zs) (he : Err w 0) (he2 : Err w 1) :
    Calls Tryd.prog 51 #[.slice a n c] w fun e w' => Put w (shV zs) e w' := by
  have hzl : n = zs.length := h.1
  have HC := hid (sheetOk_any a n c zs w hzl (by have := h.2.1; have := h.2.2.1; omega))
  by_cases hok : n = 0 ∨ n = 512
  · have HV : Hid (fl zs 512 = shV zs) := by
      show _ = _
      rw [shV, if_pos ((shOk_iff zs).2 (by omega)), sheet, fl, if_pos (by omega)]
      rcases hok with e | e
      · rw [if_pos (by omega), List.eq_nil_of_length_eq_zero (by omega : zs.length = 0)]
        rfl
      · rw [if_neg (by omega), ← hzl, e]
        simp
    have HT : Hid (shOk zs = true) := (shOk_iff zs).2 (by omega)
    have HR := hid h
    have HE := hid he
    have HE2 := hid he2
    have hn5 : n ≤ 1099511627776 := by omega
    clear h he he2 hok hzl
    go_enter Tryd.func51, Tryd.ntmps51
    go_wp2_with fail
    refine HC.out.mono ?_
    rintro e w0 ⟨rfl, rfl⟩
    rw [HT.out]
    go_wp2_with fail
    refine (implFill_any a _ c zs 512 _ HR.out (by omega) HE.out HE2.out HE.out.lt HE2.out.lt).mono ?_
    intro e w1 hput
    rw [HV.out] at hput
    have HP := hid hput
    rcases hput.2 with ⟨_, rfl⟩ | ⟨v, out, _, rfl, ho⟩
    · clear hput
      go_wp2
      go_ret2
      exact HP.out
    · obtain ⟨a', c', rfl⟩ := ho.shape
      clear hput ho
      go_wp2
      go_ret2
      exact HP.out
  · have HN : Hid (shV zs = none) := by
      show _ = _
      rw [shV, if_neg]
      rw [shOk_iff]
      omega
    have HT : Hid (shOk zs = false) := by
      show _ = false
      rw [Bool.eq_false_iff]
      intro e
      have := (shOk_iff zs).1 e
      omega
    clear h he he2 hok hzl
    go_enter Tryd.func51, Tryd.ntmps51
    go_wp2_with fail
    refine HC.out.mono ?_
    rintro e w0 ⟨rfl, rfl⟩
    rw [HT.out]
    go_wp2
    go_ret2
    exact ⟨Below.refl _ _, .inl ⟨HN.out, rfl⟩⟩
theorem Ob.row {w : World} {B g n c : Nat} {xs : List Int} (h : Ob w B (.slice (some ⟨g, 0, none⟩) n c) xs) : ∃ cur : List Value, w.heap[g]? = some (.cells cur.toArray 5 (0, 0)) ∧ B ≤ g ∧ n = xs.length ∧ xs.length ≤ cur.length ∧
    ∀ (ys : List Int) (w' : World), ys.length ≤ xs.length → w'.heap[g]? = some (.cells (splice cur 0 (ys.map (Value.int .u8))).toArray 5 (0, 0)) → Ob w' B (.slice (some ⟨g, 0, none⟩) n c) (ys ++ xs.drop ys.length) := by
  obtain ⟨k1, k2⟩ := h
  rcases k2 with ⟨k2, _⟩ | ⟨g', cap, cur, e, k3, k4, k5, k6, k7, k8⟩
  · cases k2
  · have e2 : g' = g ∧ n = xs.length ∧ c = cap := by cases e; exact ⟨rfl, rfl, rfl⟩
    obtain ⟨rfl, rfl, rfl⟩ := e2
    rw [Nat.mul_one] at k7 k8
    have hcl : cur.toList.length = c := by simpa using k7
    refine ⟨cur.toList, by simpa using k4, k3, rfl, by omega, fun ys w' hl hg => ?_⟩
    have hlen : (ys ++ xs.drop ys.length).length = xs.length := by simp; omega
    refine ⟨by rw [List.length_map, Nat.mul_one], .inr ⟨g', c, (splice cur.toList 0 (ys.map (Value.int .u8))).toArray, by rw [hlen], k3, hg, by rw [hlen]; exact k5, k6, ?_, ?_⟩⟩
    · rw [Nat.mul_one, List.size_toArray, length_splice _ _ _ (by simp; omega)]
      exact hcl
    · rw [Nat.mul_one, hlen, splice]
      have e3 : (cur.toList.drop ys.length).take (xs.length - ys.length) = (xs.drop ys.length).map (Value.int .u8) := by
        rw [List.map_drop, ← k8, List.drop_take]
      simp only [List.take_zero, List.nil_append, Nat.zero_add, List.length_map, List.map_append]
      rw [List.take_append, List.length_map, List.take_of_length_le (by simp; omega), e3]
theorem sizeU8 : (Tryd.prog.info? 5).map (·.size) = some 1 := by kernel_rfl
set_option maxHeartbeats 4000000 in
set_option maxRecDepth 20000 in
theorem implTear_any (a : Option Addr) (n c : Nat) (xs : List Int) (b : Option Addr) (m d : Nat) (ys : List Int) (t : Int) (w : World) (hx : Rd w a n c xs) (hy : Rd w b m d ys) (he : Err w 0) (he2 : Err w 1) :
    Calls Tryd.prog 31 #[.slice a n c, .slice b m d, .int .i64 t] w fun e w' => TePost (tearV xs ys t) w e w' := by
  have HX := hid hx
  have HY := hid hy
  have HE := hid he
  have HE2 := hid he2
  have HBX := hid (sheet_byte (at_byte hx.2.2.2.2.1))
  have HBY := hid (sheet_byte (at_byte hy.2.2.2.2.1))
  clear hx hy he he2
  go_enter Tryd.func31, Tryd.ntmps31
  go_wp2_with fail
  refine (sheetBytes_any a n c xs _ HX.out HE.out HE2.out).mono ?_
  intro e w1 hp1
  have B1 := hid hp1.1
  rcases hp1.2 with ⟨hn1, rfl⟩ | ⟨v1, o1, hs1, rfl, ho1⟩
  · have HN : Hid (tearV xs ys t = none) := by
      show _ = _
      rw [tearV, if_neg]
      rintro ⟨h1, _⟩
      rw [shV, if_pos h1] at hn1
      cases hn1
    clear hp1 hn1
    go_wp2_with fail
    refine (sheetBytes_any b m d ys _ (HY.out.kept B1.out) (HE.out.below B1.out HE.out.lt) (HE2.out.below B1.out HE2.out.lt)).mono ?_
    intro e w2 hp2
    have B2 := hid (B1.out.trans (hp2.1.mono B1.out.size))
    rcases hp2.2 with ⟨_, rfl⟩ | ⟨v2, o2, _, rfl, ho2⟩
    · clear hp2
      go_wp2
      go_ret
      exact ⟨B2.out, .inl ⟨HN.out, rfl⟩⟩
    · obtain ⟨a', c', rfl⟩ := ho2.shape
      clear hp2 ho2
      go_wp2
      go_ret
      exact ⟨B2.out, .inl ⟨HN.out, rfl⟩⟩
  · have h1 : shOk xs = true ∧ o1 = sheet xs := by
      unfold shV at hs1
      split at hs1
      · rename_i h; cases hs1; exact ⟨h, rfl⟩
      · cases hs1
    obtain ⟨hk1, rfl⟩ := h1
    obtain ⟨a1, c1, rfl⟩ := ho1.shape
    have HL1 := hid (sheet_len hk1)
    rw [HL1.out] at ho1 ⊢
    obtain ⟨g1, rfl, hB1, -⟩ := ho1.at (by omega)
    have HK1 := hid hk1
    have O1 := hid ho1
    have HG1 := hid hB1
    have HLT : Hid (g1 < w1.heap.size) := (World.ownsRow.lt ho1 g1 rfl).2
    clear hp1 hs1 ho1 hk1 hB1
    go_wp2_with fail
    refine (sheetBytes_any b m d ys _ (HY.out.kept B1.out) (HE.out.below B1.out HE.out.lt) (HE2.out.below B1.out HE2.out.lt)).mono ?_
    intro e w2 hp2
    have B2 := hid (B1.out.trans (hp2.1.mono B1.out.size))
    have O2 := hid (O1.out.keepT hp2.1)
    rcases hp2.2 with ⟨hn2, rfl⟩ | ⟨v2, o2, hs2, rfl, ho2⟩
    · have HN : Hid (tearV xs ys t = none) := by
        show _ = _
        rw [tearV, if_neg]
        rintro ⟨_, h2⟩
        rw [shV, if_pos h2] at hn2
        cases hn2
      clear hp2 hn2
      go_wp2
      go_ret
      exact ⟨B2.out, .inl ⟨HN.out, rfl⟩⟩
    · have h2 : shOk ys = true ∧ o2 = sheet ys := by
        unfold shV at hs2
        split at hs2
        · rename_i h; cases hs2; exact ⟨h, rfl⟩
        · cases hs2
      obtain ⟨hk2, rfl⟩ := h2
      obtain ⟨a2, c2, rfl⟩ := ho2.shape
      have HL2 := hid (sheet_len hk2)
      obtain ⟨a', c', e2, hR2, -⟩ := ho2.rd (byte_at HBY.out) (by rw [HL2.out]; omega)
      cases e2
      rw [HL2.out] at hR2 ⊢
      obtain ⟨g2, off2, rfl, hlt2, hcell2⟩ := hR2.2.2.2.2.2 (by omega)
      have hc2 := hR2.2.1
      have hc2m := hR2.2.2.1
      have R2 := hid hR2
      have HN : Hid (tearV xs ys t = some (trB (sheet xs) (sheet ys) t)) := by show _ = _; rw [tearV, if_pos ⟨HK1.out, hk2⟩]
      have HL1' := HL1.out
      have HL2' := HL2.out
      obtain ⟨cur, hcur, hBg, hnl, hxl, hback⟩ := O2.out.row
      have HC := hid hcur
      have HBK := hid hback
      clear hp2 hs2 ho2 hk2 hcell2 hlt2 hcur hback O1 O2 hnl hBg
      have main : ∀ k : Nat, k ≤ 512 → trB (sheet xs) (sheet ys) t = (sheet ys).take k ++ (sheet xs).drop k →
          (∀ w', Below w.heap.size w w' → w'.heap[g1]? = some (.cells (splice cur 0 (((sheet ys).take k).map (Value.int .u8))).toArray 5 (0, 0)) → TePost (tearV xs ys t) w (.returned (.slice (some ⟨g1, 0, none⟩) 512 c1)) w') := by
        intro k hk ht w' hb hg
        refine ⟨hb, .inr ⟨_, _, by rw [HN.out, ht], rfl, ?_⟩⟩
        have := HBK.out ((sheet ys).take k) w' (by rw [List.length_take]; omega) hg
        rwa [List.length_take, Nat.min_eq_left (by omega)] at this
      have HM := hid main
      have HSRC : Hid (∀ k, k ≤ 512 → ∀ (j : Nat) (v : Value), (((sheet ys).take k).map (Value.int .u8))[j]? = some v → w2.cell? ((⟨g2, off2, none⟩ : Addr).add j) = some v) := by
        intro k hk j v hv
        have hj : j < k := by
          have := (List.getElem?_eq_some_iff.1 hv).1
          simp at this
          omega
        obtain ⟨g', off', e, _, hc⟩ := R2.out.2.2.2.2.2 (by omega)
        cases e
        have hc' := hc j (by omega)
        rw [Addr.add_lit, hc']
        rw [List.getElem?_map, List.getElem?_take_of_lt hj] at hv
        obtain ⟨z, hz, rfl⟩ := Option.map_eq_some_iff.1 hv
        rw [hz]
        rfl
      have HLK : Hid (∀ k, k ≤ 512 → (((sheet ys).take k).map (Value.int .u8)).length = k) := by
        intro k hk
        rw [List.length_map, List.length_take]
        omega
      have HO1 : Hid (∀ k, ∀ v ∈ ((sheet ys).take k).map (Value.int .u8), v.oneCell' = true) := by
        intro k v hv
        obtain ⟨z, _, rfl⟩ := List.mem_map.1 hv
        rfl
      have HXL : Hid (512 ≤ cur.length) := by show _ ≤ _; omega
      clear main
      by_cases t0 : t < 0
      · have HT : Hid (trB (sheet xs) (sheet ys) t = (sheet ys).take 0 ++ (sheet xs).drop 0) := by show _ = _; rw [trB, show t.toNat = 0 by omega]
        have t0' : (0 : Int) > t := t0
        clear HL1' HL2'
        generalize hXS : ((sheet ys).take 0).map (Value.int .u8) = X at *
        have HXS := hid hXS
        clear hXS
        go_wp2_with (refine wpList_copy_splice rfl (.tmp 31) (.tmp 34) 46 46 rfl 5 Tryd.underlying46 sizeU8 _ _ _ _ _ _ rfl rfl g1 0 cur 5 HC.out X ?hn ?hpos ?hfit ?h1 w.heap.size w B2.out HG1.out ?_)
        case hn => rw [← HXS.out, HLK.out 0 (by omega)]; rfl
        case hpos => intro hp; rw [← HXS.out, HLK.out 0 (by omega)] at hp; omega
        case hfit => rw [← HXS.out, HLK.out 0 (by omega)]; omega
        case h1 => rw [← HXS.out]; exact HO1.out 0
        intro w3 hg3 hb3
        rw [← HXS.out] at hg3
        have HQ := hid (HM.out 0 (by omega) HT.out w3 hb3 hg3.out)
        clear hg3 hb3
        go_wp2
        go_ret
        exact HQ.out
      · by_cases t1 : t ≤ 512
        · obtain ⟨k, rfl⟩ := Int.eq_ofNat_of_zero_le (show 0 ≤ t by omega)
          have hk : k ≤ 512 := by omega
          have HT : Hid (trB (sheet xs) (sheet ys) (k : Int) = (sheet ys).take k ++ (sheet xs).drop k) := by show _ = _; rw [trB, show (k : Int).toNat = k by omega]
          have t0' : ¬ (0 : Int) > (k : Int) := by omega
          have t1' : ¬ (512 : Int) < (k : Int) := by omega
          have t2' : (k : Int) ≤ (c2 : Int) := by omega
          clear HL1' HL2'
          generalize hXS : ((sheet ys).take k).map (Value.int .u8) = X at *
          have HXS := hid hXS
          clear hXS
          go_wp2_with (refine wpList_copy_splice rfl (.tmp 31) (.tmp 34) 46 46 rfl 5 Tryd.underlying46 sizeU8 _ _ _ _ _ _ rfl rfl g1 0 cur 5 HC.out X ?hn ?hpos ?hfit ?h1 w.heap.size w B2.out HG1.out ?_)
          case hn => rw [← HXS.out, HLK.out k hk]; exact (Nat.min_eq_left hk).symm
          case hpos => intro _ j v hv; have := HSRC.out k hk j v (by rw [HXS.out]; exact hv); simpa [Addr.add_lit] using this
          case hfit => rw [← HXS.out, HLK.out k hk]; have := HXL.out; omega
          case h1 => rw [← HXS.out]; exact HO1.out k
          intro w3 hg3 hb3
          rw [← HXS.out] at hg3
          have HQ := hid (HM.out k hk HT.out w3 hb3 hg3.out)
          clear hg3 hb3
          go_wp2
          go_ret
          exact HQ.out
        · have HT : Hid (trB (sheet xs) (sheet ys) t = (sheet ys).take 512 ++ (sheet xs).drop 512) := by
            show _ = _
            rw [trB, List.take_of_length_le (by omega), List.drop_eq_nil_of_le (by omega), List.take_of_length_le (by omega), List.drop_eq_nil_of_le (by omega)]
          have t0' : ¬ (0 : Int) > t := by omega
          have t1' : (512 : Int) < t := by omega
          have t2' : (512 : Int) ≤ (c2 : Int) := by omega
          clear HL1' HL2'
          generalize hXS : ((sheet ys).take 512).map (Value.int .u8) = X at *
          have HXS := hid hXS
          clear hXS
          go_wp2_with (refine wpList_copy_splice rfl (.tmp 31) (.tmp 34) 46 46 rfl 5 Tryd.underlying46 sizeU8 _ _ _ _ _ _ rfl rfl g1 0 cur 5 HC.out X ?hn ?hpos ?hfit ?h1 w.heap.size w B2.out HG1.out ?_)
          case hn => rw [← HXS.out, HLK.out 512 (by omega)]; rfl
          case hpos => intro _ j v hv; have := HSRC.out 512 (by omega) j v (by rw [HXS.out]; exact hv); simpa [Addr.add_lit] using this
          case hfit => rw [← HXS.out, HLK.out 512 (by omega)]; have := HXL.out; omega
          case h1 => rw [← HXS.out]; exact HO1.out 512
          intro w3 hg3 hb3
          rw [← HXS.out] at hg3
          have HQ := hid (HM.out 512 (by omega) HT.out w3 hb3 hg3.out)
          clear hg3 hb3
          go_wp2
          go_ret
          exact HQ.out
end Go.Proofs.YtijinngmfalfcabDoor

