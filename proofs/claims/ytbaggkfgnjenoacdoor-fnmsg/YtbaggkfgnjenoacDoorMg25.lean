/-
  MsgBytes of the specification.
-/
import Derived.Test.YtbaggkfgnjenoacDoorMg5
import Derived.Test.YtbaggkfgnjenoacDoorMg15
import Derived.Deep.RegionLaw
import Derived.Deep.DeepCutAuto
namespace Go.Proofs.YtbaggkfgnjenoacDoor
open Go.RowKit
set_option linter.unusedVariables false
theorem specPV_fit (a : Option Addr) (n c : Nat) (zs : List Int) (m : Int) (w : World) (h : Rd w a n c zs) (hz : zs.length ≤ 1000) (h0 : 0 ≤ m) (h1 : m ≤ 1099511627775) :
    Calls Tryd.prog 27 #[.slice a n c, .int .i64 m] w fun e w' => ∃ a' n' c', e = .returned (.tuple #[.slice a' n' c', .bool true]) ∧ Rd w' a' n' c' (zs ++ enc m) ∧ Below w.heap.size w w' := by
  have hn := h.len
  have hb := at_byte h.2.2.2.2.1
  refine (specPutVar_any a n c zs m w h (by omega)).mono ?_
  rintro e w' ⟨hbel, hp⟩
  have hl := enc_len m
  have hpv : pv zs m = some (zs ++ enc m) := by
    unfold pv
    rw [if_pos ⟨⟨h0, h1⟩, by rw [List.length_append]; omega⟩]
  rw [hpv] at hp
  rcases hp with ⟨h0, _⟩ | ⟨v, zs', h0, rfl, ho⟩
  · cases h0
  · cases h0
    obtain ⟨a', c', rfl, hr⟩ := ho.rd' (byte_append hb (enc_byte m ‹_› ‹_›)) (by rw [List.length_append]; omega)
    exact ⟨a', _, c', rfl, hr, hbel⟩
theorem specBit_any (y : Bool) (w : World) : Calls Tryd.prog 29 #[.bool y] w fun e w' => e = .returned (.int .i64 (bit y)) ∧ w = w' := by
  cases y with
  | true =>
    go_enter Tryd.func29, Tryd.ntmps29
    go_wp2
    go_ret
    exact ⟨rfl, rfl⟩
  | false =>
    go_enter Tryd.func29, Tryd.ntmps29
    go_wp2
    go_ret
    exact ⟨rfl, rfl⟩
theorem mg_bytes_parts (kd c e n sh nu st k : Int) (ky vl lo hi : ByteArray) (mo : Int) (bk : Bool) (cd : Int) (ps : List PB) (ys : Bool) :
    (((nparts [kd, c, e, n, sh, nu, st, k] ++ tparts [ky, vl, lo, hi]) ++ nparts [mo, bit bk, cd, (ps.length : Int)]) ++ pparts ps) ++ enc (bit ys) = mgBy kd c e n sh nu st k ky vl lo hi mo bk cd ps ys := by
  simp only [mgBy, List.append_assoc]
set_option maxHeartbeats 16000000 in
set_option maxRecDepth 20000 in
theorem specMsgBytes_any (S : Nat → Prop) (ps : List PB) (kd c e n sh nu st k : Int) (ky vl lo hi : ByteArray) (mo : Int) (bk : Bool) (cd : Int) (pa : Option Addr) (pn pc : Nat) (ys : Bool) (w : World) (h : Pr w S (.slice pa pn pc) ps) :
    Calls Tryd.prog 8 #[.agg #[.int .i64 kd, .int .i64 c, .int .i64 e, .int .i64 n, .int .i64 sh, .int .i64 nu, .int .i64 st, .int .i64 k, .string ky, .string vl, .string lo, .string hi, .int .i64 mo, .bool bk, .int .i64 cd, .slice pa pn pc, .bool ys]] w fun r w' => Put w (mgBytes kd c e n sh nu st k ky vl lo hi mo bk cd ps ys) r w' := by
  have B0 := hid (below_new (o := .cells #[.int .i64 kd, .int .i64 c, .int .i64 e, .int .i64 n, .int .i64 sh, .int .i64 nu, .int .i64 st, .int .i64 k, .string ky, .string vl, .string lo, .string hi, .int .i64 mo, .bool bk, .int .i64 cd, .slice pa pn pc, .bool ys] 31) (w := w) (Below.refl _ _))
  have K0 := hid (Bk.new w 31 [.int .i64 kd, .int .i64 c, .int .i64 e, .int .i64 n, .int .i64 sh, .int .i64 nu, .int .i64 st, .int .i64 k, .string ky, .string vl, .string lo, .string hi, .int .i64 mo, .bool bk, .int .i64 cd, .slice pa pn pc, .bool ys])
  have HP : Hid (mgBytes kd c e n sh nu st k ky vl lo hi mo bk cd ps ys = if mgOk kd c e n sh nu st (akOk k ky vl lo hi mo bk) (akZ k ky vl lo hi mo bk) cd ps ys = true then some (mgBy kd c e n sh nu st k ky vl lo hi mo bk cd ps ys) else none) := rfl
  have HM := hid (mg_bytes_parts kd c e n sh nu st k ky vl lo hi mo bk cd ps ys)
  have C1 := hid (specMsgOk_any S ps kd c e n sh nu st k ky vl lo hi mo bk cd pa pn pc ys _ (h.below B0.out))
  have H0 := hid h
  have HN0 := hid (Rw.len h).1
  have hcc := (Rw.len h).2
  have HFF : Hid (mgOk kd c e n sh nu st (akOk k ky vl lo hi mo bk) (akZ k ky vl lo hi mo bk) cd ps ys = true → MgF kd c e n sh nu st k ky vl lo hi mo cd ps) := mgOk_facts
  clear h
  generalize mgBytes kd c e n sh nu st k ky vl lo hi mo bk cd ps ys = out at *
  generalize mgBy kd c e n sh nu st k ky vl lo hi mo bk cd ps ys = full at *
  generalize mgOk kd c e n sh nu st (akOk k ky vl lo hi mo bk) (akZ k ky vl lo hi mo bk) cd ps ys = ok at *
  go_enter Tryd.func8, Tryd.ntmps8
  go_wp2_with (refine wpList_load_row rfl 31 _ rfl w.heap.size rfl 31 _ (0, 0) _ K0.out Tryd.underlying31 rfl (by kernel_rfl) ?_)
  refine C1.out.mono ?_
  clear C1
  generalize w.alloc (.cells #[.int .i64 kd, .int .i64 c, .int .i64 e, .int .i64 n, .int .i64 sh, .int .i64 nu, .int .i64 st, .int .i64 k, .string ky, .string vl, .string lo, .string hi, .int .i64 mo, .bool bk, .int .i64 cd, .slice pa pn pc, .bool ys] 31) = U at *
  rintro r w1 ⟨rfl, hb⟩
  have B1 := hid (btR B0.out hb)
  have K1 := hid (K0.out.below hb)
  clear hb B0 K0
  cases ok with
  | false =>
    have HN : Hid (out = none) := HP.out
    clear HP HFF
    go_wp2
    go_ret2
    exact ⟨B1.out, .inl ⟨HN.out, rfl⟩⟩
  | true =>
    have HN : Hid (out = some full) := HP.out
    have HF := hid (HFF.out rfl)
    clear HP HFF
    have N8 : Hid (∀ m ∈ [kd, c, e, n, sh, nu, st, k], 0 ≤ m ∧ m ≤ 1099511627775) := HF.out.n1
    have N4 : Hid (∀ m ∈ [mo, bit bk, cd, (pn : Int)], 0 ≤ m ∧ m ≤ 1099511627775) := by
      have := mgN4 (bk := bk) HF.out.hmo HF.out.hcd HF.out.hpl
      rw [← HN0.out] at this
      exact this
    have hpn : pn ≤ 8 := by rw [HN0.out]; exact HF.out.hpl
    rw [← HN0.out] at HM
    generalize hl8 : [kd, c, e, n, sh, nu, st, k] = l8 at *
    generalize hl4 : [ky, vl, lo, hi] = l4 at *
    generalize hm4 : [mo, bit bk, cd, (pn : Int)] = m4 at *
    have E8 := hid hl8
    have E4 := hid hl4
    have F4 := hid hm4
    have z8 : l8.length = 8 := by rw [← hl8]; rfl
    have z4 : l4.length = 4 := by rw [← hl4]; rfl
    have y4 : m4.length = 4 := by rw [← hm4]; rfl
    have Z8 := hid z8
    have Z4 := hid z4
    have Y4 := hid y4
    clear hl8 hl4 hm4 z8 z4 y4
    have S4 : Hid (∀ s ∈ l4, s.size ≤ 20) := by rw [← E4.out]; exact HF.out.s1
    have x0 := K1.out.cell (j := 0) rfl
    have x1 := K1.out.cell (j := 1) rfl
    have x2 := K1.out.cell (j := 2) rfl
    have x3 := K1.out.cell (j := 3) rfl
    have x4 := K1.out.cell (j := 4) rfl
    have x5 := K1.out.cell (j := 5) rfl
    have x6 := K1.out.cell (j := 6) rfl
    have x7 := K1.out.cell (j := 7) rfl
    have x8 := K1.out.cell (j := 8) rfl
    have x9 := K1.out.cell (j := 9) rfl
    have x10 := K1.out.cell (j := 10) rfl
    have x11 := K1.out.cell (j := 11) rfl
    have x12 := K1.out.cell (j := 12) rfl
    have x13 := K1.out.cell (j := 13) rfl
    have x14 := K1.out.cell (j := 14) rfl
    have x15 := K1.out.cell (j := 15) rfl
    have x16 := K1.out.cell (j := 16) rfl
    have hlt1 : w.heap.size < w1.heap.size := K1.out.lt
    have K2 : Hid (Bk (w1.alloc (.cells #[] 5)) w.heap.size 31 [.int .i64 kd, .int .i64 c, .int .i64 e, .int .i64 n, .int .i64 sh, .int .i64 nu, .int .i64 st, .int .i64 k, .string ky, .string vl, .string lo, .string hi, .int .i64 mo, .bool bk, .int .i64 cd, .slice pa pn pc, .bool ys]) := K1.out.alloc _
    go_wp2_with fail

    have R3 : Hid (Rd ((w1.alloc (.cells #[] 5)).alloc (.cells #[.int .i64 kd, .int .i64 c, .int .i64 e, .int .i64 n, .int .i64 sh, .int .i64 nu, .int .i64 st, .int .i64 k] 3)) (some ⟨w1.heap.size, 0, none⟩) 0 0 []) := ⟨rfl, Nat.le_refl _, by omega, by omega, by simp, fun h => by omega⟩
    have B3 : Hid (Below w.heap.size w ((w1.alloc (.cells #[] 5)).alloc (.cells #[.int .i64 kd, .int .i64 c, .int .i64 e, .int .i64 n, .int .i64 sh, .int .i64 nu, .int .i64 st, .int .i64 k] 3))) := btR B1.out (below_new (below_new (Below.refl _ _)))
    have K3 : Hid (Bk ((w1.alloc (.cells #[] 5)).alloc (.cells #[.int .i64 kd, .int .i64 c, .int .i64 e, .int .i64 n, .int .i64 sh, .int .i64 nu, .int .i64 st, .int .i64 k] 3)) w.heap.size 31 [.int .i64 kd, .int .i64 c, .int .i64 e, .int .i64 n, .int .i64 sh, .int .i64 nu, .int .i64 st, .int .i64 k, .string ky, .string vl, .string lo, .string hi, .int .i64 mo, .bool bk, .int .i64 cd, .slice pa pn pc, .bool ys]) := K2.out.alloc _
    have Q3 : Hid (Bk ((w1.alloc (.cells #[] 5)).alloc (.cells #[.int .i64 kd, .int .i64 c, .int .i64 e, .int .i64 n, .int .i64 sh, .int .i64 nu, .int .i64 st, .int .i64 k] 3)) (w1.heap.size + 1) 3 (l8.map (fun m => Value.int .i64 m))) := by
      have := Bk.new (w1.alloc (.cells #[] 5)) 3 [.int .i64 kd, .int .i64 c, .int .i64 e, .int .i64 n, .int .i64 sh, .int .i64 nu, .int .i64 st, .int .i64 k]
      rw [show (w1.alloc (.cells #[] 5)).heap.size = w1.heap.size + 1 by simp] at this
      rw [← E8.out]; exact this
    clear K1 K2 B1 hlt1 x0 x1 x2 x3 x4 x5 x6 x7 x8 x9 x10 x11 x12 x13 x14 x15 x16
    generalize (w1.alloc (.cells #[] 5)).alloc (.cells #[.int .i64 kd, .int .i64 c, .int .i64 e, .int .i64 n, .int .i64 sh, .int .i64 nu, .int .i64 st, .int .i64 k] 3) = V3 at *
    generalize w1.heap.size = g1 at *
    have LB4 : Hid ((nparts l8).length ≤ 56) := by
      have h1 := nparts_len l8
      rw [Z8.out] at h1
      exact h1
    have LB6 : Hid ((nparts l8 ++ tparts l4).length ≤ 164) := by
      have h1 := tparts_len l4 S4.out
      rw [Z4.out] at h1
      show _ ≤ _
      have := LB4.out
      rw [List.length_append]; omega
    have LB8 : Hid (((nparts l8 ++ tparts l4) ++ nparts m4).length ≤ 192) := by
      have h1 := nparts_len m4
      rw [Y4.out] at h1
      show _ ≤ _
      have := LB6.out
      rw [List.length_append]; omega
    go_loopw [4, 39] (fun x i wr => ∃ (j : Nat) (a : Option Addr) (m q : Nat), j ≤ 8 ∧ i = .int .i64 j ∧ x = .slice a m q ∧ Hid (Rd wr a m q (nparts (l8.take j))) ∧ Hid (Below V3.heap.size V3 wr)) (fun _ i _ => 8 - (intOf i).toNat)
    case atStart => exact ⟨0, _, _, _, Nat.zero_le _, rfl, rfl, by show Rd _ _ _ _ _; simp only [List.take_zero, nparts]; exact R3.out, Below.refl _ _⟩
    case round =>
      obtain ⟨j, ba, bm, bq, hj, rfl, rfl, HR, HB⟩ := hrel
      by_cases hlt : j < 8
      · have hlt' : (j : Int) < 8 := by omega
        have hjl : j < l8.length := by rw [Z8.out]; exact hlt
        have hc := (Q3.out.below HB.out).cell (j := j) (u := .int .i64 (l8[j]?.getD 0)) (by simp [hjl])
        have hs1 : 0 ≤ l8[j]?.getD 0 ∧ l8[j]?.getD 0 ≤ 1099511627775 := by
          have := N8.out l8[j] (List.getElem_mem hjl)
          simpa [hjl] using this
        have HT : Hid (nparts (l8.take (j + 1)) = nparts (l8.take j) ++ enc (l8[j]?.getD 0)) := nparts_take hjl
        have HLN : Hid ((nparts (l8.take j)).length ≤ 900) := by
          show _ ≤ _
          have h1 := nparts_len (l8.take j); rw [List.length_take] at h1
          omega

        generalize l8[j]?.getD 0 = s at *
        go_wp2_with fail
        refine (specPV_fit _ _ _ _ s wr HR.out (by have := HLN.out; omega) hs1.1 hs1.2).mono ?_
        rintro r w3 ⟨a3, n3, c3, rfl, hr3, hb3⟩
        have HR3 : Hid (Rd w3 a3 n3 c3 (nparts (l8.take (j + 1)))) := by
          show Rd _ _ _ _ _
          rw [HT.out]; exact hr3
        have HB3 := hid (btR HB.out hb3)
        clear hr3 hb3 hc
        go_wp2
        go_roundw
        case rel => exact ⟨j + 1, a3, n3, c3, by omega, by go_num, rfl, HR3.out, HB3.out⟩
        case measure => simp [intOf]; omega
      · have HA : Hid (l8.take j = l8) := by
          show _ = _
          exact List.take_of_length_le (by rw [Z8.out]; omega)
        have R4 : Hid (Rd wr ba bm bq (nparts l8)) := by
          have := HR.out
          rwa [HA.out] at this
        have B4 := hid (btR B3.out HB.out)
        have K4 := hid (K3.out.below HB.out)
        clear HR HB HA B3 K3 R3 Q3 
        have x0 := K4.out.cell (j := 0) rfl
        have x1 := K4.out.cell (j := 1) rfl
        have x2 := K4.out.cell (j := 2) rfl
        have x3 := K4.out.cell (j := 3) rfl
        have x4 := K4.out.cell (j := 4) rfl
        have x5 := K4.out.cell (j := 5) rfl
        have x6 := K4.out.cell (j := 6) rfl
        have x7 := K4.out.cell (j := 7) rfl
        have x8 := K4.out.cell (j := 8) rfl
        have x9 := K4.out.cell (j := 9) rfl
        have x10 := K4.out.cell (j := 10) rfl
        have x11 := K4.out.cell (j := 11) rfl
        have x12 := K4.out.cell (j := 12) rfl
        have x13 := K4.out.cell (j := 13) rfl
        have x14 := K4.out.cell (j := 14) rfl
        have x15 := K4.out.cell (j := 15) rfl
        have x16 := K4.out.cell (j := 16) rfl
        have Q4 : Hid (Bk (wr.alloc (.cells #[.string ky, .string vl, .string lo, .string hi] 9)) wr.heap.size 9 (l4.map Value.string)) := by
          have := Bk.new wr 9 [.string ky, .string vl, .string lo, .string hi]
          rw [← E4.out]; exact this
        have B5 : Hid (Below w.heap.size w (wr.alloc (.cells #[.string ky, .string vl, .string lo, .string hi] 9))) := btR B4.out (below_new (Below.refl _ _))
        have K5 : Hid (Bk (wr.alloc (.cells #[.string ky, .string vl, .string lo, .string hi] 9)) w.heap.size 31 [.int .i64 kd, .int .i64 c, .int .i64 e, .int .i64 n, .int .i64 sh, .int .i64 nu, .int .i64 st, .int .i64 k, .string ky, .string vl, .string lo, .string hi, .int .i64 mo, .bool bk, .int .i64 cd, .slice pa pn pc, .bool ys]) := K4.out.alloc _
        have R5 : Hid (Rd (wr.alloc (.cells #[.string ky, .string vl, .string lo, .string hi] 9)) ba bm bq (nparts l8)) := R4.out.kept (below_new (Below.refl _ _))
        clear B4 K4 R4
        go_wp2_with fail
        generalize wr.alloc (.cells #[.string ky, .string vl, .string lo, .string hi] 9) = V5 at *
        generalize wr.heap.size = g5 at *
        have Q5 := hid Q4.out
        have LB5 := hid LB4.out
        clear Q4 x0 x1 x2 x3 x4 x5 x6 x7 x8 x9 x10 x11 x12 x13 x14 x15 x16
        go_loopw [4, 66] (fun x i wr => ∃ (j : Nat) (a : Option Addr) (m q : Nat), j ≤ 4 ∧ i = .int .i64 j ∧ x = .slice a m q ∧ Hid (Rd wr a m q (nparts l8 ++ tparts (l4.take j))) ∧ Hid (Below V5.heap.size V5 wr)) (fun _ i _ => 4 - (intOf i).toNat)
        case atStart => exact ⟨0, _, _, _, Nat.zero_le _, rfl, rfl, by show Rd _ _ _ _ _; simp only [List.take_zero, tparts, List.append_nil]; exact R5.out, Below.refl _ _⟩
        case round =>
          obtain ⟨j, ba, bm, bq, hj, rfl, rfl, HR, HB⟩ := hrel
          by_cases hlt : j < 4
          · have hlt' : (j : Int) < 4 := by omega
            have hjl : j < l4.length := by rw [Z4.out]; exact hlt
            have hc := (Q5.out.below HB.out).cell (j := j) (u := .string (l4[j]?.getD ⟨#[]⟩)) (by simp [hjl])
            have hs1 : (l4[j]?.getD ⟨#[]⟩).size ≤ 20 := by
              have := S4.out l4[j] (List.getElem_mem hjl)
              simpa [hjl] using this
            have HT : Hid (tparts (l4.take (j + 1)) = tparts (l4.take j) ++ tpart (l4[j]?.getD ⟨#[]⟩)) := tparts_take hjl
            have HLN : Hid ((nparts l8 ++ tparts (l4.take j)).length ≤ 900) := by
              show _ ≤ _
              have h1 := tparts_len (l4.take j) (fun s hs => S4.out s (List.mem_of_mem_take hs)); rw [List.length_take] at h1
              rw [List.length_append]; have h2 := LB5.out; omega

            generalize l4[j]?.getD ⟨#[]⟩ = s at *
            go_wp2_with fail
            refine (specPT_fit _ _ _ _ s wr HR.out (by have := HLN.out; omega) hs1).mono ?_
            rintro r w3 ⟨a3, n3, c3, rfl, hr3, hb3⟩
            have HR3 : Hid (Rd w3 a3 n3 c3 (nparts l8 ++ tparts (l4.take (j + 1)))) := by
              show Rd _ _ _ _ _
              rw [HT.out, ← List.append_assoc]; exact hr3
            have HB3 := hid (btR HB.out hb3)
            clear hr3 hb3 hc
            go_wp2
            go_roundw
            case rel => exact ⟨j + 1, a3, n3, c3, by omega, by go_num, rfl, HR3.out, HB3.out⟩
            case measure => simp [intOf]; omega
          · have HA : Hid (l4.take j = l4) := by
              show _ = _
              exact List.take_of_length_le (by rw [Z4.out]; omega)
            have R6 : Hid (Rd wr ba bm bq (nparts l8 ++ tparts l4)) := by
              have := HR.out
              rwa [HA.out] at this
            have B6 := hid (btR B5.out HB.out)
            have K6 := hid (K5.out.below HB.out)
            clear HR HB HA B5 K5 R5 Q5 
            have x0 := K6.out.cell (j := 0) rfl
            have x1 := K6.out.cell (j := 1) rfl
            have x2 := K6.out.cell (j := 2) rfl
            have x3 := K6.out.cell (j := 3) rfl
            have x4 := K6.out.cell (j := 4) rfl
            have x5 := K6.out.cell (j := 5) rfl
            have x6 := K6.out.cell (j := 6) rfl
            have x7 := K6.out.cell (j := 7) rfl
            have x8 := K6.out.cell (j := 8) rfl
            have x9 := K6.out.cell (j := 9) rfl
            have x10 := K6.out.cell (j := 10) rfl
            have x11 := K6.out.cell (j := 11) rfl
            have x12 := K6.out.cell (j := 12) rfl
            have x13 := K6.out.cell (j := 13) rfl
            have x14 := K6.out.cell (j := 14) rfl
            have x15 := K6.out.cell (j := 15) rfl
            have x16 := K6.out.cell (j := 16) rfl
            have K6d : Hid (Bk wr.drew w.heap.size 31 [.int .i64 kd, .int .i64 c, .int .i64 e, .int .i64 n, .int .i64 sh, .int .i64 nu, .int .i64 st, .int .i64 k, .string ky, .string vl, .string lo, .string hi, .int .i64 mo, .bool bk, .int .i64 cd, .slice pa pn pc, .bool ys]) := K6.out
            have hpn' : (0 : Int) ≤ (pn : Int) := by omega
            clear x0 x1 x2 x3 x4 x5 x6 x7 x8 x9 x10 x11 x12 x13 x14 x15 x16
            go_wp2_with fail
            refine wp_region_noPanic ?_
            refine wp_region_held_drew (S := fun v => Bk v w.heap.size 31 [.int .i64 kd, .int .i64 c, .int .i64 e, .int .i64 n, .int .i64 sh, .int .i64 nu, .int .i64 st, .int .i64 k, .string ky, .string vl, .string lo, .string hi, .int .i64 mo, .bool bk, .int .i64 cd, .slice pa pn pc, .bool ys]) (by kernel_rfl) (K6d.out) (fun hHeld => ?_)
            simp only [List.size_toArray, List.length_cons, List.length_nil, Array.replicate_succ, Array.replicate_zero, Nat.reduceAdd, List.push_toArray, List.nil_append, List.cons_append]
            refine wpAnyH_take (i := 0) (v := .pointer (some ⟨w.heap.size, 7, none⟩)) rfl (by kernel_rfl) (by kernel_rfl) (by kernel_rfl) (fun _ _ _ h => h) (Or.inl ⟨by rfl, ?_⟩) (by assumption) ?_
            · intro w hSw
              go_simp
            try simp only [List.getElem_toArray]
            try simp only [List.getElem_cons_succ]
            try simp only [List.getElem_cons_zero]
            try simp only [Act.put]
            try simp only [List.setIfInBounds_toArray]
            try simp only [List.set_cons_succ]
            try simp only [List.set_cons_zero]
            refine wpAnyH_take (i := 1) (v := .pointer (some ⟨w.heap.size, 12, none⟩)) rfl (by kernel_rfl) (by kernel_rfl) (by kernel_rfl) (fun _ _ _ h => h) (Or.inl ⟨by rfl, ?_⟩) (by assumption) ?_
            · intro w hSw
              go_simp
            try simp only [List.getElem_toArray]
            try simp only [List.getElem_cons_succ]
            try simp only [List.getElem_cons_zero]
            try simp only [Act.put]
            try simp only [List.setIfInBounds_toArray]
            try simp only [List.set_cons_succ]
            try simp only [List.set_cons_zero]
            refine wpAnyH_take (i := 2) (v := .int .i64 mo) rfl (by kernel_rfl) (by kernel_rfl) (by kernel_rfl) (fun _ _ _ h => h) (Or.inl ⟨by rfl, ?_⟩) (by assumption) ?_
            · intro w hSw
              have q := Bk.cell hSw (j := 12) rfl
              go_simp
            try simp only [List.getElem_toArray]
            try simp only [List.getElem_cons_succ]
            try simp only [List.getElem_cons_zero]
            try simp only [Act.put]
            try simp only [List.setIfInBounds_toArray]
            try simp only [List.set_cons_succ]
            try simp only [List.set_cons_zero]
            refine wpAnyH_take (i := 3) (v := .pointer (some ⟨w.heap.size, 7, none⟩)) rfl (by kernel_rfl) (by kernel_rfl) (by kernel_rfl) (fun _ _ _ h => h) (Or.inl ⟨by rfl, ?_⟩) (by assumption) ?_
            · intro w hSw
              go_simp
            try simp only [List.getElem_toArray]
            try simp only [List.getElem_cons_succ]
            try simp only [List.getElem_cons_zero]
            try simp only [Act.put]
            try simp only [List.setIfInBounds_toArray]
            try simp only [List.set_cons_succ]
            try simp only [List.set_cons_zero]
            refine wpAnyH_take (i := 4) (v := .pointer (some ⟨w.heap.size, 13, none⟩)) rfl (by kernel_rfl) (by kernel_rfl) (by kernel_rfl) (fun _ _ _ h => h) (Or.inl ⟨by rfl, ?_⟩) (by assumption) ?_
            · intro w hSw
              go_simp
            try simp only [List.getElem_toArray]
            try simp only [List.getElem_cons_succ]
            try simp only [List.getElem_cons_zero]
            try simp only [Act.put]
            try simp only [List.setIfInBounds_toArray]
            try simp only [List.set_cons_succ]
            try simp only [List.set_cons_zero]
            refine wpAnyH_take (i := 5) (v := .bool bk) rfl (by kernel_rfl) (by kernel_rfl) (by kernel_rfl) (fun _ _ _ h => h) (Or.inl ⟨by rfl, ?_⟩) (by assumption) ?_
            · intro w hSw
              have q := Bk.cell hSw (j := 13) rfl
              go_simp
            try simp only [List.getElem_toArray]
            try simp only [List.getElem_cons_succ]
            try simp only [List.getElem_cons_zero]
            try simp only [Act.put]
            try simp only [List.setIfInBounds_toArray]
            try simp only [List.set_cons_succ]
            try simp only [List.set_cons_zero]
            refine wpAnyH_take (i := 7) (v := .pointer (some ⟨w.heap.size, 14, none⟩)) rfl (by kernel_rfl) (by kernel_rfl) (by kernel_rfl) (fun _ _ _ h => h) (Or.inl ⟨by rfl, ?_⟩) (by assumption) ?_
            · intro w hSw
              go_simp
            try simp only [List.getElem_toArray]
            try simp only [List.getElem_cons_succ]
            try simp only [List.getElem_cons_zero]
            try simp only [Act.put]
            try simp only [List.setIfInBounds_toArray]
            try simp only [List.set_cons_succ]
            try simp only [List.set_cons_zero]
            refine wpAnyH_take (i := 8) (v := .int .i64 cd) rfl (by kernel_rfl) (by kernel_rfl) (by kernel_rfl) (fun _ _ _ h => h) (Or.inl ⟨by rfl, ?_⟩) (by assumption) ?_
            · intro w hSw
              have q := Bk.cell hSw (j := 14) rfl
              go_simp
            try simp only [List.getElem_toArray]
            try simp only [List.getElem_cons_succ]
            try simp only [List.getElem_cons_zero]
            try simp only [Act.put]
            try simp only [List.setIfInBounds_toArray]
            try simp only [List.set_cons_succ]
            try simp only [List.set_cons_zero]
            refine wpAnyH_take (i := 9) (v := .pointer (some ⟨w.heap.size, 15, none⟩)) rfl (by kernel_rfl) (by kernel_rfl) (by kernel_rfl) (fun _ _ _ h => h) (Or.inl ⟨by rfl, ?_⟩) (by assumption) ?_
            · intro w hSw
              go_simp
            try simp only [List.getElem_toArray]
            try simp only [List.getElem_cons_succ]
            try simp only [List.getElem_cons_zero]
            try simp only [Act.put]
            try simp only [List.setIfInBounds_toArray]
            try simp only [List.set_cons_succ]
            try simp only [List.set_cons_zero]
            refine wpAnyH_take (i := 10) (v := .slice pa pn pc) rfl (by kernel_rfl) (by kernel_rfl) (by kernel_rfl) (fun _ _ _ h => h) (Or.inl ⟨by rfl, ?_⟩) (by assumption) ?_
            · intro w hSw
              have q := Bk.cell hSw (j := 15) rfl
              go_simp
            try simp only [List.getElem_toArray]
            try simp only [List.getElem_cons_succ]
            try simp only [List.getElem_cons_zero]
            try simp only [Act.put]
            try simp only [List.setIfInBounds_toArray]
            try simp only [List.set_cons_succ]
            try simp only [List.set_cons_zero]
            refine wpAnyH_take (i := 11) (v := .int .i64 pn) rfl (by kernel_rfl) (by kernel_rfl) (by kernel_rfl) (fun _ _ _ h => h) (Or.inl ⟨by rfl, ?_⟩) (by assumption) ?_
            · intro w hSw
              go_simp
            try simp only [List.getElem_toArray]
            try simp only [List.getElem_cons_succ]
            try simp only [List.getElem_cons_zero]
            try simp only [Act.put]
            try simp only [List.setIfInBounds_toArray]
            try simp only [List.set_cons_succ]
            try simp only [List.set_cons_zero]
            refine wpAnyH_take (i := 14) (v := .int .i64 0) rfl (by kernel_rfl) (by kernel_rfl) (by kernel_rfl) (fun _ _ _ h => h) (Or.inl ⟨by rfl, ?_⟩) (by assumption) ?_
            · intro w hSw
              go_simp
            try simp only [List.getElem_toArray]
            try simp only [List.getElem_cons_succ]
            try simp only [List.getElem_cons_zero]
            try simp only [Act.put]
            try simp only [List.setIfInBounds_toArray]
            try simp only [List.set_cons_succ]
            try simp only [List.set_cons_zero]
            refine wpAnyH_ready (rs := [6]) (by kernel_rfl) (by simp) ?_
            refine AllReadyH.cons rfl (fun K1 hK => ?_) AllReadyH.nil
            go_simp
            refine (specBit_any bk _).mono ?_
            rintro r w' ⟨rfl, rfl⟩
            have hH := hHeld
            clear hHeld
            go_wp2_with fail
            refine hK.out _ _ ?_ (fun hHeld => ?_)
            · exact hH
            clear hK K1
            try simp only [List.getElem_toArray]
            try simp only [List.getElem_cons_succ]
            try simp only [List.getElem_cons_zero]
            try simp only [Act.put]
            try simp only [List.setIfInBounds_toArray]
            try simp only [List.set_cons_succ]
            try simp only [List.set_cons_zero]
            refine wpAnyH_ready (rs := [12]) (by kernel_rfl) (by simp) ?_
            refine AllReadyH.cons rfl (fun K1 hK => ?_) AllReadyH.nil
            go_simp
            have hH2 := Bk.alloc hHeld (.cells #[.int .i64 mo, .int .i64 (bit bk), .int .i64 cd, .int .i64 pn] 3)
            clear hHeld
            refine hK.out _ _ ?_ (fun hHeld => ?_)
            · exact hH2
            clear hK K1
            try simp only [List.getElem_toArray]
            try simp only [List.getElem_cons_succ]
            try simp only [List.getElem_cons_zero]
            try simp only [Act.put]
            try simp only [List.setIfInBounds_toArray]
            try simp only [List.set_cons_succ]
            try simp only [List.set_cons_zero]
            refine wpAnyH_take (i := 13) (v := .int .i64 4) rfl (by kernel_rfl) (by kernel_rfl) (by kernel_rfl) (fun _ _ _ h => h) (Or.inl ⟨by rfl, ?_⟩) (by assumption) ?_
            · intro w hSw
              go_simp
            try simp only [List.getElem_toArray]
            try simp only [List.getElem_cons_succ]
            try simp only [List.getElem_cons_zero]
            try simp only [Act.put]
            try simp only [List.setIfInBounds_toArray]
            try simp only [List.set_cons_succ]
            try simp only [List.set_cons_zero]
            refine wpAnyH_done (by kernel_rfl) ?_ _
            refine NoPanic.normal ?_
            have Q7 : Hid (Bk ((wr.alloc (.cells #[.int .i64 mo, .int .i64 (bit bk), .int .i64 cd, .int .i64 pn] 3)).drew) wr.heap.size 3 (m4.map (fun m => Value.int .i64 m))) := by
              have := Bk.new wr 3 [.int .i64 mo, .int .i64 (bit bk), .int .i64 cd, .int .i64 pn]
              rw [← F4.out]; exact this
            have B7 : Hid (Below w.heap.size w ((wr.alloc (.cells #[.int .i64 mo, .int .i64 (bit bk), .int .i64 cd, .int .i64 pn] 3)).drew)) := btR B6.out (btR (below_new (o := .cells #[.int .i64 mo, .int .i64 (bit bk), .int .i64 cd, .int .i64 pn] 3) (w := wr) (Below.refl _ _)) (below_drew _))
            have K7 : Hid (Bk ((wr.alloc (.cells #[.int .i64 mo, .int .i64 (bit bk), .int .i64 cd, .int .i64 pn] 3)).drew) w.heap.size 31 [.int .i64 kd, .int .i64 c, .int .i64 e, .int .i64 n, .int .i64 sh, .int .i64 nu, .int .i64 st, .int .i64 k, .string ky, .string vl, .string lo, .string hi, .int .i64 mo, .bool bk, .int .i64 cd, .slice pa pn pc, .bool ys]) := hHeld
            have R7 : Hid (Rd ((wr.alloc (.cells #[.int .i64 mo, .int .i64 (bit bk), .int .i64 cd, .int .i64 pn] 3)).drew) ba bm bq (nparts l8 ++ tparts l4)) := R6.out.kept (btR (below_new (o := .cells #[.int .i64 mo, .int .i64 (bit bk), .int .i64 cd, .int .i64 pn] 3) (w := wr) (Below.refl _ _)) (below_drew _))
            have LB7 := hid LB6.out
            clear B6 K6 K6d R6 hHeld
            go_wp2_with fail
            generalize (wr.alloc (.cells #[.int .i64 mo, .int .i64 (bit bk), .int .i64 cd, .int .i64 pn] 3)).drew = wc at *
            generalize wr.heap.size = g7 at *
            go_loopw [4, 91] (fun x i wr => ∃ (j : Nat) (a : Option Addr) (m q : Nat), j ≤ 4 ∧ i = .int .i64 j ∧ x = .slice a m q ∧ Hid (Rd wr a m q ((nparts l8 ++ tparts l4) ++ nparts (m4.take j))) ∧ Hid (Below wc.heap.size wc wr)) (fun _ i _ => 4 - (intOf i).toNat)
            case atStart => exact ⟨0, _, _, _, Nat.zero_le _, rfl, rfl, by show Rd _ _ _ _ _; simp only [List.take_zero, nparts, List.append_nil]; exact R7.out, Below.refl _ _⟩
            case round =>
              obtain ⟨j, ba, bm, bq, hj, rfl, rfl, HR, HB⟩ := hrel
              by_cases hlt : j < 4
              · have hlt' : (j : Int) < 4 := by omega
                have hjl : j < m4.length := by rw [Y4.out]; exact hlt
                have hc := (Q7.out.below HB.out).cell (j := j) (u := .int .i64 (m4[j]?.getD 0)) (by simp [hjl])
                have hs1 : 0 ≤ m4[j]?.getD 0 ∧ m4[j]?.getD 0 ≤ 1099511627775 := by
                  have := N4.out m4[j] (List.getElem_mem hjl)
                  simpa [hjl] using this
                have HT : Hid (nparts (m4.take (j + 1)) = nparts (m4.take j) ++ enc (m4[j]?.getD 0)) := nparts_take hjl
                have HLN : Hid (((nparts l8 ++ tparts l4) ++ nparts (m4.take j)).length ≤ 900) := by
                  show _ ≤ _
                  have h1 := nparts_len (m4.take j); rw [List.length_take] at h1
                  rw [List.length_append]; have h2 := LB7.out; omega

                generalize m4[j]?.getD 0 = s at *
                go_wp2_with fail
                refine (specPV_fit _ _ _ _ s wr HR.out (by have := HLN.out; omega) hs1.1 hs1.2).mono ?_
                rintro r w3 ⟨a3, n3, c3, rfl, hr3, hb3⟩
                have HR3 : Hid (Rd w3 a3 n3 c3 ((nparts l8 ++ tparts l4) ++ nparts (m4.take (j + 1)))) := by
                  show Rd _ _ _ _ _
                  rw [HT.out, ← List.append_assoc]; exact hr3
                have HB3 := hid (btR HB.out hb3)
                clear hr3 hb3 hc
                go_wp2
                go_roundw
                case rel => exact ⟨j + 1, a3, n3, c3, by omega, by go_num, rfl, HR3.out, HB3.out⟩
                case measure => simp [intOf]; omega
              · have HA : Hid (m4.take j = m4) := by
                  show _ = _
                  exact List.take_of_length_le (by rw [Y4.out]; omega)
                have R8 : Hid (Rd wr ba bm bq ((nparts l8 ++ tparts l4) ++ nparts m4)) := by
                  have := HR.out
                  rwa [HA.out] at this
                have B8 := hid (btR B7.out HB.out)
                have K8 := hid (K7.out.below HB.out)
                clear HR HB HA B7 K7 R7 Q7 
                have x0 := K8.out.cell (j := 0) rfl
                have x1 := K8.out.cell (j := 1) rfl
                have x2 := K8.out.cell (j := 2) rfl
                have x3 := K8.out.cell (j := 3) rfl
                have x4 := K8.out.cell (j := 4) rfl
                have x5 := K8.out.cell (j := 5) rfl
                have x6 := K8.out.cell (j := 6) rfl
                have x7 := K8.out.cell (j := 7) rfl
                have x8 := K8.out.cell (j := 8) rfl
                have x9 := K8.out.cell (j := 9) rfl
                have x10 := K8.out.cell (j := 10) rfl
                have x11 := K8.out.cell (j := 11) rfl
                have x12 := K8.out.cell (j := 12) rfl
                have x13 := K8.out.cell (j := 13) rfl
                have x14 := K8.out.cell (j := 14) rfl
                have x15 := K8.out.cell (j := 15) rfl
                have x16 := K8.out.cell (j := 16) rfl
                have LP8 := hid (Pr.below H0.out B8.out)
                clear H0
                go_wp2_with fail
                go_loopw [4, 105] (fun x i wq => ∃ (j : Nat) (a : Option Addr) (m q : Nat), j ≤ pn ∧ i = .int .i64 j ∧ x = .slice a m q ∧ Hid (Rd wq a m q (((nparts l8 ++ tparts l4) ++ nparts m4) ++ pparts (ps.take j))) ∧ Hid (Below wr.heap.size wr wq)) (fun _ i _ => pn - (intOf i).toNat)
                case atStart => exact ⟨0, _, _, _, Nat.zero_le _, rfl, rfl, by show Rd _ _ _ _ _; simp only [List.take_zero, pparts, List.append_nil]; exact R8.out, Below.refl _ _⟩
                case round =>
                  obtain ⟨j, ca, cm, cq, hj, rfl, rfl, HR, HB⟩ := hrel
                  clear x0 x1 x2 x3 x4 x5 x6 x7 x8 x9 x10 x11 x12 x13 x14 x15 x16
                  by_cases hlt : j < pn
                  · have hlt' : (j : Int) < (pn : Int) := by omega
                    have hjl : j < ps.length := by rw [← HN0.out]; exact hlt
                    obtain ⟨b, off, ha, -, -, hcell⟩ := Pr.at (LP8.out.below HB.out) (by omega)
                    obtain ⟨hc0, hc1⟩ := hcell j hlt
                    clear hcell
                    subst ha
                    have hs1 : (pAtB ps j).1.size ≤ 20 ∧ (pAtB ps j).2.size ≤ 20 := by
                      have := HF.out.hps ps[j] (List.getElem_mem hjl)
                      simpa [pAtB, hjl] using this
                    have HT : Hid (pparts (ps.take (j + 1)) = pparts (ps.take j) ++ (tpart (pAtB ps j).1 ++ tpart (pAtB ps j).2)) := pparts_take hjl
                    have HLN : Hid ((((nparts l8 ++ tparts l4) ++ nparts m4) ++ pparts (ps.take j)).length ≤ 700) := by
                      have h1 := pparts_len (ps.take j) (fun s hs => HF.out.hps s (List.mem_of_mem_take hs))
                      rw [List.length_take] at h1
                      show _ ≤ _
                      have h2 := LB8.out
                      rw [List.length_append]; omega
                    generalize pAtB ps j = cur at *
                    obtain ⟨xk, xv⟩ := cur
                    simp only at hs1
                    have BQ : Hid (Below wr.heap.size wr (wr.alloc (.cells #[.string xk, .string xv] 54))) := below_new (Below.refl _ _)
                    have KQ := hid (Bk.new wr 54 [.string xk, .string xv])
                    go_wp2_with fail
                    refine (specPT_fit _ _ _ _ xk _ (HR.out.kept BQ.out) (by have := HLN.out; omega) hs1.1).mono ?_
                    generalize wr.alloc (.cells #[.string xk, .string xv] 54) = VQ at *
                    rintro r w3 ⟨a3, n3, c3, rfl, hr3, hb3⟩
                    have KQ3 := hid (KQ.out.below hb3)
                    have BQ3 := hid (btR BQ.out hb3)
                    have RQ3 := hid hr3
                    clear hr3 hb3 KQ BQ hc0 hc1
                    have q1 := KQ3.out.cell (j := 1) rfl
                    have HL3 : Hid (((((nparts l8 ++ tparts l4) ++ nparts m4) ++ pparts (ps.take j)) ++ tpart xk).length ≤ 800) := by
                      show _ ≤ _
                      have := tpart_len xk
                      have := HLN.out
                      rw [List.length_append]; omega
                    go_wp2_with fail
                    refine (specPT_fit _ _ _ _ xv _ RQ3.out (by have := HL3.out; omega) hs1.2).mono ?_
                    rintro r w4 ⟨a4, n4, c4, rfl, hr4, hb4⟩
                    have HR4 : Hid (Rd w4 a4 n4 c4 (((nparts l8 ++ tparts l4) ++ nparts m4) ++ pparts (ps.take (j + 1)))) := by
                      show Rd _ _ _ _ _
                      rw [HT.out, ← List.append_assoc, ← List.append_assoc]; exact hr4
                    have HB4 := hid (btR HB.out (btR BQ3.out hb4))
                    clear hr4 hb4 KQ3 q1 RQ3 BQ3
                    go_wp2
                    go_roundw
                    case rel => exact ⟨j + 1, a4, n4, c4, by omega, by go_num, rfl, HR4.out, HB4.out⟩
                    case measure => simp [intOf]; omega
                  · have HA : Hid (ps.take j = ps) := by
                      show _ = _
                      exact List.take_of_length_le (by rw [← HN0.out]; omega)
                    have R9 : Hid (Rd wr ca cm cq (((nparts l8 ++ tparts l4) ++ nparts m4) ++ pparts ps)) := by
                      have := HR.out
                      rwa [HA.out] at this
                    have B9 := hid (btR B8.out HB.out)
                    have K9 := hid (K8.out.below HB.out)
                    have L9 : Hid ((((nparts l8 ++ tparts l4) ++ nparts m4) ++ pparts ps).length ≤ 700) := by
                      have h1 := pparts_len ps HF.out.hps
                      have h3 := HF.out.hpl
                      show _ ≤ _
                      have h2 := LB8.out
                      rw [List.length_append]; omega
                    clear HR HB HA B8 K8 R8
                    have x16 := K9.out.cell (j := 16) rfl
                    have hyb := bit_bound ys
                    go_wp2_with fail
                    refine (specBit_any ys _).mono ?_
                    rintro r w' ⟨rfl, rfl⟩
                    have C9 := hid (specPutVar_any ca cm cq _ (bit ys) wr R9.out (by have := R9.out.len; have := L9.out; omega))
                    have HPV : Hid (pv (((nparts l8 ++ tparts l4) ++ nparts m4) ++ pparts ps) (bit ys) = some full) := by
                      show _ = _
                      unfold pv
                      rw [if_pos ⟨⟨hyb.1, by omega⟩, by rw [List.length_append]; have := L9.out; have := enc_len (bit ys); omega⟩, HM.out]
                    go_wp2_with fail
                    refine C9.out.mono ?_
                    rintro r w5 ⟨hb5, hp5⟩
                    rw [HPV.out] at hp5
                    rcases hp5 with ⟨h0, _⟩ | ⟨v, zs', h0, rfl, ho⟩
                    · cases h0
                    · cases h0
                      have OV : Hid (Ob w5 w.heap.size v full) := ho.mono B9.out.size
                      have BV := hid (btR B9.out hb5)
                      obtain ⟨va, vc, rfl⟩ := ho.shape
                      clear ho hb5 C9 HPV x16
                      go_wp2
                      go_ret2
                      exact ⟨BV.out, .inr ⟨_, full, HN.out, rfl, OV.out⟩⟩
end Go.Proofs.YtbaggkfgnjenoacDoor
