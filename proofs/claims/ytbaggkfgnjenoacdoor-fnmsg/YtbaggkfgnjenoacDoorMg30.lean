/-
  MsgBytes of the program: numbers, texts, asks and pairs are written one behind the other.
-/
import Derived.Test.YtbaggkfgnjenoacDoorMg5
import Derived.Test.YtbaggkfgnjenoacDoorMg2
import Derived.Test.YtbaggkfgnjenoacDoorMg28
namespace Go.Proofs.YtbaggkfgnjenoacDoor
open Go.RowKit
set_option linter.unusedVariables false
set_option maxHeartbeats 1600000 in
theorem writeNumbers_any (g b : Nat) (zs : List Int) (n : Nat) (ns : List Int) (w : World) (h : Wr w g 4096 (some zs)) (ho : Off w g b) (hk : Bk w b 3 (ns.map (fun m => Value.int .i64 m))) (hn : n = ns.length) (hz : zs.length ≤ 3000) (hs : ∀ m ∈ ns, 0 ≤ m ∧ m ≤ 1099511627775) (hl : ns.length ≤ 20) :
    Calls Tryd.prog 13 #[.pointer (some ⟨g, 0, none⟩), .slice (some ⟨b, 0, none⟩) n n] w fun e w' => e = .returned (.tuple #[]) ∧ Below g w w' ∧ Wr w' g 4096 (some (zs ++ nparts ns)) ∧ Kp g w w' := by
  have W0 := hid h
  have O0 := hid ho
  have K0 := hid hk
  have HN := hid hn
  have HS := hid hs
  have hn2 : n ≤ 20 := by omega
  clear h ho hk hs hl hn
  go_enter Tryd.func13, Tryd.ntmps13
  go_wp2_with fail
  go_loopw [8] (fun i wr => ∃ j : Nat, j ≤ n ∧ i = .int .i64 j ∧ Hid (Below g w wr) ∧ Hid (Kp g w wr) ∧ Hid (Wr wr g 4096 (some (zs ++ nparts (ns.take j))))) (fun i _ => n - (intOf i).toNat)
  case atStart => exact ⟨0, Nat.zero_le _, rfl, Below.refl _ _, Kp.refl _ _, by show Wr _ _ _ _; simp [nparts]; exact W0.out⟩
  case round =>
    obtain ⟨j, hj, rfl, HB, HK, HW⟩ := hrel
    by_cases hlt : j < n
    · have hlt' : (j : Int) < (n : Int) := by omega
      have hjl : j < ns.length := by rw [← HN.out]; exact hlt
      have hc := (HK.out.bk O0.out K0.out).cell (j := j) (u := .int .i64 (ns[j]?.getD 0)) (by simp [hjl])
      have hs1 : 0 ≤ ns[j]?.getD 0 ∧ ns[j]?.getD 0 ≤ 1099511627775 := by
        have := HS.out ns[j] (List.getElem_mem hjl)
        simpa [hjl] using this
      have HT : Hid (zs ++ nparts (ns.take (j + 1)) = (zs ++ nparts (ns.take j)) ++ enc (ns[j]?.getD 0)) := by
        show _ = _
        rw [nparts_take hjl, List.append_assoc]
      have HLN : Hid ((zs ++ nparts (ns.take j)).length ≤ 3600) := by
        show _ ≤ _
        have := nparts_len (ns.take j); rw [List.length_take] at this
        rw [List.length_append]
        omega
      generalize ns[j]?.getD 0 = s at *
      go_wp2_with fail
      refine (numberK_any g 4096 _ s wr HW.out hs1.1 hs1.2 (by have := HLN.out; have := enc_len s; omega) (by omega)).mono ?_
      rintro e w3 ⟨rfl, hb, hw, hk⟩
      have HB3 := hid (HB.out.trans hb)
      have HK3 := hid (HK.out.trans hk)
      have HW3 : Hid (Wr w3 g 4096 (some (zs ++ nparts (ns.take (j + 1))))) := by
        show Wr _ _ _ _
        rw [HT.out]; exact hw
      clear hb hw hk
      go_wp2
      go_roundw
      case rel => exact ⟨j + 1, by omega, by go_num, HB3.out, HK3.out, HW3.out⟩
      case measure => simp [intOf]; omega
    · have HA : Hid (ns.take j = ns) := by
        show _ = _
        exact List.take_of_length_le (by rw [← HN.out]; omega)
      go_wp2
      go_end0
      refine ⟨rfl, HB.out, ?_, HK.out⟩
      have := HW.out
      rwa [HA.out] at this
set_option maxHeartbeats 1600000 in
theorem writeTexts_any (g b : Nat) (zs : List Int) (n : Nat) (ns : List ByteArray) (w : World) (h : Wr w g 4096 (some zs)) (ho : Off w g b) (hk : Bk w b 9 (ns.map Value.string)) (hn : n = ns.length) (hz : zs.length ≤ 3000) (hs : ∀ m ∈ ns, m.size ≤ 20) (hl : ns.length ≤ 20) :
    Calls Tryd.prog 39 #[.pointer (some ⟨g, 0, none⟩), .slice (some ⟨b, 0, none⟩) n n] w fun e w' => e = .returned (.tuple #[]) ∧ Below g w w' ∧ Wr w' g 4096 (some (zs ++ tparts ns)) ∧ Kp g w w' := by
  have W0 := hid h
  have O0 := hid ho
  have K0 := hid hk
  have HN := hid hn
  have HS := hid hs
  have hn2 : n ≤ 20 := by omega
  clear h ho hk hs hl hn
  go_enter Tryd.func39, Tryd.ntmps39
  go_wp2_with fail
  go_loopw [8] (fun i wr => ∃ j : Nat, j ≤ n ∧ i = .int .i64 j ∧ Hid (Below g w wr) ∧ Hid (Kp g w wr) ∧ Hid (Wr wr g 4096 (some (zs ++ tparts (ns.take j))))) (fun i _ => n - (intOf i).toNat)
  case atStart => exact ⟨0, Nat.zero_le _, rfl, Below.refl _ _, Kp.refl _ _, by show Wr _ _ _ _; simp [tparts]; exact W0.out⟩
  case round =>
    obtain ⟨j, hj, rfl, HB, HK, HW⟩ := hrel
    by_cases hlt : j < n
    · have hlt' : (j : Int) < (n : Int) := by omega
      have hjl : j < ns.length := by rw [← HN.out]; exact hlt
      have hc := (HK.out.bk O0.out K0.out).cell (j := j) (u := .string (ns[j]?.getD ⟨#[]⟩)) (by simp [hjl])
      have hs1 : (ns[j]?.getD ⟨#[]⟩).size ≤ 20 := by
        have := HS.out ns[j] (List.getElem_mem hjl)
        simpa [hjl] using this
      have HT : Hid (zs ++ tparts (ns.take (j + 1)) = (zs ++ tparts (ns.take j)) ++ tpart (ns[j]?.getD ⟨#[]⟩)) := by
        show _ = _
        rw [tparts_take hjl, List.append_assoc]
      have HLN : Hid ((zs ++ tparts (ns.take j)).length ≤ 3600) := by
        show _ ≤ _
        have := tparts_len (ns.take j) (fun s hs => HS.out s (List.mem_of_mem_take hs)); rw [List.length_take] at this
        rw [List.length_append]
        omega
      generalize ns[j]?.getD ⟨#[]⟩ = s at *
      go_wp2_with fail
      refine (textK_any g 4096 _ s wr HW.out (by omega) (by have := HLN.out; have := enc_len (s.size : Int); omega) (by omega)).mono ?_
      rintro e w3 ⟨rfl, hb, hw, hk⟩
      have HB3 := hid (HB.out.trans hb)
      have HK3 := hid (HK.out.trans hk)
      have HW3 : Hid (Wr w3 g 4096 (some (zs ++ tparts (ns.take (j + 1))))) := by
        show Wr _ _ _ _
        rw [HT.out]; exact hw
      clear hb hw hk
      go_wp2
      go_roundw
      case rel => exact ⟨j + 1, by omega, by go_num, HB3.out, HK3.out, HW3.out⟩
      case measure => simp [intOf]; omega
    · have HA : Hid (ns.take j = ns) := by
        show _ = _
        exact List.take_of_length_le (by rw [← HN.out]; omega)
      go_wp2
      go_end0
      refine ⟨rfl, HB.out, ?_, HK.out⟩
      have := HW.out
      rwa [HA.out] at this
set_option maxHeartbeats 800000 in
theorem writeBool_any (g : Nat) (zs : List Int) (y : Bool) (w : World) (h : Wr w g 4096 (some zs)) (hz : zs.length ≤ 3600) :
    Calls Tryd.prog 17 #[.pointer (some ⟨g, 0, none⟩), .bool y] w fun e w' => e = .returned (.tuple #[]) ∧ Below g w w' ∧ Wr w' g 4096 (some (zs ++ enc (bit y))) ∧ Kp g w w' := by
  have W0 := hid h
  clear h
  cases y with
  | true =>
    have C1 := hid (numberK_any g 4096 zs 1 w W0.out (by omega) (by omega) (by have := enc_len 1; omega) (by omega))
    go_enter Tryd.func17, Tryd.ntmps17
    go_wp2_with fail
    refine C1.out.mono ?_
    rintro e w3 ⟨rfl, hb, hw, hk⟩
    have HB := hid hb
    have HW := hid hw
    have HK := hid hk
    clear hb hw hk
    go_wp2
    refine bodyPost_ret (results_none rfl _ _ _) rfl ?_
    exact ⟨rfl, HB.out, HW.out, HK.out⟩
  | false =>
    have C1 := hid (numberK_any g 4096 zs 0 w W0.out (by omega) (by omega) (by have := enc_len 0; omega) (by omega))
    go_enter Tryd.func17, Tryd.ntmps17
    go_wp2_with fail
    refine C1.out.mono ?_
    rintro e w3 ⟨rfl, hb, hw, hk⟩
    have HB := hid hb
    have HW := hid hw
    have HK := hid hk
    clear hb hw hk
    go_wp2
    go_end0
    exact ⟨rfl, HB.out, HW.out, HK.out⟩
/-- The writer at hand: what it has, a box that is none of its. -/
structure Wk (w v : World) (g b : Nat) (T : TypeId) (xs : List Value) (zs : List Int) : Prop where
  bel : Below g w v
  kp : Kp g w v
  wr : Wr v g 4096 (some zs)
  off : Off v g b
  box : Bk v b T xs
theorem Wk.step {w v v' : World} {g b : Nat} {T : TypeId} {xs : List Value} {zs zs' : List Int} (h : Wk w v g b T xs zs) (hb : Below g v v') (hw : Wr v' g 4096 (some zs')) (hk : Kp g v v') : Wk w v' g b T xs zs' := ⟨h.bel.trans hb, h.kp.trans hk, hw, (hk b h.off).2, hk.bk h.off h.box⟩
theorem Wk.alloc {w v : World} {g b : Nat} {T : TypeId} {xs : List Value} {zs : List Int} (h : Wk w v g b T xs zs) (o : Obj) : Wk w (v.alloc o) g b T xs zs := h.step ((Below.refl _ _).alloc (Nat.le_of_lt h.wr.lt) o) (h.wr.alloc o) (Kp.alloc h.wr.lt o)
theorem Wk.start {w : World} {g : Nat} {zs : List Int} (h : Wr w g 4096 (some zs)) (T : TypeId) (xs : List Value) : Wk w (w.alloc (.cells xs.toArray T)) g w.heap.size T xs zs := ⟨(Below.refl _ _).alloc (Nat.le_of_lt h.lt) _, Kp.alloc h.lt _, h.alloc _, h.off _, Bk.new w T xs⟩
set_option maxHeartbeats 3200000 in
theorem writeAsk_any (g : Nat) (zs : List Int) (k : Int) (ky vl lo hi : ByteArray) (mo : Int) (bk : Bool) (w : World) (h : Wr w g 4096 (some zs)) (hz : zs.length ≤ 2000) (hk0 : 0 ≤ k ∧ k ≤ 1099511627775) (hs : ∀ s ∈ [ky, vl, lo, hi], s.size ≤ 20) (hm : 0 ≤ mo ∧ mo ≤ 8) :
    Calls Tryd.prog 14 #[.pointer (some ⟨g, 0, none⟩), .agg #[.int .i64 k, .string ky, .string vl, .string lo, .string hi, .int .i64 mo, .bool bk]] w fun e w' => e = .returned (.tuple #[]) ∧ Below g w w' ∧ Wr w' g 4096 (some ((((zs ++ enc k) ++ tparts [ky, vl, lo, hi]) ++ enc mo) ++ enc (bit bk))) ∧ Kp g w w' := by
  have X0 := hid (Wk.start h 28 [.int .i64 k, .string ky, .string vl, .string lo, .string hi, .int .i64 mo, .bool bk])
  have HS := hid hs
  have e1 := enc_len k
  have e2 := enc_len mo
  have e3 := tparts_len [ky, vl, lo, hi] hs
  simp only [List.length_cons, List.length_nil] at e3
  have L1 : Hid ((zs ++ enc k).length ≤ 2100) := by show _ ≤ _; rw [List.length_append]; omega
  have L2 : Hid (((zs ++ enc k) ++ tparts [ky, vl, lo, hi]).length ≤ 2300) := by show _ ≤ _; have := L1.out; rw [List.length_append]; omega
  have L3 : Hid ((((zs ++ enc k) ++ tparts [ky, vl, lo, hi]) ++ enc mo).length ≤ 2400) := by show _ ≤ _; have := L2.out; rw [List.length_append]; omega
  clear h hs e3
  go_enter Tryd.func14, Tryd.ntmps14
  go_wp2_with fail
  refine (numberK_any g 4096 zs k _ X0.out.wr hk0.1 hk0.2 (by omega) (by omega)).mono ?_
  generalize w.alloc (.cells #[.int .i64 k, .string ky, .string vl, .string lo, .string hi, .int .i64 mo, .bool bk] 28) = U at *
  generalize w.heap.size = b0 at *
  rintro e w1 ⟨rfl, hb, hw, hk⟩
  have X1 := hid (X0.out.step hb hw hk)
  clear hb hw hk X0
  have x1 := X1.out.box.cell (j := 1) rfl
  have x2 := X1.out.box.cell (j := 2) rfl
  have x3 := X1.out.box.cell (j := 3) rfl
  have x4 := X1.out.box.cell (j := 4) rfl
  have X2 := hid (X1.out.alloc (.cells #[.string ky, .string vl, .string lo, .string hi] 9))
  have O2 := hid (X1.out.wr.off (.cells #[.string ky, .string vl, .string lo, .string hi] 9))
  have K2 := hid (Bk.new w1 9 [.string ky, .string vl, .string lo, .string hi])
  go_wp2_with fail
  refine (writeTexts_any g _ (zs ++ enc k) 4 [ky, vl, lo, hi] _ X2.out.wr O2.out K2.out rfl (by have := L1.out; omega) HS.out (by simp)).mono ?_
  clear x1 x2 x3 x4
  generalize w1.alloc (.cells #[.string ky, .string vl, .string lo, .string hi] 9) = U2 at *
  rintro e w2 ⟨rfl, hb, hw, hk⟩
  have X3 := hid (X2.out.step hb hw hk)
  clear hb hw hk X2 O2 K2 X1
  have x5 := X3.out.box.cell (j := 5) rfl
  go_wp2_with fail
  refine (numberK_any g 4096 _ mo _ X3.out.wr hm.1 (by omega) (by have := L2.out; omega) (by omega)).mono ?_
  clear x5
  rintro e w3 ⟨rfl, hb, hw, hk⟩
  have X4 := hid (X3.out.step hb hw hk)
  clear hb hw hk X3
  have x6 := X4.out.box.cell (j := 6) rfl
  go_wp2_with fail
  refine (writeBool_any g _ bk _ X4.out.wr (by have := L3.out; omega)).mono ?_
  clear x6
  rintro e w4 ⟨rfl, hb, hw, hk⟩
  have X5 := hid (X4.out.step hb hw hk)
  clear hb hw hk X4
  go_wp2
  go_end0
  exact ⟨rfl, X5.out.bel, X5.out.wr, X5.out.kp⟩
set_option maxHeartbeats 3200000 in
theorem writeUserPairs_any (S : Nat → Prop) (g : Nat) (zs : List Int) (a : Option Addr) (n c : Nat) (l : List PB) (w : World) (h : Wr w g 4096 (some zs)) (hr : Pr w S (.slice a n c) l) (hS : ∀ b, S b → b < g) (hz : zs.length ≤ 2500) (hl : l.length ≤ 8) (hs : ∀ p ∈ l, p.1.size ≤ 20 ∧ p.2.size ≤ 20) :
    Calls Tryd.prog 16 #[.pointer (some ⟨g, 0, none⟩), .slice a n c] w fun e w' => e = .returned (.tuple #[]) ∧ Below g w w' ∧ Wr w' g 4096 (some ((zs ++ enc (l.length : Int)) ++ pparts l)) ∧ Kp g w w' := by
  have W0 := hid h
  have HN := hid (Rw.len hr).1
  have hcc := (Rw.len hr).2
  have R0 := hid hr
  have HS := hid hs
  have HSS := hid hS
  have hn8 : n ≤ 8 := by rw [HN.out]; exact hl
  have e1 := enc_len (n : Int)
  have HEN : Hid (enc (l.length : Int) = enc (n : Int)) := by show _ = _; rw [HN.out]
  have L1 : Hid ((zs ++ enc (n : Int)).length ≤ 2600) := by show _ ≤ _; rw [List.length_append]; omega
  clear h hr hs hS hl
  go_enter Tryd.func16, Tryd.ntmps16
  go_wp2_with fail
  refine (numberK_any g 4096 zs n _ W0.out (by omega) (by omega) (by omega) (by omega)).mono ?_
  rintro e w1 ⟨rfl, hb, hw, hk⟩
  have B1 := hid hb
  have W1 := hid hw
  have K1 := hid hk
  clear hb hw hk
  go_wp2_with fail
  go_loopw [12] (fun i wr => ∃ j : Nat, j ≤ n ∧ i = .int .i64 j ∧ Hid (Below g w wr) ∧ Hid (Kp g w wr) ∧ Hid (Wr wr g 4096 (some ((zs ++ enc (n : Int)) ++ pparts (l.take j))))) (fun i _ => n - (intOf i).toNat)
  case atStart => exact ⟨0, Nat.zero_le _, rfl, B1, K1, by show Wr _ _ _ _; simp only [List.take_zero, pparts, List.append_nil]; exact W1.out⟩
  case round =>
    obtain ⟨j, hj, rfl, HB, HK, HW⟩ := hrel
    clear B1 W1 K1
    by_cases hlt : j < n
    · have hlt' : (j : Int) < (n : Int) := by omega
      have hjl : j < l.length := by rw [← HN.out]; exact hlt
      have HR : Hid (Pr wr S (.slice a n c) l) := Rw.to R0.out (only_under HB.out) (fun b hb _ hg => by have := HSS.out b hb; omega)
      obtain ⟨b, off, ha, -, -, hcell⟩ := Pr.at HR.out (by omega)
      obtain ⟨hc0, hc1⟩ := hcell j hlt
      clear hcell HR
      subst ha
      have hs1 : (pAtB l j).1.size ≤ 20 ∧ (pAtB l j).2.size ≤ 20 := by
        have := HS.out l[j] (List.getElem_mem hjl)
        simpa [pAtB, hjl] using this
      have HT : Hid (pparts (l.take (j + 1)) = pparts (l.take j) ++ (tpart (pAtB l j).1 ++ tpart (pAtB l j).2)) := pparts_take hjl
      have HLN : Hid (((zs ++ enc (n : Int)) ++ pparts (l.take j)).length ≤ 3000) := by
        have h1 := pparts_len (l.take j) (fun s hs => HS.out s (List.mem_of_mem_take hs))
        rw [List.length_take] at h1
        have h2 := L1.out
        show _ ≤ _
        rw [List.length_append]
        omega
      generalize pAtB l j = cur at *
      obtain ⟨xk, xv⟩ := cur
      simp only at hs1
      have X0 := hid (Wk.start HW.out 54 [.string xk, .string xv])
      have X1 := hid (X0.out.alloc (.cells #[.string xk, .string xv] 9))
      have O1 := hid (X0.out.wr.off (.cells #[.string xk, .string xv] 9))
      have K1 := hid (Bk.new (wr.alloc (.cells #[.string xk, .string xv] 54)) 9 [.string xk, .string xv])
      rw [show (wr.alloc (.cells #[.string xk, .string xv] 54)).heap.size = wr.heap.size + 1 by simp] at O1 K1
      go_wp2_with fail
      refine (writeTexts_any g _ _ 2 [xk, xv] _ X1.out.wr O1.out K1.out rfl (by have := HLN.out; omega) (fun s hs => by simp only [List.mem_cons, List.not_mem_nil, or_false] at hs; rcases hs with rfl | rfl; exact hs1.1; exact hs1.2) (by simp)).mono ?_
      generalize (wr.alloc (.cells #[.string xk, .string xv] 54)).alloc (.cells #[.string xk, .string xv] 9) = U2 at *
      rintro e w2 ⟨rfl, hb, hw, hk⟩
      have X2 := hid (X1.out.step hb hw hk)
      have HW2 : Hid (Wr w2 g 4096 (some ((zs ++ enc (n : Int)) ++ pparts (l.take (j + 1))))) := by
        show Wr _ _ _ _
        rw [HT.out, ← List.append_assoc]
        have := X2.out.wr
        simpa only [tparts, List.append_nil] using this
      have HB2 := hid (HB.out.trans X2.out.bel)
      have HK2 := hid (HK.out.trans X2.out.kp)
      clear hb hw hk X0 X1 X2 O1 K1 hc0 hc1
      go_wp2
      go_roundw
      case rel => exact ⟨j + 1, by omega, by go_num, HB2.out, HK2.out, HW2.out⟩
      case measure => simp [intOf]; omega
    · have HA : Hid (l.take j = l) := by
        show _ = _
        exact List.take_of_length_le (by rw [← HN.out]; omega)
      go_wp2
      go_end0
      refine ⟨rfl, HB.out, ?_, HK.out⟩
      have := HW.out
      rwa [HA.out, ← HEN.out] at this
theorem mg_parts (kd c e n sh nu st k : Int) (ky vl lo hi : ByteArray) (mo : Int) (bk : Bool) (cd : Int) (ps : List PB) (ys : Bool) :
    (((((([] ++ nparts [kd, c, e, n, sh, nu, st]) ++ enc k) ++ tparts [ky, vl, lo, hi]) ++ enc mo) ++ enc (bit bk)) ++ enc cd ++ enc (ps.length : Int) ++ pparts ps) ++ enc (bit ys) = mgBy kd c e n sh nu st k ky vl lo hi mo bk cd ps ys := by
  simp only [mgBy, nparts, List.nil_append, List.append_nil, List.append_assoc]
set_option maxHeartbeats 8000000 in
set_option maxRecDepth 20000 in
theorem implMsgBytes_any (S : Nat → Prop) (ps : List PB) (kd c e n sh nu st k : Int) (ky vl lo hi : ByteArray) (mo : Int) (bk : Bool) (cd : Int) (pa : Option Addr) (pn pc : Nat) (ys : Bool) (w : World) (h : Pr w S (.slice pa pn pc) ps) :
    Calls Tryd.prog 5 #[.agg #[.int .i64 kd, .int .i64 c, .int .i64 e, .int .i64 n, .int .i64 sh, .int .i64 nu, .int .i64 st, .int .i64 k, .string ky, .string vl, .string lo, .string hi, .int .i64 mo, .bool bk, .int .i64 cd, .slice pa pn pc, .bool ys]] w fun r w' => Put w (mgBytes kd c e n sh nu st k ky vl lo hi mo bk cd ps ys) r w' := by
  have B0 := hid (below_new (o := .cells #[.int .i64 kd, .int .i64 c, .int .i64 e, .int .i64 n, .int .i64 sh, .int .i64 nu, .int .i64 st, .int .i64 k, .string ky, .string vl, .string lo, .string hi, .int .i64 mo, .bool bk, .int .i64 cd, .slice pa pn pc, .bool ys] 31) (w := w) (Below.refl _ _))
  have K0 := hid (Bk.new w 31 [.int .i64 kd, .int .i64 c, .int .i64 e, .int .i64 n, .int .i64 sh, .int .i64 nu, .int .i64 st, .int .i64 k, .string ky, .string vl, .string lo, .string hi, .int .i64 mo, .bool bk, .int .i64 cd, .slice pa pn pc, .bool ys])
  have HP : Hid (mgBytes kd c e n sh nu st k ky vl lo hi mo bk cd ps ys = if mgOk kd c e n sh nu st (akOk k ky vl lo hi mo bk) (akZ k ky vl lo hi mo bk) cd ps ys = true then some (mgBy kd c e n sh nu st k ky vl lo hi mo bk cd ps ys) else none) := rfl
  have HM := hid (mg_parts kd c e n sh nu st k ky vl lo hi mo bk cd ps ys)
  have C1 := hid (implMsgOk_any S ps kd c e n sh nu st k ky vl lo hi mo bk cd pa pn pc ys _ (h.below B0.out))
  have H0 := hid h
  have HFF : Hid (mgOk kd c e n sh nu st (akOk k ky vl lo hi mo bk) (akZ k ky vl lo hi mo bk) cd ps ys = true → MgF kd c e n sh nu st k ky vl lo hi mo cd ps) := mgOk_facts
  clear h
  generalize mgBytes kd c e n sh nu st k ky vl lo hi mo bk cd ps ys = out at *
  generalize mgBy kd c e n sh nu st k ky vl lo hi mo bk cd ps ys = full at *
  generalize mgOk kd c e n sh nu st (akOk k ky vl lo hi mo bk) (akZ k ky vl lo hi mo bk) cd ps ys = ok at *
  go_enter Tryd.func5, Tryd.ntmps5
  go_wp2_with fail
  refine C1.out.mono ?_
  clear C1
  generalize w.alloc (.cells #[.int .i64 kd, .int .i64 c, .int .i64 e, .int .i64 n, .int .i64 sh, .int .i64 nu, .int .i64 st, .int .i64 k, .string ky, .string vl, .string lo, .string hi, .int .i64 mo, .bool bk, .int .i64 cd, .slice pa pn pc, .bool ys] 31) = U at *
  rintro r w1 ⟨rfl, hb⟩
  have B1 := hid (btR B0.out hb)
  have K1 := hid (K0.out.below hb)
  clear hb B0 K0
  cases ok with
  | false =>
    have HN : Hid (out = none) := HP.out
    clear HP HFF
    go_wp2
    go_ret2
    exact ⟨B1.out, .inl ⟨HN.out, rfl⟩⟩
  | true =>
    have HN : Hid (out = some full) := HP.out
    have HF := hid (HFF.out rfl)
    clear HP HFF
    have l1 := nparts_len [kd, c, e, n, sh, nu, st]
    have l2 := tparts_len [ky, vl, lo, hi] HF.out.s1
    have l3 := enc_len k
    have l4 := enc_len mo
    have l5 := enc_len (bit bk)
    have l6 := enc_len cd
    have l7 := enc_len (ps.length : Int)
    have l8 := pparts_len ps HF.out.hps
    have l9 := HF.out.hpl
    simp only [List.length_cons, List.length_nil] at l1 l2
    have L1 : Hid (([] ++ nparts [kd, c, e, n, sh, nu, st]).length ≤ 60) := by show _ ≤ _; rw [List.nil_append]; omega
    have L2 : Hid (((((([] ++ nparts [kd, c, e, n, sh, nu, st]) ++ enc k) ++ tparts [ky, vl, lo, hi]) ++ enc mo) ++ enc (bit bk)).length ≤ 300) := by show _ ≤ _; simp only [List.length_append, List.length_nil]; omega
    have L3 : Hid (((((([] ++ nparts [kd, c, e, n, sh, nu, st]) ++ enc k) ++ tparts [ky, vl, lo, hi]) ++ enc mo) ++ enc (bit bk) ++ enc cd).length ≤ 400) := by show _ ≤ _; simp only [List.length_append, List.length_nil]; omega
    have L4 : Hid (((((([] ++ nparts [kd, c, e, n, sh, nu, st]) ++ enc k) ++ tparts [ky, vl, lo, hi]) ++ enc mo) ++ enc (bit bk) ++ enc cd ++ enc (ps.length : Int) ++ pparts ps).length ≤ 900) := by show _ ≤ _; simp only [List.length_append, List.length_nil]; omega
    have N7 : Hid (∀ m ∈ [kd, c, e, n, sh, nu, st], 0 ≤ m ∧ m ≤ 1099511627775) := fun m hm => HF.out.n1 m (by simp only [List.mem_cons, List.not_mem_nil, or_false] at hm ⊢; rcases hm with h | h | h | h | h | h | h <;> simp [h])
    have N1 : Hid (0 ≤ k ∧ k ≤ 1099511627775) := HF.out.n1 k (by simp)
    clear l1 l2 l3 l4 l5 l6 l7 l8 l9
    go_wp2_with fail
    refine (newWriterK_any 4096 w1 (by omega)).mono ?_
    rintro r w2 ⟨rfl, hb, hw⟩
    have HLT : Hid (w.heap.size ≤ w1.heap.size) := B1.out.size
    have hKl := K1.out.lt
    have B2 := hid hb
    have W2 := hid hw
    have R1 : Hid (Pr w1 (fun b => b < w1.heap.size) (.slice pa pn pc) ps) := Rw.mono (H0.out.below B1.out) (fun b _ hb => hb)
    have K2 : Hid (Bk w2 w.heap.size 31 [.int .i64 kd, .int .i64 c, .int .i64 e, .int .i64 n, .int .i64 sh, .int .i64 nu, .int .i64 st, .int .i64 k, .string ky, .string vl, .string lo, .string hi, .int .i64 mo, .bool bk, .int .i64 cd, .slice pa pn pc, .bool ys]) := K1.out.below hb
    clear hb hw H0
    generalize w1.heap.size = g at *
    have HK : Hid (∀ v, Below g w1 v → Bk v w.heap.size 31 [.int .i64 kd, .int .i64 c, .int .i64 e, .int .i64 n, .int .i64 sh, .int .i64 nu, .int .i64 st, .int .i64 k, .string ky, .string vl, .string lo, .string hi, .int .i64 mo, .bool bk, .int .i64 cd, .slice pa pn pc, .bool ys]) := fun v hb => (hb.block w.heap.size hKl).trans K1.out
    have HR : Hid (∀ v, Below g w1 v → Pr v (fun b => b < g) (.slice pa pn pc) ps) := fun v hb => Rw.to R1.out (only_under hb) (fun b h1 _ h2 => by omega)
    clear K1 R1 hKl
    have x0 := K2.out.cell (j := 0) rfl
    have x1 := K2.out.cell (j := 1) rfl
    have x2 := K2.out.cell (j := 2) rfl
    have x3 := K2.out.cell (j := 3) rfl
    have x4 := K2.out.cell (j := 4) rfl
    have x5 := K2.out.cell (j := 5) rfl
    have x6 := K2.out.cell (j := 6) rfl
    have x7 := K2.out.cell (j := 7) rfl
    have x8 := K2.out.cell (j := 8) rfl
    have x9 := K2.out.cell (j := 9) rfl
    have x10 := K2.out.cell (j := 10) rfl
    have x11 := K2.out.cell (j := 11) rfl
    have x12 := K2.out.cell (j := 12) rfl
    have x13 := K2.out.cell (j := 13) rfl
    have x14 := K2.out.cell (j := 14) rfl
    have x15 := K2.out.cell (j := 15) rfl
    have x16 := K2.out.cell (j := 16) rfl
    have A3 := hid (W2.out.alloc (.cells #[.int .i64 kd, .int .i64 c, .int .i64 e, .int .i64 n, .int .i64 sh, .int .i64 nu, .int .i64 st] 3))
    have O3 := hid (W2.out.off (.cells #[.int .i64 kd, .int .i64 c, .int .i64 e, .int .i64 n, .int .i64 sh, .int .i64 nu, .int .i64 st] 3))
    have K3 := hid (Bk.new w2 3 [.int .i64 kd, .int .i64 c, .int .i64 e, .int .i64 n, .int .i64 sh, .int .i64 nu, .int .i64 st])
    have B3 : Hid (Below g w1 (w2.alloc (.cells #[.int .i64 kd, .int .i64 c, .int .i64 e, .int .i64 n, .int .i64 sh, .int .i64 nu, .int .i64 st] 3))) := B2.out.alloc (Nat.le_of_lt W2.out.lt) _
    go_wp2_with fail
    refine (writeNumbers_any g _ [] 7 [kd, c, e, n, sh, nu, st] _ A3.out O3.out K3.out rfl (by simp) N7.out (by simp)).mono ?_
    clear x0 x1 x2 x3 x4 x5 x6 x7 x8 x9 x10 x11 x12 x13 x14 x15 x16
    generalize w2.alloc (.cells #[.int .i64 kd, .int .i64 c, .int .i64 e, .int .i64 n, .int .i64 sh, .int .i64 nu, .int .i64 st] 3) = V at *
    rintro r w3 ⟨rfl, hb, hw, hk⟩
    have B4 := hid (B3.out.trans hb)
    have W4 := hid hw
    have K4 := hid (HK.out _ B4.out)
    clear hb hw hk A3 O3 K3 B3 K2 W2 B2
    have x0 := K4.out.cell (j := 0) rfl
    have x1 := K4.out.cell (j := 1) rfl
    have x2 := K4.out.cell (j := 2) rfl
    have x3 := K4.out.cell (j := 3) rfl
    have x4 := K4.out.cell (j := 4) rfl
    have x5 := K4.out.cell (j := 5) rfl
    have x6 := K4.out.cell (j := 6) rfl
    have x7 := K4.out.cell (j := 7) rfl
    have x8 := K4.out.cell (j := 8) rfl
    have x9 := K4.out.cell (j := 9) rfl
    have x10 := K4.out.cell (j := 10) rfl
    have x11 := K4.out.cell (j := 11) rfl
    have x12 := K4.out.cell (j := 12) rfl
    have x13 := K4.out.cell (j := 13) rfl
    have x14 := K4.out.cell (j := 14) rfl
    have x15 := K4.out.cell (j := 15) rfl
    have x16 := K4.out.cell (j := 16) rfl
    go_wp2_with fail
    refine (writeAsk_any g _ k ky vl lo hi mo bk w3 W4.out (by have := L1.out; omega) N1.out HF.out.s1 HF.out.hmo).mono ?_
    clear x0 x1 x2 x3 x4 x5 x6 x7 x8 x9 x10 x11 x12 x13 x14 x15 x16
    rintro r w4 ⟨rfl, hb, hw, hk⟩
    have B5 := hid (B4.out.trans hb)
    have W5 := hid hw
    have K5 := hid (HK.out _ B5.out)
    clear hb hw hk B4 W4 K4
    have x0 := K5.out.cell (j := 0) rfl
    have x1 := K5.out.cell (j := 1) rfl
    have x2 := K5.out.cell (j := 2) rfl
    have x3 := K5.out.cell (j := 3) rfl
    have x4 := K5.out.cell (j := 4) rfl
    have x5 := K5.out.cell (j := 5) rfl
    have x6 := K5.out.cell (j := 6) rfl
    have x7 := K5.out.cell (j := 7) rfl
    have x8 := K5.out.cell (j := 8) rfl
    have x9 := K5.out.cell (j := 9) rfl
    have x10 := K5.out.cell (j := 10) rfl
    have x11 := K5.out.cell (j := 11) rfl
    have x12 := K5.out.cell (j := 12) rfl
    have x13 := K5.out.cell (j := 13) rfl
    have x14 := K5.out.cell (j := 14) rfl
    have x15 := K5.out.cell (j := 15) rfl
    have x16 := K5.out.cell (j := 16) rfl
    go_wp2_with fail
    refine (numberK_any g 4096 _ cd w4 W5.out HF.out.hcd.1 (by have := HF.out.hcd; omega) (by have := L2.out; have := enc_len cd; omega) (by omega)).mono ?_
    clear x0 x1 x2 x3 x4 x5 x6 x7 x8 x9 x10 x11 x12 x13 x14 x15 x16
    rintro r w5 ⟨rfl, hb, hw, hk⟩
    have B6 := hid (B5.out.trans hb)
    have W6 := hid hw
    have K6 := hid (HK.out _ B6.out)
    clear hb hw hk B5 W5 K5
    have x0 := K6.out.cell (j := 0) rfl
    have x1 := K6.out.cell (j := 1) rfl
    have x2 := K6.out.cell (j := 2) rfl
    have x3 := K6.out.cell (j := 3) rfl
    have x4 := K6.out.cell (j := 4) rfl
    have x5 := K6.out.cell (j := 5) rfl
    have x6 := K6.out.cell (j := 6) rfl
    have x7 := K6.out.cell (j := 7) rfl
    have x8 := K6.out.cell (j := 8) rfl
    have x9 := K6.out.cell (j := 9) rfl
    have x10 := K6.out.cell (j := 10) rfl
    have x11 := K6.out.cell (j := 11) rfl
    have x12 := K6.out.cell (j := 12) rfl
    have x13 := K6.out.cell (j := 13) rfl
    have x14 := K6.out.cell (j := 14) rfl
    have x15 := K6.out.cell (j := 15) rfl
    have x16 := K6.out.cell (j := 16) rfl
    go_wp2_with fail
    refine (writeUserPairs_any (fun b => b < g) g _ pa pn pc ps w5 W6.out (HR.out _ B6.out) (fun b h => h) (by have := L3.out; omega) HF.out.hpl HF.out.hps).mono ?_
    clear x0 x1 x2 x3 x4 x5 x6 x7 x8 x9 x10 x11 x12 x13 x14 x15 x16
    rintro r w6 ⟨rfl, hb, hw, hk⟩
    have B7 := hid (B6.out.trans hb)
    have W7 := hid hw
    have K7 := hid (HK.out _ B7.out)
    clear hb hw hk B6 W6 K6
    have x0 := K7.out.cell (j := 0) rfl
    have x1 := K7.out.cell (j := 1) rfl
    have x2 := K7.out.cell (j := 2) rfl
    have x3 := K7.out.cell (j := 3) rfl
    have x4 := K7.out.cell (j := 4) rfl
    have x5 := K7.out.cell (j := 5) rfl
    have x6 := K7.out.cell (j := 6) rfl
    have x7 := K7.out.cell (j := 7) rfl
    have x8 := K7.out.cell (j := 8) rfl
    have x9 := K7.out.cell (j := 9) rfl
    have x10 := K7.out.cell (j := 10) rfl
    have x11 := K7.out.cell (j := 11) rfl
    have x12 := K7.out.cell (j := 12) rfl
    have x13 := K7.out.cell (j := 13) rfl
    have x14 := K7.out.cell (j := 14) rfl
    have x15 := K7.out.cell (j := 15) rfl
    have x16 := K7.out.cell (j := 16) rfl
    go_wp2_with fail
    refine (writeBool_any g _ ys w6 W7.out (by have := L4.out; omega)).mono ?_
    clear x0 x1 x2 x3 x4 x5 x6 x7 x8 x9 x10 x11 x12 x13 x14 x15 x16
    rintro r w7 ⟨rfl, hb, hw, hk⟩
    have B8 := hid (B7.out.trans hb)
    have W8 : Hid (Wr w7 g 4096 (some full)) := by
      show Wr _ _ _ _
      rw [← HM.out]; exact hw
    clear hb hw hk B7 W7 K7
    go_wp2_with fail
    refine (told_some g 4096 full w7 W8.out).mono ?_
    rintro r w8 ⟨v, rfl, ho, rfl⟩
    have OV : Hid (Ob w7 w.heap.size v full) := ho.mono (by have := HLT.out; omega)
    have BV : Hid (Below w.heap.size w w7) := B1.out.trans (B8.out.mono HLT.out)
    obtain ⟨va, vc, rfl⟩ := ho.shape
    clear ho B8 W8
    go_wp2
    go_ret2
    exact ⟨BV.out, .inr ⟨_, full, HN.out, rfl, OV.out⟩⟩
end Go.Proofs.YtbaggkfgnjenoacDoor
