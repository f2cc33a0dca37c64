/-
  DiskSync of the specification and of the program.
-/
import Derived.Test.YtcpdedpgjaimkaaDkH
import Derived.Test.YtcpdedpgjaimkaaDkD
namespace Go.Proofs.Ytcpdedpgjaimkaa
open Go.RowKit
set_option linter.unusedVariables false
def syS (ss : List (List Int)) (ds : List DW) : Nat → List (List Int)
  | 0 => ss
  | k + 1 => (syS ss ds k).set (dwAt ds k).1.toNat (dwAt ds k).2
theorem syS_len (ss : List (List Int)) (ds : List DW) (k : Nat) : (syS ss ds k).length = ss.length := by
  induction k with
  | zero => rfl
  | succ k ih => rw [syS, List.length_set]; exact ih
def dsV (d : DK) : DK := if dkOk d = true then ⟨syS d.sh d.dw d.dw.length, []⟩ else emD
theorem tea_all {a b : List Int} (ha : shtOk a = true) (hb : b.length = 512) : teaV a b 512 = b := by
  have h1 : shOk a = true := ha
  have h2 : shOk b = true := (shtOk_iff b).2 (.inr hb)
  rw [teaV, tearV, if_pos ⟨h1, h2⟩, Option.getD_some, trB]
  have e1 := sheet_len h1
  have e2 : sheet b = b := by rw [sheet, if_neg (by omega)]
  rw [e2, List.take_of_length_le (by rw [hb]; decide), List.drop_eq_nil_of_le (by rw [e1]; decide), List.append_nil]
theorem crS_all {d : DK} (hok : dkOk d = true) (hb : (∀ i, byt (shAt d.sh i)) ∧ ∀ i, byt (dwAt d.dw i).2) : ∀ k, k ≤ d.dw.length → crS d.sh d.dw (List.replicate d.dw.length 512) k = syS d.sh d.dw k := by
  have hk := (dkOk_iff d).1 hok
  intro k
  induction k with
  | zero => intro _; rfl
  | succ k ih =>
    intro hkl
    have hw := (wrtOk_iff _ _).1 (hk.2.2.2.2 k (by omega))
    have hi : iAt (List.replicate d.dw.length 512) k = 512 := by simp [iAt, show k < d.dw.length by omega]
    have hf := (crS_facts hok hb (List.replicate d.dw.length 512) k (by omega) (dwAt d.dw k).1.toNat).2 (by omega)
    rw [crS, hi, if_pos (by decide), tea_all hf hw.2.2, ih (by omega), syS]
theorem dsV_eq {d : DK} (hb : (∀ i, byt (shAt d.sh i)) ∧ ∀ i, byt (dwAt d.dw i).2) : dcV d (List.replicate d.dw.length 512) = dsV d := by
  unfold dcV dsV
  split
  · rename_i hok
    rw [crS_all hok hb _ (Nat.le_refl _)]
  · rfl
theorem infoIntD : (Try.prog.info? 3).map (fun i => (i.zero, i.size, i.bytes)) = some (some (.int .i64 0), 1, 8) := by kernel_rfl
/-- The boxes of DiskSync: the disk, the result; the numbers so far. -/
structure YX (w v : World) (sa : Option Addr) (sn sc : Nat) (da : Option Addr) (dn dc : Nat) (x : Value) (k : Nat) : Prop where
  bel : Below w.heap.size w v
  k0 : Bk v w.heap.size 46 [.slice sa sn sc, .slice da dn dc]
  k1 : Bk v (w.heap.size + 1) 46 [.slice none 0 0, .slice none 0 0]
  row : v.ownsRow (w.heap.size + 2) 3 1 x k (List.replicate k (.int .i64 512))
set_option maxHeartbeats 8000000 in
set_option maxRecDepth 20000 in
theorem specDiskSync_any (S : Nat → Prop) (sa : Option Addr) (sn sc : Nat) (da : Option Addr) (dn dc : Nat) (d : DK) (w : World) (h : Dk w S sa sn sc da dn dc d) (hsm : smallD d) (h1 : sn ≤ 1048576) (h2 : dn ≤ 1048576) :
    Calls Try.prog 54 #[.agg #[.slice sa sn sc, .slice da dn dc]] w fun e w' => DkPost1 (dsV d) w e w' := by
  have HH := hid h
  have HSM := hid hsm
  have HDE := hid (dsV_eq h.bytes')
  have HND := hid h.hd.len.1
  have hdc := h.hd.len.2
  obtain ⟨ti, hti, htz, hts, htb⟩ := info_of infoIntD
  have Y0 : Hid (YX w (((w.alloc (.cells #[.slice sa sn sc, .slice da dn dc] 46)).alloc (.cells #[.slice none 0 0, .slice none 0 0] 46)).alloc (.cells #[] 3)) sa sn sc da dn dc (.slice (some ⟨w.heap.size + 1 + 1, 0, none⟩) 0 0) 0) := by
    refine ⟨below_new (below_new (below_new (Below.refl _ _))), ((Bk.new w 46 [.slice sa sn sc, .slice da dn dc]).alloc _).alloc _, ?_, ?_⟩
    · have := (Bk.new (w.alloc (.cells #[.slice sa sn sc, .slice da dn dc] 46)) 46 [.slice none 0 0, .slice none 0 0]).alloc (.cells #[] 3)
      simpa using this
    · have := Bk.new ((w.alloc (.cells #[.slice sa sn sc, .slice da dn dc] 46)).alloc (.cells #[.slice none 0 0, .slice none 0 0] 46)) 3 []
      have := bk_own (B := w.heap.size + 2) (n := 0) (size := 1) this (by simp) (by omega) (by simp)
      simpa using this
  have d1 := Y0.out.k0.cell (j := 1) rfl
  clear h hsm
  go_enter Try.func54, Try.ntmps54
  go_wp2_with fail
  clear d1
  go_loopw [3, 8] (fun x i wr => ∃ (k : Nat) (xa : Option Addr) (xn xc : Nat), k ≤ dn ∧ x = .slice xa xn xc ∧ i = .int .i64 k ∧ Hid (YX w wr sa sn sc da dn dc (.slice xa xn xc) k)) (fun _ i _ => dn - (intOf i).toNat)
  case atStart => exact ⟨0, _, _, _, Nat.zero_le _, rfl, rfl, Y0.out⟩
  case round =>
    obtain ⟨k, xa, xn, xc, hk, rfl, rfl, YY⟩ := hrel
    clear Y0
    by_cases hlt : k < dn
    · have hlt' : (k : Int) < (dn : Int) := by omega
      have hb0 := below_new (o := .cells #[.int .i64 512] 3) (w := wr) (Below.refl _ _)
      have HO := hid (own_kept YY.out.row (only_of_below hb0 (fun _ => False)) (fun _ _ h => h))
      have HR := hid (rw_one (Bk.new wr 3 [.int .i64 512]))
      have HB := hid hb0
      have hkm : k + 1 ≤ maxLen := by unfold maxLen; omega
      have hkb : (k + 1) * 8 ≤ 140737488355328 := by omega
      have HZ : Hid (w.heap.size + 2 ≤ (wr.alloc (.cells #[.int .i64 512] 3)).heap.size) := by have h1 := hb0.size; have h2 := YY.out.k1.lt; show _ ≤ _; simp; omega
      clear hb0
      go_wp2_with (at_builtin; refine wpList_append_row_at rfl _ _ _ rfl (w.heap.size + 2) 3 ti (.int .i64 0) 1 8 Try.underlying156 hti htz hts htb rfl (by decide) (.slice xa xn xc) k _ rfl HO.out (fun _ => True) _ 1 [.int .i64 512] rfl HR.out rfl (by intro u hu; simp at hu; subst hu; rfl) hkm hkb HZ.out ?_)
      intro v5 w5 hO5 hg5 ha5
      obtain ⟨a5, c5, rfl⟩ := own_shape hO5
      have o : Only (fun y => (Value.slice xa xn xc).ownBlock = some y) wr w5 := (only_of_below HB.out _).trans (only_of_grown hg5 (fun k e => e))
      have hlo : ∀ y, (Value.slice xa xn xc).ownBlock = some y → w.heap.size + 2 ≤ y := fun y e => (World.ownsRow.lt YY.out.row y e).1
      have Y5 : Hid (YX w w5 sa sn sc da dn dc (.slice a5 (k + 1) c5) (k + 1)) := by
        refine ⟨YY.out.bel.trans (o.below YY.out.bel.size (fun y hy e => by have := hlo y e; omega)), YY.out.k0.to o (fun e => by have := hlo _ e; omega), YY.out.k1.to o (fun e => by have := hlo _ e; omega), ?_⟩
        have : List.replicate (k + 1) (Value.int .i64 512) = List.replicate k (.int .i64 512) ++ [.int .i64 512] := by rw [List.replicate_succ']
        rw [this]
        exact hO5
      clear hO5 hg5 ha5 o hlo HO HR HB YY
      go_wp2
      go_roundw
      case rel => exact ⟨k + 1, a5, k + 1, c5, by omega, rfl, by go_num, Y5.out⟩
      case measure => simp [intOf]; omega
    · have hkd : k = d.dw.length := by rw [← HND.out]; omega
      subst hkd
      have HIR : Hid (Ir wr (fun _ => True) (.slice xa xn xc) (List.replicate d.dw.length 512)) := by
        show Rw _ _ _ _ _
        rw [List.length_replicate, List.map_replicate]
        exact rw_own YY.out.row (fun _ _ _ _ => trivial)
      have d0 := YY.out.k0.cell (j := 0) rfl
      have d1 := YY.out.k0.cell (j := 1) rfl
      go_wp2_with fail
      refine (specDiskCrash_any S (fun _ => True) sa sn sc da dn dc d xa xn xc _ _ (HH.out.below YY.out.bel) HSM.out h1 h2 HIR.out).mono ?_
      rw [HDE.out]
      rintro e w2 ⟨za, zn, zc, ya, yn, yc, V, Uu, rfl, hO, hb⟩
      have J1 := hid (YY.out.k1.below hb)
      have HO := hid hO
      have B2 := hid (bt7 YY.out.bel hb)
      have SZ : Hid (w.heap.size + 2 ≤ wr.heap.size) := YY.out.k1.lt
      clear hO hb YY HIR d0 d1
      have r0 := J1.out.cell (j := 0) rfl
      have r1 := J1.out.cell (j := 1) rfl
      have f0 := J1.out.free 0
      have f1 := J1.out.free 1
      go_wp2
      try simp only [Exit.inBlock, Exit.then]
      refine bodyPost_ret (v := .agg #[.slice za zn zc, .slice ya yn yc]) ?_ rfl ?_
      · exact results_dsk rfl _ _ _ rfl (by go_simp) (by go_simp)
      · have O1 : Only (fun y => y = w.heap.size + 1) w2 ((w2.setCell ⟨w.heap.size + 1, 0, none⟩ (.slice za zn zc)).setCell ⟨w.heap.size + 1, 1, none⟩ (.slice ya yn yc)) := (only_set (R := fun y => y = w.heap.size + 1) rfl _).trans (only_set (R := fun y => y = w.heap.size + 1) rfl _)
        have hz := SZ.out
        exact ⟨_, _, _, _, _, _, _, _, rfl, (HO.out.to O1 (fun y e e2 => by have := (HO.out.lt e).1; omega)).base (by omega), (B2.out.setCell (p := ⟨w.heap.size + 1, 0, none⟩) (Nat.le_succ _) _).setCell (p := ⟨w.heap.size + 1, 1, none⟩) (Nat.le_succ _) _⟩
set_option maxHeartbeats 2000000 in
set_option maxRecDepth 100000 in
theorem cloneS_any (S : Nat → Prop) (b off n c : Nat) (V : List Value) (w : World) (h : Rw w S (.slice (some ⟨b, off, none⟩) n c) n V) (hl : V.length = n) (h1 : ∀ u ∈ V, u.oneCell' = true) (hn : n ≤ 1048576) :
    Calls Try.prog 60 #[.slice (some ⟨b, off, none⟩) n c] w fun e w' => ∃ a c', e = .returned (.slice a n c') ∧ w'.ownsRow w.heap.size 119 1 (.slice a n c') n V ∧ Below w.heap.size w w' := by
  obtain ⟨ti, hti, htz, hts, htb⟩ := info_of infoSheetI
  have hb0 := below_new (o := .cells #[] 119) (w := w) (Below.refl _ _)
  have HR := hid (h.below hb0)
  have HO : Hid ((w.alloc (.cells #[] 119)).ownsRow w.heap.size 119 1 (.slice (some ⟨w.heap.size, 0, none⟩) 0 0) 0 []) := bk_own (n := 0) (size := 1) (Bk.new w 119 []) (by simp) (by omega) (Nat.le_refl _)
  have HB := hid hb0
  have HZ : Hid (w.heap.size ≤ (w.alloc (.cells #[] 119)).heap.size) := hb0.size
  have hkm : 0 + n ≤ maxLen := by unfold maxLen; omega
  have hkb : (0 + n) * 24 ≤ 140737488355328 := by omega
  have HL : Hid (V.length = n * 1) := by show _ = _; omega
  have H1 := hid h1
  have he : ∀ w : World, (binOp .eql 43 (.slice (some ⟨b, off, none⟩) n c) (.slice none 0 0)).run Try.prog w = .ok (.bool false) w := fun _ => rfl
  clear h hl h1 hb0
  go_enter Try.func60, Try.ntmps60
  go_wp2_with (at_builtin; refine wpList_append_row_at rfl _ _ _ rfl w.heap.size 119 ti (.agg #[.slice none 0 0]) 1 24 Try.underlying43 hti htz hts htb rfl (by decide) _ 0 [] rfl HO.out S _ n V rfl HR.out HL.out H1.out hkm hkb HZ.out ?_)
  intro v5 w5 hO5 hg5 ha5
  have O5 : Hid (w5.ownsRow w.heap.size 119 1 v5 n V) := by show World.ownsRow _ _ _ _ _ _ _; simpa using hO5
  have B5 : Hid (Below w.heap.size w w5) := HB.out.trans ((only_of_grown hg5 (R := fun y => y = w.heap.size) (fun k e => by simpa [Value.ownBlock] using e.symm)).below HZ.out (fun y hy e => by omega))
  obtain ⟨a5, c5, rfl⟩ := own_shape O5.out
  clear hO5 hg5 ha5 HO HR HB
  go_wp2
  go_ret
  exact ⟨_, _, rfl, O5.out, B5.out⟩
end Go.Proofs.Ytcpdedpgjaimkaa

