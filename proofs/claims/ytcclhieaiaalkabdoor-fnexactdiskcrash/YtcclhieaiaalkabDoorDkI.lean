/-
  DiskSync of the specification and of the program.
-/
import Derived.Test.YtcclhieaiaalkabDoorDkH
import Derived.Test.YtcclhieaiaalkabDoorDkD
namespace Go.Proofs.YtcclhieaiaalkabDoor
open Go.RowKit
set_option linter.unusedVariables false
def syS (ss : List (List Int)) (ds : List DW) : Nat → List (List Int)
  | 0 => ss
  | k + 1 => (syS ss ds k).set (dwAt ds k).1.toNat (dwAt ds k).2
theorem syS_len (ss : List (List Int)) (ds : List DW) (k : Nat) : (syS ss ds k).length = ss.length := by
  induction k with
  | zero => rfl
  | succ k ih => rw [syS, List.length_set]; exact ih
def dsV (d : DK) : DK := if dkOk d = true then ⟨syS d.sh d.dw d.dw.length, []⟩ else emD
theorem tea_all {a b : List Int} (ha : shtOk a = true) (hb : b.length = 512) : teaV a b 512 = b := by
  have h1 : shOk a = true := ha
  have h2 : shOk b = true := (shtOk_iff b).2 (.inr hb)
  rw [teaV, tearV, if_pos ⟨h1, h2⟩, Option.getD_some, trB]
  have e1 := sheet_len h1
  have e2 : sheet b = b := by rw [sheet, if_neg (by omega)]
  rw [e2, List.take_of_length_le (by rw [hb]; decide), List.drop_eq_nil_of_le (by rw [e1]; decide), List.append_nil]
theorem crS_all {d : DK} (hok : dkOk d = true) (hb : (∀ i, byt (shAt d.sh i)) ∧ ∀ i, byt (dwAt d.dw i).2) : ∀ k, k ≤ d.dw.length → crS d.sh d.dw (List.replicate d.dw.length 512) k = syS d.sh d.dw k := by
  have hk := (dkOk_iff d).1 hok
  intro k
  induction k with
  | zero => intro _; rfl
  | succ k ih =>
    intro hkl
    have hw := (wrtOk_iff _ _).1 (hk.2.2.2.2 k (by omega))
    have hi : iAt (List.replicate d.dw.length 512) k = 512 := by simp [iAt, show k < d.dw.length by omega]
    have hf := (crS_facts hok hb (List.replicate d.dw.length 512) k (by omega) (dwAt d.dw k).1.toNat).2 (by omega)
    rw [crS, hi, if_pos (by decide), tea_all hf hw.2.2, ih (by omega), syS]
theorem dsV_eq {d : DK} (hb : (∀ i, byt (shAt d.sh i)) ∧ ∀ i, byt (dwAt d.dw i).2) : dcV d (List.replicate d.dw.length 512) = dsV d := by
  unfold dcV dsV
  split
  · rename_i hok
    rw [crS_all hok hb _ (Nat.le_refl _)]
  · rfl
theorem infoIntD : (Tryd.prog.info? 3).map (fun i => (i.zero, i.size, i.bytes)) = some (some (.int .i64 0), 1, 8) := by kernel_rfl
/-- The boxes of DiskSync: the disk, the result; the numbers so far. -/
structure YX (w v : World) (sa : Option Addr) (sn sc : Nat) (da : Option Addr) (dn dc : Nat) (x : Value) (k : Nat) : Prop where
  bel : Below w.heap.size w v
  k0 : Bk v w.heap.size 31 [.slice sa sn sc, .slice da dn dc]
  k1 : Bk v (w.heap.size + 1) 31 [.slice none 0 0, .slice none 0 0]
  row : v.ownsRow (w.heap.size + 2) 3 1 x k (List.replicate k (.int .i64 512))
set_option maxHeartbeats 2000000 in
set_option maxRecDepth 100000 in
theorem cloneS_any (S : Nat → Prop) (b off n c : Nat) (V : List Value) (w : World) (h : Rw w S (.slice (some ⟨b, off, none⟩) n c) n V) (hl : V.length = n) (h1 : ∀ u ∈ V, u.oneCell' = true) (hn : n ≤ 1048576) :
    Calls Tryd.prog 26 #[.slice (some ⟨b, off, none⟩) n c] w fun e w' => ∃ a c', e = .returned (.slice a n c') ∧ w'.ownsRow w.heap.size 55 1 (.slice a n c') n V ∧ Below w.heap.size w w' := by
  obtain ⟨ti, hti, htz, hts, htb⟩ := info_of infoSheetI
  have hb0 := below_new (o := .cells #[] 55) (w := w) (Below.refl _ _)
  have HR := hid (h.below hb0)
  have HO : Hid ((w.alloc (.cells #[] 55)).ownsRow w.heap.size 55 1 (.slice (some ⟨w.heap.size, 0, none⟩) 0 0) 0 []) := bk_own (n := 0) (size := 1) (Bk.new w 55 []) (by simp) (by omega) (Nat.le_refl _)
  have HB := hid hb0
  have HZ : Hid (w.heap.size ≤ (w.alloc (.cells #[] 55)).heap.size) := hb0.size
  have hkm : 0 + n ≤ maxLen := by unfold maxLen; omega
  have hkb : (0 + n) * 24 ≤ 140737488355328 := by omega
  have HL : Hid (V.length = n * 1) := by show _ = _; omega
  have H1 := hid h1
  have he : ∀ w : World, (binOp .eql 28 (.slice (some ⟨b, off, none⟩) n c) (.slice none 0 0)).run Tryd.prog w = .ok (.bool false) w := fun _ => rfl
  clear h hl h1 hb0
  go_enter Tryd.func26, Tryd.ntmps26
  go_wp2_with (at_builtin; refine wpList_append_row_at rfl _ _ _ rfl w.heap.size 55 ti (.agg #[.slice none 0 0]) 1 24 Tryd.underlying28 hti htz hts htb rfl (by decide) _ 0 [] rfl HO.out S _ n V rfl HR.out HL.out H1.out hkm hkb HZ.out ?_)
  intro v5 w5 hO5 hg5 ha5
  have O5 : Hid (w5.ownsRow w.heap.size 55 1 v5 n V) := by show World.ownsRow _ _ _ _ _ _ _; simpa using hO5
  have B5 : Hid (Below w.heap.size w w5) := HB.out.trans ((only_of_grown hg5 (R := fun y => y = w.heap.size) (fun k e => by simpa [Value.ownBlock] using e.symm)).below HZ.out (fun y hy e => by omega))
  obtain ⟨a5, c5, rfl⟩ := own_shape O5.out
  clear hO5 hg5 ha5 HO HR HB
  go_wp2
  go_ret
  exact ⟨_, _, rfl, O5.out, B5.out⟩
end Go.Proofs.YtcclhieaiaalkabDoor

