/-
  l07Parts of the specification.
-/
import Derived.Test.YtmogdijhlgonnabDoorTtP
namespace Go.Proofs.YtmogdijhlgonnabDoor
open Go.RowKit
set_option linter.unusedVariables false
theorem wpList_append_sB {w : World} {ops : Array Oper} {rest : List Oper} {o : Oper} {a : Act} {Q : Exit → Act → World → Prop} (hgd : o.guard = none) (s x : Operand)
    (ho : o.op = .call { callee := .builtin .append, args := #[s, x], argTypes := #[29, 29] }) (B : Nat) (v : Value) (n : Nat) (xs : List Value) (hs : a.eval s = v) (hown : w.ownsRow B 9 1 v n xs)
    (g : Nat) (z : ByteArray) (hx : a.eval x = .slice (some ⟨g, 0, none⟩) 1 1) (hB : Bk w g 9 [.string z]) (hb : n ≤ 1048576) (hbase : B ≤ w.heap.size)
    (h : ∀ a' n' c' w', w'.ownsRow B 9 1 (.slice a' n' c') (n + 1) (xs ++ [.string z]) → w.grownBy w' v.ownBlock → wpList Tryd.prog ops Q rest (a.put o.dst (.slice a' n' c')) w') : wpList Tryd.prog ops Q (o :: rest) a w := by
  obtain ⟨i, hi, hz, hsz, hby⟩ := info_of infoStr'
  refine wpList_append_row_at hgd s x 29 ho B 9 i _ 1 16 Tryd.underlying29 hi hz hsz hby rfl (by decide) v n xs hs hown (fun _ => True) _ 1 [.string z] hx (hB.rw (Nat.le_refl _) (by omega) (fun h => by omega) _ trivial) rfl
    (by intro u hu; simp at hu; subst hu; rfl) (by unfold maxLen; omega) (by omega) hbase ?_
  intro v' w' k1 k2 k3
  obtain ⟨a', c', rfl⟩ := own_shape k1
  exact h a' _ c' w' k1 k2
theorem ext_data (s : ByteArray) (f i : Nat) : (⟨((s.data.toList.drop f).take (i - f)).toArray⟩ : ByteArray) = s.extract f i := by
  rw [Lib.extract_eq]
/-- What l07Parts leaves: a row of its own with the parts. -/
def PrPost (s : ByteArray) (w : World) (e : Ending) (w' : World) : Prop := ∃ a n c, e = .returned (.slice a n c) ∧ w'.ownsRow w.heap.size 9 1 (.slice a n c) (prt s).length ((prt s).map Value.string) ∧ Below w.heap.size w w'
set_option maxHeartbeats 4000000 in
theorem l07Parts_any (s : ByteArray) (w : World) (hs : s.size ≤ 1048576) : Calls Tryd.prog 7 #[.string s, .int .u8 46] w fun e w' => PrPost s w e w' := by
  unfold PrPost
  have SD : Hid (s.data.toList.length = s.size) := by show s.data.toList.length = s.data.size; exact Array.length_toList
  have O0 : Hid ((w.alloc (.cells #[] 9)).ownsRow w.heap.size 9 1 (.slice (some ⟨w.heap.size, 0, none⟩) 0 0) 0 []) := ⟨rfl, .inr ⟨w.heap.size, 0, #[], rfl, Nat.le_refl _, heap_alloc_new w _, Nat.le_refl _, by decide, rfl, rfl⟩⟩
  have B0 : Hid (Below w.heap.size w (w.alloc (.cells #[] 9))) := below_new (Below.refl _ _)
  go_enter Tryd.func7, Tryd.ntmps7
  go_wp2_with fail
  go_loopw [5, 6, 7] (fun x y i wr => ∃ (k f : Nat) (os : List (List UInt8)) (a : Option Addr) (n c : Nat), x = .slice a n c ∧ y = .int .i64 f ∧ i = .int .i64 k ∧ f ≤ k ∧ k ≤ s.size ∧ Hid (os.length ≤ k) ∧ Hid (Below w.heap.size w wr) ∧ Hid (wr.ownsRow w.heap.size 9 1 (.slice a n c) os.length (os.map fun l => Value.string ⟨l.toArray⟩)) ∧ Hid (spl [] s.data.toList = os ++ spl ((s.data.toList.drop f).take (k - f)) (s.data.toList.drop k))) (fun _ _ i _ => s.size - (intOf i).toNat)
  case atStart => exact ⟨0, 0, [], some ⟨w.heap.size, 0, none⟩, 0, 0, rfl, rfl, rfl, Nat.le_refl _, Nat.zero_le _, Nat.le_refl _, B0.out, O0.out, by show _ = _; simp⟩
  case round =>
    clear O0 B0
    obtain ⟨k, f, os, a, n, c, rfl, rfl, rfl, hfk, hk, HL, HB, HO, HS⟩ := hrel
    by_cases hlt : k < s.size
    · have hlt' : (k : Int) < (s.size : Int) := by omega
      have hkl : k < s.data.toList.length := by rw [SD.out]; exact hlt
      have HST := hid (spl_step s.data.toList ((s.data.toList.drop f).take (k - f)) k hkl)
      have HE : Hid (s.data.toList[k] = s[k]) := rfl
      by_cases hd : s[k] = 46
      · have d1 : ((s[k].toNat : Int) == 46) = true := by rw [hd]; rfl
        have d2 : (s[k].toNat : Int) = 46 := by rw [hd]; rfl
        have HS2 : Hid (spl [] s.data.toList = (os ++ [(s.data.toList.drop f).take (k - f)]) ++ spl ((s.data.toList.drop (k + 1)).take (k + 1 - (k + 1))) (s.data.toList.drop (k + 1))) := by
          show _ = _
          rw [HS.out, HST.out, if_pos (by rw [HE.out]; exact hd)]
          simp
        have hb := below_new (o := .cells #[.string (s.extract f k)] 9) (w := wr) (Below.refl _ _)
        have B2 := hid (HB.out.trans (hb.mono HB.out.size))
        have O2 := hid (own_kept HO.out (only_of_below hb (fun _ => False)) (fun _ _ h => h))
        have NB := hid (Bk.new wr 9 [.string (s.extract f k)])
        have hol : os.length ≤ 1048576 := by have := HL.out; omega
        have hfk' : (f : Int) ≤ (k : Int) := by omega
        have hks : (k : Int) ≤ (s.size : Int) := by omega
        clear hb HST HE HO HB HS hd
        go_wp2_with (at_builtin; refine wpList_append_sB rfl _ _ rfl w.heap.size _ _ _ rfl O2.out wr.heap.size (s.extract f k) rfl NB.out hol B2.out.size ?_)
        intro a' n' c' w4 hO4 hg4
        have B4 : Hid (Below w.heap.size w w4) := B2.out.trans ((only_of_grown hg4 (R := fun y => (Value.slice a n c).ownBlock = some y) (fun k q => q)).below B2.out.size (fun b hb q => by have := (World.ownsRow.lt O2.out b q).1; omega))
        have O4 : Hid (w4.ownsRow w.heap.size 9 1 (.slice a' n' c') (os ++ [(s.data.toList.drop f).take (k - f)]).length ((os ++ [(s.data.toList.drop f).take (k - f)]).map fun l => Value.string ⟨l.toArray⟩)) := by
          show World.ownsRow _ _ _ _ _ _ _
          rw [List.map_append, List.length_append, List.map_cons, List.map_nil, ext_data]
          exact hO4
        have L4 : Hid ((os ++ [(s.data.toList.drop f).take (k - f)]).length ≤ k + 1) := by have := HL.out; show _ ≤ _; simp; omega
        clear hO4 hg4 O2 B2 NB
        go_wp2
        go_roundw
        case rel => exact ⟨k + 1, k + 1, _, a', n', c', rfl, by go_num, by go_num, Nat.le_refl _, by omega, L4.out, B4.out, O4.out, HS2.out⟩
        case measure => simp [intOf]; omega
      · have d0 : s[k].toNat ≠ 46 := fun q => hd (by apply UInt8.toNat_inj.1; rw [q]; rfl)
        have d1 : ((s[k].toNat : Int) == 46) = false := by simp; omega
        have d2 : ¬ (s[k].toNat : Int) = 46 := by omega
        have HS2 : Hid (spl [] s.data.toList = os ++ spl ((s.data.toList.drop f).take (k + 1 - f)) (s.data.toList.drop (k + 1))) := by
          show _ = _
          rw [HS.out, HST.out, if_neg (by rw [HE.out]; exact hd)]
          congr 2
          rw [show k + 1 - f = (k - f) + 1 by omega, List.take_succ_eq_append_getElem (by rw [List.length_drop]; omega)]
          simp [show f + (k - f) = k by omega]
        have L4 : Hid (os.length ≤ k + 1) := by have := HL.out; show _ ≤ _; omega
        clear HST HE HS hd d0
        go_wp2
        go_roundw
        case rel => exact ⟨k + 1, f, os, a, n, c, rfl, rfl, by go_num, by omega, by omega, L4.out, HB.out, HO.out, HS2.out⟩
        case measure => simp [intOf]; omega
    · have hks : k = s.size := by omega
      subst hks
      have HP : Hid (prt s = (os ++ [(s.data.toList.drop f).take (s.size - f)]).map fun l => ⟨l.toArray⟩) := by
        show _ = _
        unfold prt
        rw [HS.out, List.drop_eq_nil_of_le (Nat.le_of_eq SD.out)]
        rfl
      have hb := below_new (o := .cells #[.string (s.extract f s.size)] 9) (w := wr) (Below.refl _ _)
      have B2 := hid (HB.out.trans (hb.mono HB.out.size))
      have O2 := hid (own_kept HO.out (only_of_below hb (fun _ => False)) (fun _ _ h => h))
      have NB := hid (Bk.new wr 9 [.string (s.extract f s.size)])
      have hol : os.length ≤ 1048576 := by have := HL.out; omega
      have hfk' : (f : Int) ≤ (s.size : Int) := by omega
      clear hb HO HB HS
      go_wp2_with (at_builtin; refine wpList_append_sB rfl _ _ rfl w.heap.size _ _ _ rfl O2.out wr.heap.size (s.extract f s.size) rfl NB.out hol B2.out.size ?_)
      intro a' n' c' w4 hO4 hg4
      have B4 : Hid (Below w.heap.size w w4) := B2.out.trans ((only_of_grown hg4 (R := fun y => (Value.slice a n c).ownBlock = some y) (fun k q => q)).below B2.out.size (fun b hb q => by have := (World.ownsRow.lt O2.out b q).1; omega))
      have O4 : Hid (w4.ownsRow w.heap.size 9 1 (.slice a' n' c') (prt s).length ((prt s).map Value.string)) := by
        show World.ownsRow _ _ _ _ _ _ _
        rw [HP.out, List.map_map, List.length_map, List.map_append, List.length_append, List.map_cons, List.map_nil]
        show World.ownsRow _ _ _ _ _ _ ((os.map fun l => Value.string ⟨l.toArray⟩) ++ [Value.string ⟨((s.data.toList.drop f).take (s.size - f)).toArray⟩])
        rw [ext_data]
        exact hO4
      clear hO4 hg4 O2 B2 NB
      go_wp2
      go_ret
      exact ⟨a', n', c', rfl, O4.out, B4.out⟩
end Go.Proofs.YtmogdijhlgonnabDoor

