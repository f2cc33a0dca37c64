/-
  What both Fills answer, for every slice of bytes and every size.
-/
import Derived.Test.YtijinngmfalfcabDoorImplPut
import Derived.Test.YtijinngmfalfcabDoorZeros
namespace Go.Proofs.YtijinngmfalfcabDoor
open Go.RowKit

/-- What Fill answers. -/
def fl (zs : List Int) (m : Int) : Option (List Int) := if (zs.length : Int) ≤ m ∧ m ≤ 4096 then some (zs ++ List.replicate (m - zs.length).toNat 0) else none
theorem fl_bad (zs : List Int) (m : Int) (h : m < zs.length ∨ 4096 < m) : fl zs m = none := by unfold fl; exact if_neg (by omega)
theorem fl_ok (zs : List Int) (k : Nat) (h : zs.length + k ≤ 4096) : fl zs ((zs.length : Int) + (k : Int)) = some (zs ++ List.replicate k 0) := by
  unfold fl
  rw [if_pos (by omega)]
  congr 3
  omega

set_option maxHeartbeats 800000 in
theorem specFill_any (a : Option Addr) (n c : Nat) (zs : List Int) (m : Int) (w : World) (h : Rd w a n c zs) (hlen : n ≤ 1099511627776) :
    Calls Tryd.prog 76 #[.slice a n c, .int .i64 m] w fun e w' => Put w (fl zs m) e w' := by
  have HN : Hid (n = zs.length) := h.1
  have HR := hid h
  clear h
  by_cases h0 : m < 0
  · have HF : Hid (fl zs m = none) := fl_bad zs m (by omega)
    go_enter Tryd.func76, Tryd.ntmps76
    go_wp2
    go_ret2
    exact ⟨Below.refl _ _, .inl ⟨HF.out, rfl⟩⟩
  · by_cases h1 : 4096 < m
    · have HF : Hid (fl zs m = none) := fl_bad zs m (by omega)
      go_enter Tryd.func76, Tryd.ntmps76
      go_wp2
      go_ret2
      exact ⟨Below.refl _ _, .inl ⟨HF.out, rfl⟩⟩
    · by_cases h2 : m < (n : Int)
      · have HF : Hid (fl zs m = none) := fl_bad zs m (by rw [← HN.out]; exact .inl h2)
        go_enter Tryd.func76, Tryd.ntmps76
        go_wp2
        go_ret2
        exact ⟨Below.refl _ _, .inl ⟨HF.out, rfl⟩⟩
      · obtain ⟨k, hk⟩ : ∃ k : Nat, m - (n : Int) = (k : Int) := ⟨(m - (n : Int)).toNat, by omega⟩
        have HF : Hid (fl zs m = some (zs ++ List.replicate k 0)) := by
          show fl zs m = some (zs ++ List.replicate k 0)
          have := fl_ok zs k (by rw [← HN.out]; omega)
          rw [← HN.out] at this
          rw [← this]; congr 1; omega
        have HK := hid hk
        have hkb : k ≤ 4096 := by omega
        clear hk
        go_enter Tryd.func76, Tryd.ntmps76
        go_wp2_with (at_builtin; refine wpList_append_rd rfl _ _ rfl w.heap.size _ [] rfl (ob_new w w.heap.size (Nat.le_refl _)) a n c zs rfl ?src ?b ?base ?_)
        case src => exact HR.out.kept ((Below.refl _ _).alloc (Nat.le_refl _) _)
        case b => rw [← HN.out]; omega
        intro v1 w1 hown1 hg1
        have hb1 : Below w.heap.size w w1 := Ob.below (ob_new w w.heap.size (Nat.le_refl _)) ((Below.refl _ _).alloc (Nat.le_refl _) _) (by simp) hg1
        have HO : Hid (Ob w1 w.heap.size v1 zs) := by show Ob w1 w.heap.size v1 zs; simpa using hown1
        clear hown1 hg1
        go_wp2_with (at_builtin; refine wpList_append_zeros rfl _ _ rfl w.heap.size _ zs rfl HO.out k (congrArg (Value.int .i64) HK.out) ?b2 ?base2 ?_)
        case b2 => rw [← HN.out]; omega
        case base2 => exact hb1.size
        intro v2 w2 hown2 hg2
        have hb2 : Below w.heap.size w w2 := Ob.below HO.out hb1 hb1.size hg2
        have HO2 := hid hown2
        clear hown2 hg2
        go_wp2
        go_ret2
        exact ⟨hb2, .inr ⟨v2, _, HF.out, rfl, HO2.out⟩⟩
/-- What fill does to the writer's state. -/
def fillSt (most : Nat) : Option (List Int) → Int → Option (List Int)
  | none, _ => none
  | some zs, m => if (zs.length : Int) ≤ m ∧ m ≤ most then some (zs ++ List.replicate (m - zs.length).toNat 0) else none

theorem rd_zero (w : World) (k : Nat) (hk : k ≤ 1048576) : Rd (w.alloc (.cells (madeCells #[.int .u8 0] k) 5)) (some ⟨w.heap.size, 0, none⟩) k k (List.replicate k 0) := by
  refine ⟨by simp, Nat.le_refl _, by omega, by omega, fun i => ?_, fun _ => ⟨w.heap.size, 0, rfl, by simp, fun i hi => ?_⟩⟩
  · by_cases hi : i < k
    · simp [hi]
    · rw [List.getElem?_eq_none (by simp; omega)]; simp
  · rw [World.cell?_alloc_at (hn := rfl)]
    simp [madeCells, hi, Nat.mod_one]

set_option maxHeartbeats 800000 in
theorem fill_any (g most : Nat) (st : Option (List Int)) (m : Int) (w : World) (h : Wr w g most st) (hm4 : most ≤ 1048576) (he : Err w 0) (he2 : Err w 1) (hg : 0 < g) :
    Calls Tryd.prog 82 #[.pointer (some ⟨g, 0, none⟩), .int .i64 m] w fun e w' => e = .returned (.tuple #[]) ∧ Below g w w' ∧ Wr w' g most (fillSt most st m) := by
  have HW := hid h
  have HE := hid he
  have hlt := h.lt
  obtain ⟨v, ev, zs, c0, c1, c2, f0, f2, ho, hl, hm, hb, hst⟩ := h
  obtain ⟨t, x, hx⟩ := he2
  obtain ⟨va, vc, hv⟩ := ho.shape
  have HO := hid ho
  have HB := hid hb
  have HV := hid hv
  rw [hv] at c0
  generalize hL : zs.length = L at hv hl c0
  have HL := hid hL
  clear ho hb hL hv he
  by_cases hbad : m < (L : Int) ∨ (most : Int) < m
  · rcases hst with ⟨rfl, rfl⟩ | ⟨⟨y, z, rfl⟩, rfl⟩
    · have HA : Hid (fillSt most (some zs) m = none) := by
        show fillSt most (some zs) m = none
        unfold fillSt
        exact if_neg (by rw [HL.out]; omega)
      rcases (by omega : m < (L : Int) ∨ (¬ m < (L : Int) ∧ (most : Int) < m)) with hb1 | ⟨hb1, hb3⟩
      all_goals
        clear hbad
        go_enter Tryd.func82, Tryd.ntmps82
        go_wp2_with (go_at_call 91; refine (fail_set g t x _ c2 f2).mono ?_; rintro e w1 ⟨rfl, hw1⟩)
        go_end0
        refine ⟨rfl, Below.setCell (p := ⟨g, 2, none⟩) (Below.refl g w) (Nat.le_refl g) _, ?_⟩
        rw [HA.out]
        exact wr_failed (by rw [c0, HV.out, HL.out]) c1 c2 f0 f2 HO.out (by rw [HL.out]; exact hl) hm HB.out
    · rcases (by omega : m < (L : Int) ∨ (¬ m < (L : Int) ∧ (most : Int) < m)) with hb1 | ⟨hb1, hb3⟩
      all_goals
        clear hbad
        go_enter Tryd.func82, Tryd.ntmps82
        go_wp2_with (go_at_call 91; refine (fail_keep g t x _ y z c2).mono ?_; rintro e w1 ⟨rfl, rfl⟩)
        go_end0
        exact ⟨rfl, Below.refl _ _, HW.out⟩
  · have hb1 : ¬ m < (L : Int) := by omega
    have hb2 : ¬ (most : Int) < m := by omega
    clear hbad
    rcases hst with ⟨rfl, rfl⟩ | ⟨⟨y, z, rfl⟩, rfl⟩
    · obtain ⟨k, hk⟩ : ∃ k : Nat, m - (L : Int) = (k : Int) := ⟨(m - (L : Int)).toNat, by omega⟩
      have hkb : k ≤ 1048576 := by omega
      have HK := hid hk
      clear hk
      have HA : Hid (fillSt most (some zs) m = addSt most (some zs) (List.replicate k 0)) := by
        show fillSt most (some zs) m = addSt most (some zs) (List.replicate k 0)
        have := HK.out
        have e1 : fillSt most (some zs) m = if (zs.length : Int) ≤ m ∧ m ≤ most then some (zs ++ List.replicate (m - zs.length).toNat 0) else none := rfl
        have e2 : addSt most (some zs) (List.replicate k 0) = if zs.length + (List.replicate k (0 : Int)).length ≤ most then some (zs ++ List.replicate k 0) else none := rfl
        rw [e1, e2, HL.out, this, if_pos (by omega), if_pos (by simp; omega)]
        simp
      have hmk : ∀ w, (Instr.makeSlice 46 (.int .i64 (m - (L : Int))) (.int .i64 (m - (L : Int)))).run Tryd.prog w = .ok (.slice (some ⟨w.heap.size, 0, none⟩) k k) (w.alloc (.cells (madeCells #[.int .u8 0] k) 5)) := fun w => by
        rw [HK.out]
        exact run_make_row' (P := Tryd.prog) 46 5 (.int .u8 0) 1 Tryd.underlying46 infoU8 rfl .i64 .i64 k (by omega) (by omega) w
      have HB0 := hid (show Below g w (w.alloc (.cells (madeCells #[.int .u8 0] k) 5)) from (Below.refl _ _).alloc (Nat.le_of_lt hlt) _)
      go_enter Tryd.func82, Tryd.ntmps82
      go_wp2_with (go_at_call 81; refine (add_any g most (some zs) _ k k (List.replicate k 0) _ (HW.out.alloc _) (HE.out.below HB0.out hg) (rd_zero w k hkb) (by omega)).mono ?_; rintro e w1 ⟨rfl, hb, hw⟩)
      go_end0
      exact ⟨rfl, HB0.out.trans hb, by rw [HA.out]; exact hw⟩
    · go_enter Tryd.func82, Tryd.ntmps82
      go_wp2
      go_end0
      exact ⟨rfl, Below.refl _ _, HW.out⟩
theorem fillSt_fl (zs : List Int) (m : Int) : fillSt 4096 (addSt 4096 (some []) zs) m = fl zs m := by
  rw [addSt_start]
  by_cases h : zs.length ≤ 4096
  · rw [if_pos h]; rfl
  · rw [if_neg h, fl_bad zs m (by omega)]; rfl

set_option maxHeartbeats 400000 in
theorem implFill_any (a : Option Addr) (n c : Nat) (zs : List Int) (m : Int) (w : World) (h : Rd w a n c zs) (hlen : n ≤ 1099511627776)
    (he : Err w 0) (he2 : Err w 1) (hg : 0 < w.heap.size) (hg2 : 1 < w.heap.size) :
    Calls Tryd.prog 70 #[.slice a n c, .int .i64 m] w fun e w' => Put w (fl zs m) e w' := by
  have HR := hid h
  have HE := hid he
  have HE2 := hid he2
  have HG := hid hg
  have HG2 := hid hg2
  have HP := hid (fillSt_fl zs m)
  clear h he he2 hg hg2
  go_enter Tryd.func70, Tryd.ntmps70
  go_wp2_with fail
  refine (newWriter_any 4096 a n c zs w HE.out HG.out HR.out hlen (by omega)).mono ?_
  rintro e w1 ⟨rfl, hb1, hw1⟩
  have HB1 := hid hb1
  have HW1 := hid hw1
  clear hb1 hw1
  go_wp2_with fail
  refine (fill_any w.heap.size 4096 _ m w1 HW1.out (by omega) (HE.out.below HB1.out HG.out) (HE2.out.below HB1.out HG2.out) HG.out).mono ?_
  rintro e w2 ⟨rfl, hb2, hw2⟩
  have HB2 := hid (HB1.out.trans hb2)
  have HW2 := hid hw2
  clear hb2 hw2
  go_wp2_with fail
  refine (told_put w w2 4096 _ HW2.out HB2.out).mono ?_
  rintro e w3 ⟨v, b, rfl, ⟨a3, n3, c3, hv⟩, hput⟩
  rw [HP.out] at hput
  have HQ := hid hput
  clear hput
  rw [hv] at HQ
  rw [hv]
  go_wp2
  go_ret2
  exact HQ.out
end Go.Proofs.YtijinngmfalfcabDoor

