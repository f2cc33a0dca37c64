/-
  A range cut at the splits: the specification's function and the program's own.
-/
import Derived.Test.YtbfgjadonilonaaCutP
namespace Go.Proofs.Ytbfgjadonilonaa
open Go.RowKit
theorem thn3 {u v v' : World} (h : Below u.heap.size u v) (k : Below v.heap.size v v') : Below u.heap.size u v' := h.trans (k.mono h.size)
theorem Pw.lower {w : World} {B B' : Nat} {v : Value} {ps : List (Int × ByteArray × ByteArray)} (h : Pw w B v ps) (hB : B' ≤ B) : Pw w B' v ps := by
  obtain ⟨h1, h2⟩ := h
  refine ⟨h1, ?_⟩
  rcases h2 with h | ⟨g, cap, cur, e, hb, rest⟩
  · exact .inl h
  · exact .inr ⟨g, cap, cur, e, Nat.le_trans hB hb, rest⟩
theorem pw_new' (w : World) (B : Nat) (hB : B ≤ w.heap.size) (g : Nat) (hg : w.heap.size = g) : Pw (w.alloc (.cells #[] 50)) B (.slice (some ⟨g, 0, none⟩) 0 0) [] := by
  subst hg
  exact pw_new w B hB
theorem cut_end {w : World} {B j n : Nat} {v : Value} {ss : List ByteArray} {lo hi : ByteArray} (h : Pw w B v (cutTo ss lo hi j)) (hj : j = n + 1) (hn : n = ss.length) : Pw w B v (cutL ss lo hi) := by
  rw [hj, hn] at h
  exact h
set_option maxHeartbeats 4000000 in
theorem specCut_any (a : Option Addr) (n c : Nat) (ss : List ByteArray) (lo hi : ByteArray) (w : World) (h : Sd w a n c ss) (hn : n ≤ 1048576) :
    Calls Try.prog 19 #[.slice a n c, rng lo hi] w fun e w' => ∃ v, e = .returned v ∧ Pw w' w.heap.size v (cutL ss lo hi) ∧ Below w.heap.size w w' := by
  show Calls Try.prog 19 #[.slice a n c, .agg #[.string lo, .string hi]] w _
  have HN : Hid (n = ss.length) := h.1
  have L0 := hid (below_alloc w (.cells #[.string lo, .string hi] 30))
  have H0 := hid (h.kept (below_alloc w (.cells #[.string lo, .string hi] 30)))
  have B0 := hid (Blk.new w lo hi)
  have P0 := hid (pw_new' (w.alloc (.cells #[.string lo, .string hi] 30)) (w.alloc (.cells #[.string lo, .string hi] 30)).heap.size (Nat.le_refl _) (w.heap.size + 1) (by simp))
  clear h
  go_enter Try.func19, Try.ntmps19
  go_wp2_with fail
  generalize w.alloc (.cells #[.string lo, .string hi] 30) = u at *
  go_loopw [5, 6] (fun v i wr => ∃ j : Nat, j ≤ n + 1 ∧ i = .int .i64 j ∧ Hid (Below u.heap.size u wr) ∧ Hid (Pw wr u.heap.size v (cutTo ss lo hi j))) (fun _ i _ => n + 1 - (intOf i).toNat)
  case atStart => exact ⟨0, by omega, rfl, below_alloc _ _, P0.out⟩
  case round =>
    obtain ⟨j, hj, rfl, HB, HP⟩ := hrel
    by_cases hle : j ≤ n
    · have hle' : (j : Int) ≤ (n : Int) := by omega
      have HS : Hid (cutTo ss lo hi (j + 1) = cutTo ss lo hi j ++ (if (pOk ss (j : Int) && bth (pLo ss (j : Int)) (pHi ss (j : Int)) lo hi) = true then [((j : Int), bLo (pLo ss (j : Int)) (pHi ss (j : Int)) lo hi, bHi (pLo ss (j : Int)) (pHi ss (j : Int)) lo hi)] else [])) := rfl
      have HL := hid (cutTo_length ss lo hi j)
      go_wp2_with fail
      refine (specPartOf_any a n c ss j _ (H0.out.kept HB.out) (by omega) (by omega)).mono ?_
      rintro e v1 ⟨rfl, hb1⟩
      have B1 := hid (thn3 HB.out hb1)
      have P1 := hid (HP.out.below hb1)
      clear hb1 HB HP
      generalize pLo ss j = X at *
      generalize pHi ss j = Y at *
      have B2 := hid (thn3 B1.out (below_alloc v1 (.cells #[.string X, .string Y] 30)))
      have P2 := hid (P1.out.alloc (.cells #[.string X, .string Y] 30))
      clear B1 P1
      obtain ⟨r0, r1, _, _⟩ := (B0.out.kept B2.out).facts
      go_wp2_with fail
      refine (specRangeBoth_x X Y lo hi _).mono ?_
      rintro e v2 ⟨rfl, hb1⟩
      have B3 := hid (thn3 B2.out hb1)
      have P3 := hid (P2.out.below hb1)
      clear hb1 B2 P2 r0 r1
      generalize bLo X Y lo hi = M at *
      generalize bHi X Y lo hi = N at *
      have B4 := hid (thn3 B3.out (below_alloc v2 (.cells #[.string M, .string N] 30)))
      have P4 := hid (P3.out.alloc (.cells #[.string M, .string N] 30))
      clear B3 P3
      cases hok : pOk ss j
      · rw [hok, Bool.false_and, if_neg (by decide), List.append_nil] at HS
        go_wp2
        go_roundw
        case rel => exact ⟨j + 1, by omega, by go_num, B4.out, HS.out.symm ▸ P4.out⟩
        case measure => simp [intOf]; omega
      · cases hm : bth X Y lo hi
        · rw [hm, Bool.and_false, if_neg (by decide), List.append_nil] at HS
          go_wp2
          go_roundw
          case rel => exact ⟨j + 1, by omega, by go_num, B4.out, HS.out.symm ▸ P4.out⟩
          case measure => simp [intOf]; omega
        · rw [hok, hm, if_pos (by decide)] at HS
          go_wp2_with (at_builtin; refine wpList_append_part rfl _ _ rfl u.heap.size _ (cutTo ss lo hi j) rfl (P4.out.alloc _) (v2.heap.size + 1) (j : Int) M N rfl ?c0 ?c1 ?c2 ?b ?base ?_)
          case c0 => go_simp
          case c1 => go_simp
          case c2 => go_simp
          case b => have := HL.out; omega
          case base => have := B4.out.size; simp at this ⊢; omega
          intro v3 w3 hp3 hg3
          have P5 := hid hp3
          have B5 := hid ((P4.out.alloc (.cells #[.int .i64 j, .string M, .string N] 50)).belowOf (thn3 B4.out (below_alloc _ (.cells #[.int .i64 j, .string M, .string N] 50))) (thn3 B4.out (below_alloc _ (.cells #[.int .i64 j, .string M, .string N] 50))).size hg3)
          clear hp3 hg3
          go_wp2
          go_roundw
          case rel => exact ⟨j + 1, by omega, by go_num, B5.out, HS.out.symm ▸ P5.out⟩
          case measure => simp [intOf]; omega
    · have hle' : ¬ (j : Int) ≤ (n : Int) := by omega
      have hjn : j = n + 1 := by omega
      have HR := hid (cut_end HP.out hjn HN.out)
      go_wp2
      go_ret
      exact ⟨_, rfl, HR.out.lower L0.out.size, thn3 L0.out HB.out⟩
set_option maxHeartbeats 4000000 in
theorem implCut_any (a : Option Addr) (n c : Nat) (ss : List ByteArray) (lo hi : ByteArray) (w : World) (h : Sd w a n c ss) (hn : n ≤ 1048576) :
    Calls Try.prog 21 #[.slice a n c, rng lo hi] w fun e w' => ∃ v, e = .returned v ∧ Pw w' w.heap.size v (cutL ss lo hi) ∧ Below w.heap.size w w' := by
  show Calls Try.prog 21 #[.slice a n c, .agg #[.string lo, .string hi]] w _
  have HN : Hid (n = ss.length) := h.1
  have L0 := hid (below_alloc w (.cells #[.string lo, .string hi] 30))
  have H0 := hid (h.kept (below_alloc w (.cells #[.string lo, .string hi] 30)))
  have B0 := hid (Blk.new w lo hi)
  clear h
  go_enter Try.func21, Try.ntmps21
  go_wp2_with fail
  refine (implSplitsOk_any a n c ss _ H0.out).mono ?_
  generalize w.alloc (.cells #[.string lo, .string hi] 30) = u0 at *
  rintro e u ⟨rfl, hb1⟩
  have L1 := hid (thn3 L0.out hb1)
  have H1 := hid (H0.out.kept hb1)
  have B1 := hid (B0.out.kept hb1)
  clear hb1 L0 H0 B0
  cases hs : sOk ss
  · have HR : Hid (cutL ss lo hi = []) := cutTo_no ss lo hi hs _
    go_wp2
    go_ret
    exact ⟨_, rfl, HR.out.symm ▸ pw_nil _ _, L1.out⟩
  · have HO : Hid (∀ j : Nat, j ≤ n → pOk ss (j : Int) = true) := fun j hj => by have := HN.out; simp [pOk, hs]; omega
    go_wp2_with fail
    go_loopw [5, 6, 17] (fun v x i wr => ∃ j : Nat, j ≤ n + 1 ∧ i = .int .i64 j ∧ Hid (Below u.heap.size u wr) ∧ Hid (Pw wr u.heap.size v (cutTo ss lo hi j))) (fun _ _ i _ => n + 1 - (intOf i).toNat)
    case atStart => exact ⟨0, by omega, rfl, Below.refl _ _, pw_nil _ _⟩
    case round =>
      obtain ⟨j, hj, rfl, HB, HP⟩ := hrel
      by_cases hle : j ≤ n
      · have hle' : (j : Int) < (n : Int) + 1 := by omega
        have HS : Hid (cutTo ss lo hi (j + 1) = cutTo ss lo hi j ++ (if (pOk ss (j : Int) && bth (pLo ss (j : Int)) (pHi ss (j : Int)) lo hi) = true then [((j : Int), bLo (pLo ss (j : Int)) (pHi ss (j : Int)) lo hi, bHi (pLo ss (j : Int)) (pHi ss (j : Int)) lo hi)] else [])) := rfl
        have HL := hid (cutTo_length ss lo hi j)
        have hok := HO.out j hle
        go_wp2_with fail
        refine (implPartOf_any a n c ss j _ (H1.out.kept HB.out) (by omega) (by omega)).mono ?_
        rintro e v1 ⟨rfl, hb1⟩
        have B2 := hid (thn3 HB.out hb1)
        have P2 := hid (HP.out.below hb1)
        clear hb1 HB HP
        generalize pLo ss j = X at *
        generalize pHi ss j = Y at *
        have B3 := hid (thn3 B2.out (below_alloc v1 (.cells #[.string X, .string Y] 30)))
        have P3 := hid (P2.out.alloc (.cells #[.string X, .string Y] 30))
        clear B2 P2
        obtain ⟨r0, r1, _, _⟩ := (B1.out.kept B3.out).facts
        go_wp2_with fail
        refine (implRangeBoth_x X Y lo hi _).mono ?_
        rintro e v2 ⟨rfl, hb1⟩
        have B4 := hid (thn3 B3.out hb1)
        have P4 := hid (P3.out.below hb1)
        clear hb1 B3 P3 r0 r1
        generalize bLo X Y lo hi = M at *
        generalize bHi X Y lo hi = N at *
        have B5 := hid (thn3 B4.out (below_alloc v2 (.cells #[.string M, .string N] 30)))
        have P5 := hid (P4.out.alloc (.cells #[.string M, .string N] 30))
        clear B4 P4
        cases hm : bth X Y lo hi
        · rw [hm, Bool.and_false, if_neg (by decide), List.append_nil] at HS
          go_wp2
          go_roundw
          case rel => exact ⟨j + 1, by omega, by go_num, B5.out, HS.out.symm ▸ P5.out⟩
          case measure => simp [intOf]; omega
        · rw [hok, hm, if_pos (by decide)] at HS
          go_wp2_with (at_builtin; refine wpList_append_part rfl _ _ rfl u.heap.size _ (cutTo ss lo hi j) rfl (P5.out.alloc _) (v2.heap.size + 1) (j : Int) M N rfl ?c0 ?c1 ?c2 ?b ?base ?_)
          case c0 => go_simp
          case c1 => go_simp
          case c2 => go_simp
          case b => have := HL.out; omega
          case base => have := B5.out.size; simp at this ⊢; omega
          intro v3 w3 hp3 hg3
          have P6 := hid hp3
          have B6 := hid ((P5.out.alloc (.cells #[.int .i64 j, .string M, .string N] 50)).belowOf (thn3 B5.out (below_alloc _ (.cells #[.int .i64 j, .string M, .string N] 50))) (thn3 B5.out (below_alloc _ (.cells #[.int .i64 j, .string M, .string N] 50))).size hg3)
          clear hp3 hg3
          go_wp2
          go_roundw
          case rel => exact ⟨j + 1, by omega, by go_num, B6.out, HS.out.symm ▸ P6.out⟩
          case measure => simp [intOf]; omega
      · have hle' : ¬ (j : Int) < (n : Int) + 1 := by omega
        have hjn : j = n + 1 := by omega
        have HR := hid (cut_end HP.out hjn HN.out)
        go_wp2
        go_ret
        exact ⟨_, rfl, HR.out.lower L1.out.size, thn3 L1.out HB.out⟩
end Go.Proofs.Ytbfgjadonilonaa
